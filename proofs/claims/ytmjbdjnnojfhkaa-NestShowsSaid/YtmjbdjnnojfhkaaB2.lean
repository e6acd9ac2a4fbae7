/- Texts S21 to S183. -/
import Derived.Test.YtmjbdjnnojfhkaaB1
section
namespace Go.Proofs.Ytmjbdjnnojfhkaa.spec
open Go.Ev Go.Proofs.Ytmjbdjnnojfhkaa.nestFits Go.Proofs.Ytmjbdjnnojfhkaa.G
set_option maxRecDepth 100000
variable {ρ:Type}
noncomputable def oY:List Int:=List.replicate 16 0
theorem rj:oY.length=16:=rfl
theorem Vq:iJ P 111=some (.agg ⟨ints (bW 0 oY oY)⟩):=by kernel_rfl
theorem build113(y:Int){L:List Int}(hL:L.length=16):fK P 111 [(0,.int .i64 y),(1,.agg ⟨ints L⟩)]=some (.agg ⟨ints (bW y L oY)⟩):=by
 match L,hL with
 | [a0,a1,a2,a3,a4,a5,a6,a7,a8,a9,a10,a11,a12,a13,a14,a15],_=>
  show fK P 111 [(0,.int .i64 y),(1,.agg ⟨ints [a0,a1,a2,a3,a4,a5,a6,a7,a8,a9,a10,a11,a12,a13,a14,a15]⟩)]=some (.agg ⟨ints (bW y [a0,a1,a2,a3,a4,a5,a6,a7,a8,a9,a10,a11,a12,a13,a14,a15] oY)⟩)
  kernel_rfl
theorem res115(H:Hp)(b:Nat):resV P (Tr.set Tr.nil 4 (some (.pointer (some ⟨b,0,none⟩)))) H gJ=(match az P H 111 ⟨b,0,none⟩ with
 | none=>none
 | some v=>some [v]):=by kernel_rfl
theorem nest_set{y a b:Int}{L B:List Int}(hL:L.length=16)(j:Nat):((bW y L B).set (17+j) a).set (17+j+1) b=bW y L ((B.set j a).set (j+1) b):=by
 unfold bW
 rw[show 17+j=(16+j)+1 by omega,List.set_cons_succ,List.set_cons_succ,List.set_append_right _ _ (by omega),List.set_append_right _ _ (by omega),hL]
 rw[show 16+j-16=j by omega,show 16+j+1-16=j+1 by omega]
def mV(y:Int)(L B:List Int)(i:Nat):Prop:=B.length=16∧∀ p,p<i→B.getD (p * 2) 0=ext y L 0 p∧B.getD (p * 2+1) 0=ext y L 1 p
theorem mV.next{y:Int}{L B:List Int}{i:Nat}(h:mV y L B i)(hi:i<8):mV y L ((B.set (i * 2) (ext y L 0 i)).set (i * 2+1) (ext y L 1 i)) (i+1):=by
 obtain⟨h1,h2⟩:=h
 refine⟨by simp [h1],fun p hp=>?_⟩
 simp only[List.getD_eq_getElem?_getD,List.getElem?_set,List.length_set,h1]
 by_cases e:p=i
 ·subst e
  rw[if_neg (show ¬ p * 2+1=p * 2 by omega),if_pos rfl,if_pos (show p * 2<16 by omega),if_pos rfl,if_pos (show p * 2+1<16 by omega)]
  exact⟨rfl,rfl⟩
 ·obtain⟨g1,g2⟩:=h2 p (by omega)
  rw[List.getD_eq_getElem?_getD] at g1 g2
  rw[if_neg (by omega),if_neg (by omega),if_neg (by omega),if_neg (by omega)]
  exact⟨g1,g2⟩
theorem newNest_loop(l k:Nat){y:Int}{L:List Int}(hL:L.length=16)(hb:iW L)(hy:0≤y∧y≤1000)(b4 b5:Nat)(hne:b4≠b5):∀(m i:Nat) (B:List Int) (w:List Value) (H:Hp) (n:Nat),b4<n→b5<n →
  H.get b5=some (.cells (ints (bW y L B)) 111 false none)→H.get b4=some (.cells w 111 false none)→w.length=33→mV y L B i→i≤8→8-i≤m →
  ∃ B' H' n',S115_1 (cal (l+3)) k m (.pointer (some ⟨b4,0,none⟩)) (.pointer (some ⟨b5,0,none⟩)) (.int .i64 i) H n=some (.agg ⟨ints (bW y L B')⟩,H',n')∧mV y L B' 8:=by
 have body:∀(b1:Value→Value→Value→Hp→Nat→Res) (m i:Nat) (B:List Int) (w:List Value) (H:Hp) (n:Nat),b4<n→b5<n →
   H.get b5=some (.cells (ints (bW y L B)) 111 false none)→H.get b4=some (.cells w 111 false none)→w.length=33→mV y L B i→i≤8 →
   (∀ B2 H2 n2,b4<n2→b5<n2→H2.get b5=some (.cells (ints (bW y L B2)) 111 false none)→H2.get b4=some (.cells w 111 false none)→mV y L B2 (i+1)→i<8 →
    ∃ B' H' n',b1 (.pointer (some ⟨b4,0,none⟩)) (.pointer (some ⟨b5,0,none⟩)) (.int .i64 ((i+1:Nat):Int)) H2 n2=some (.agg ⟨ints (bW y L B')⟩,H',n')∧mV y L B' 8) →
   ∃ B' H' n',Zx (cal (l+3)) k m b1 (.pointer (some ⟨b4,0,none⟩)) (.pointer (some ⟨b5,0,none⟩)) (.int .i64 i) H n=some (.agg ⟨ints (bW y L B')⟩,H',n')∧mV y L B' 8:=by
  intro b1 m i B w H n hb4 hb5 hg5 hg4 hw hB hi ih
  have lens:(ints (bW y L B)).length=33:=by rw[bv,gk hL hB.1]
  have hld:=fY hg5 Tq Gk lens
  unfold Zx B115_1
  rw[ax cJ,gw]
  by_cases hlt:i<8
  ·rw[if_pos (by omega),ak,aj,hld,aj,aj,hld,aj,fa113_2,aj]
   obtain⟨H1,n1,e1,f1,g1⟩:=effK_grow (P:=P) (ρ:=Value × Hp × Nat) (ex:=[.l 111 ⟨b5,0,none⟩,.l 111 ⟨b5,0,none⟩]) (H:=H) (n:=n) (v:=endV 0)
    (op:=fun H n k=>aX P (cal (l+3)) 121 [] H n fun v H n=>k v H n)
    (fun q hq=>by simp only[List.mem_cons,List.not_mem_nil,or_false,or_self] at hq; subst hq; exact⟨_,_,rfl,hb5,.inl ⟨_,_,_,_,hg5⟩⟩)
    (fun Hm=>by obtain⟨H',n',h1,h2,h3⟩:=lowEnd_call (ρ:=Value × Hp × Nat) (l+2) Hm n; exact⟨H',n',fun k=>h1 _,h2,h3⟩)
   rw[e1]
   have k5:H1.get b5=some (.cells (ints (bW y L B)) 111 false none):=(g1 b5 hb5).trans hg5
   have k4:H1.get b4=some (.cells w 111 false none):=(g1 b4 hb4).trans hg4
   obtain⟨H2,s2,e2⟩:=AQ (P:=P) (ρ:=Value × Hp × Nat) (ex:=[.l 111 ⟨b5,0,none⟩]) (H:=H1) (n:=n1) (v:=.int .i64 (ext y L 0 i))
    (op:=fun H n k=>aX P (cal (l+3)) 120 [.agg ⟨ints (bW y L B)⟩,.int .i64 i,endV 0] H n fun v H n=>k v H n)
    ⟨fun q hq=>.inl (by simp only[List.mem_cons,List.not_mem_nil,or_false] at hq; subst hq; exact⟨_,_,rfl,.inl ⟨_,_,_,_,k5⟩⟩),fun t a id c e h1 h2=>by simp at h2⟩
    (fun H k=>extreme_call l (by omega) hL hB.1 hb hy hlt H _ _)
   rw[e2]
   have j5:H2.get b5=some (.cells (ints (bW y L B)) 111 false none):=(s2 b5).trans k5
   have j4:H2.get b4=some (.cells w 111 false none):=(s2 b4).trans k4
   obtain⟨H3,n3,e3,f3,g3⟩:=effK_grow (P:=P) (ρ:=Value × Hp × Nat) (ex:=[.l 111 ⟨b5,0,none⟩]) (H:=H2) (n:=n1) (v:=endV 1)
    (op:=fun H n k=>aX P (cal (l+3)) 122 [] H n fun v H n=>k v H n)
    (fun q hq=>by simp only[List.mem_cons,List.not_mem_nil,or_false] at hq; subst hq; exact⟨_,_,rfl,by show b5<n1; omega,.inl ⟨_,_,_,_,j5⟩⟩)
    (fun Hm=>by obtain⟨H',n',h1,h2,h3⟩:=highEnd_call (ρ:=Value × Hp × Nat) (l+2) Hm n1; exact⟨H',n',fun k=>h1 _,h2,h3⟩)
   rw[e3,extreme_call l (by omega) hL hB.1 hb hy hlt,build53,aj,at111 b5 (0+17) hlt,aj,qdk]
   have i5:H3.get b5=some (.cells (ints (bW y L B)) 111 false none):=(g3 b5 (by omega)).trans j5
   have i4:H3.get b4=some (.cells w 111 false none):=(g3 b4 (by omega)).trans j4
   rw[show 0+17+i * 2=17+i * 2 by omega,XW i5 (by rw[gk hL hB.1]; omega),nest_set hL,aj]
   have hI:I64 ((i:Int)+1):=by unfold I64; omega
   have hcast:((i:Int)+1)=((i+1:Nat):Int):=by omega
   rw[ax (bk hI),hcast]
   exact ih _ _ n3 (by omega) (by omega) (by rw[Tr.get_set,if_pos rfl]) (by rw[Tr.get_set,if_neg hne]; exact i4) (hB.next hlt) hlt
  ·rw[if_neg (by omega),ak,aj,hld,aj,xq Gk lens,rV hg4 (by rw[lens,hw]) (kJ _),aj,res115]
   have hgw:(H.set b4 (some (.cells (ints (bW y L B)) 111 false none))).get b4=some (.cells (ints (bW y L B)) 111 false none):=by rw[Tr.get_set,if_pos rfl]
   rw[fY hgw Tq Gk lens]
   have hi':i=8:=by omega
   subst hi'
   exact⟨B,_,_,rfl,hB⟩
 intro m
 induction m with
 | zero=>
  intro i B w H n h1 h2 h3 h4 h5 h6 h7 h8
  exact body _ 0 i B w H n h1 h2 h3 h4 h5 h6 h7 (fun _ _ _ _ _ _ _ _ h=>by omega)
 | succ m ih=>
  intro i B w H n h1 h2 h3 h4 h5 h6 h7 h8
  exact body _ (m+1) i B w H n h1 h2 h3 h4 h5 h6 h7 (fun B2 H2 n2 q1 q2 q3 q4 q5 q6=>ih (i+1) B2 w H2 n2 q1 q2 q3 q4 h5 q5 (by omega) (by omega))
theorem newNest_spec(l:Nat){y:Int}{L:List Int}(hL:L.length=16)(hb:iW L)(hy:0≤y∧y≤1000) :
  ∃ B H' n',Zy (cal (l+3)) KK (.int .i64 y) (.agg ⟨ints L⟩) .nil 0=some (.agg ⟨ints (bW y L B)⟩,H',n')∧mV y L B 8:=by
 unfold Zy B115_0
 rw[dZ,jw Vq]
 have hg0:(((Tr.nil:Hp).set 0 (some (.cells (ints L) 109 false none))).set (0+1) (some (.cells (ints (bW 0 oY oY)) 111 false none))).get 0=some (.cells (ints L) 109 false none):=by rw[Tr.get_set,if_neg (by omega),Tr.get_set,if_pos rfl]
 have hg1:(((Tr.nil:Hp).set 0 (some (.cells (ints L) 109 false none))).set (0+1) (some (.cells (ints (bW 0 oY oY)) 111 false none))).get 1=some (.cells (ints (bW 0 oY oY)) 111 false none):=by rw[Tr.get_set,if_pos rfl]
 simp only[aZ,ptr]
 generalize ((Tr.nil:Hp).set 0 (some (.cells (ints L) 109 false none))).set (0+1) (some (.cells (ints (bW 0 oY oY)) 111 false none))=H1 at hg0 hg1 ⊢
 have hl:=fY hg0 agg111 sz111 (by rw[bv,hL])
 rw[ak,aj,hl,aj,build113 y hL,aj]
 have lens:(ints (bW y L oY)).length=33:=by rw[bv,gk hL rj]
 obtain⟨H2,k1,k2,k3⟩:=vk (P:=P) (ρ:=Value × Hp × Nat) (H:=H1) (n:=0+1+1) (L:=ints (bW y L oY)) Vq (by show(ints (bW 0 oY oY)).length=33; rw[bv,gk rj rj]) Gk lens (kJ _)
 rw[k3]
 exact newNest_loop l KK hL hb hy 1 2 (by omega) KK 0 oY (ints (bW 0 oY oY)) H2 3 (by omega) (by omega) k2 ((k1 1 (by omega)).trans hg1) (by rw[bv,gk rj rj]) ⟨rfl,fun p hp=>by omega⟩ (by omega) (by unfold KK; omega)
theorem flat115:iY P 115=true:=by kernel_rfl
theorem call115(l:Nat)(a b:Value)(H:Hp)(n:Nat):(cal (l+1)).call 115 [a,b] H n=Zy (cal l) KK a b H n:=
 (show(cal (l+1)).call 115 [a,b] H n=Pq ent115 (cal l) [a,b] H n by kernel_rfl).trans (Pv ..)
theorem newNest_call(l:Nat){y:Int}{L:List Int}(hL:L.length=16)(hb:iW L)(hy:0≤y∧y≤1000):∃ B,mV y L B 8∧∀(H:Hp) (n:Nat) (k:Value→Hp→Nat→Option ρ),
  aX P (cal (l+4)) 115 [.int .i64 y,.agg ⟨ints L⟩] H n k=k (.agg ⟨ints (bW y L B)⟩) H n:=by
 obtain⟨B,H',n',h,hB⟩:=newNest_spec l hL hb hy
 refine⟨B,hB,fun H n k=>iZ flat115 ?_ ((call115 ..).trans h) ?_⟩
 ·simp only[ck,bw,ox,Ez,Bool.and_self]
 ·simp only[bw,ox,Ez]
end Go.Proofs.Ytmjbdjnnojfhkaa.spec
end
section
namespace Go.Proofs.Ytmjbdjnnojfhkaa.spec
open Go Go.Ev Go.Proofs.Ytmjbdjnnojfhkaa.nestFits Go.Proofs.Ytmjbdjnnojfhkaa.G
set_option maxRecDepth 100000
variable {ρ:Type}
noncomputable def code97:Code:=dj 97
noncomputable def AV:List ResultVar:=fk 97
noncomputable def asgOf:Code→Code
 | .rangeFunc _ _ a _=>a
 | _=>.skip
noncomputable def bodOf:Code→Code
 | .rangeFunc _ _ _ b=>b
 | _=>.skip
noncomputable def uj:Code:=asgOf (cL (cR (cL (cR (cR code97)))))
noncomputable def uq:Code:=bodOf (cL (cR (cL (cR (cR code97)))))
noncomputable def K97(c:Cal)(k:Nat):KC (Value × Hp × Nat):=cj P c (aK P c k) none 97 (cR (cR (cR code97))) .leaf (av P AV) X0 (av P AV)
noncomputable def T97(v0 v1 v2 v5 v6 v7 v11:Value):Tm:=(((((((((Tr.nil:Tm).set 0 (some v0)).set 1 (some v1)).set 2 (some v2)).set 5 (some v5)).set 6 (some v6)).set 7 (some v7)).set 9 (some v0)).set 10 (some v1)).set 11 (some v11)
theorem pre97(c:Cal)(k:Nat)(v0 v1 v2:Value)(H:Hp)(n:Nat):aY P c A (k+1) 97 [v0,v1,v2] H n =
  (boxK 86 v2 H n fun v5 H n=>eQ P 111 H n fun v6 H n=>eQ P 109 H n fun v7 H n=>aX P c 113 [v0,v1] H n fun v11 H n=>
   EZ P c none 97 v11 #[12] uj uq (K97 c k) (upX 0 (K97 c k) X0) (av P AV) (T97 v0 v1 v2 v5 v6 v7 v11) H n []):=by
 rw[bY (fn:=Go.Proofs.Try.f97) (c:=code97) (rs:=AV) (by kernel_rfl) (by kernel_rfl) (by kernel_rfl) (by kernel_rfl)]
 kernel_rfl
theorem post97(c:Cal)(k:Nat)(v0 v1 v2 v5 v6 v7 v11:Value)(H:Hp)(n:Nat)(D:List Nat):K97 c k (T97 v0 v1 v2 v5 v6 v7 v11) H n D =
  (aq (aw P 86 v5 1) fun v18=>aq (aV v18) fun a=>aq (az P H 53 a) fun v19=>aq (aJ P 109 v7 v1) fun v20=>aq (bX P 53 v20 v19 H) fun H=>
   aq (aw P 86 v5 0) fun v21=>aq (aV v21) fun a=>aq (az P H 3 a) fun v22=>aq (aV v7) fun a=>aq (az P H 109 a) fun v23=>aX P c 115 [v22,v23] H n fun v24 H n=>
   aq (bX P 111 v6 v24 H) fun H=>getK (wj H D) fun H=>aq (resV P ((Tr.nil:Tm).set 6 (some v6)) H AV) fun vs=>some (oneV vs,H,n)):=by
 kernel_rfl
theorem call97(l:Nat)(a b c:Value)(H:Hp)(n:Nat):(cal (l+1)).call 97 [a,b,c] H n=aY P (cal l) A (KK+1) 97 [a,b,c] H n:=by kernel_rfl
theorem asg97_eq(l lp:Nat)(v0 v1 v2 v5 v6 v7 v11 p:Value)(H:Hp)(n:Nat) :
  (cal (l+1)).body lp 97 uj { T:=(T97 v0 v1 v2 v5 v6 v7 v11).set 12 (some p),H,n,D:=[] }=some (.norm,{ T:=((T97 v0 v1 v2 v5 v6 v7 v11).set 12 (some p)).set 8 (some p),H,n,D:=[] }):=by kernel_rfl
theorem bod97_eq(l lp:Nat)(v0 v1 v2 v5 v6 v7 v11 p:Value)(H:Hp)(n:Nat) :
  (cal (l+1)).body lp 97 uq { T:=((T97 v0 v1 v2 v5 v6 v7 v11).set 12 (some p)).set 8 (some p),H,n,D:=[] } =
   (aq (aw P 86 v5 2) fun v14=>aq (aV v14) fun a=>aq (az P H 53 a) fun v15=>aq (aJ P 109 v7 p) fun v16=>aq (bX P 53 v16 v15 H) fun H'=>
    some (.norm,{ T:=((((((T97 v0 v1 v2 v5 v6 v7 v11).set 12 (some p)).set 8 (some p)).set 13 (some p)).set 14 (some v14)).set 15 (some v15)).set 16 (some v16),H:=H',n,D:=[] })):=by kernel_rfl
theorem res97(H:Hp)(b:Nat):resV P ((Tr.nil:Tm).set 6 (some (.pointer (some ⟨b,0,none⟩)))) H AV=(match az P H 111 ⟨b,0,none⟩ with
 | none=>none
 | some v=>some [v]):=by kernel_rfl
theorem ntm97:ntm P 97=25:=by kernel_rfl
theorem agg105:fJ P 103=some false:=by kernel_rfl
theorem agg4:fJ P 4=some false:=by kernel_rfl
theorem und109:P.underlying 107=some (.array 8 106):=by kernel_rfl
theorem und108:P.underlying 106=some (.array 8 4):=by kernel_rfl
theorem sz108:szT P 106=some 8:=by kernel_rfl
theorem sz4:szT P 4=some 1:=by kernel_rfl
theorem tw(b o:Nat):aw P 115 (.pointer (some ⟨b,o,none⟩)) 0=some (.pointer (some ⟨b,o+0,none⟩)):=by kernel_rfl
theorem fa117_1(b o:Nat):aw P 115 (.pointer (some ⟨b,o,none⟩)) 1=some (.pointer (some ⟨b,o+3,none⟩)):=by kernel_rfl
theorem qex(b o:Nat):aw P 115 (.pointer (some ⟨b,o,none⟩)) 2=some (.pointer (some ⟨b,o+67,none⟩)):=by kernel_rfl
theorem HQ{i n:Nat}(hi:i<n):qY (.int .i64 (i:Int)) n=some i:=by
 show qY (.int .i64 (.ofNat i)) n=some i
 simp [qY,hi]
theorem at109(b o:Nat){i:Nat}(hi:i<8):aJ P 107 (.pointer (some ⟨b,o,none⟩)) (.int .i64 i)=some (.pointer (some ⟨b,o+i * 8,none⟩)):=by
 unfold aJ
 simp only[und109,HQ hi,sz108]
 rfl
theorem at108(b o:Nat){i:Nat}(hi:i<8):aJ P 106 (.pointer (some ⟨b,o,none⟩)) (.int .i64 i)=some (.pointer (some ⟨b,o+i * 1,none⟩)):=by
 unfold aJ
 simp only[und108,HQ hi,sz4]
 rfl
theorem oX(a:Addr):nilV (.pointer (some a))=some (.pointer (some a)):=rfl
theorem XX{op:KD ρ→Option ρ}{ex:Extra}{H:Hp}{n:Nat}{k:KD ρ}:dJ (.bool true) true op ex H n k=op k:=rfl
theorem XY{op:KD ρ→Option ρ}{ex:Extra}{H:Hp}{n:Nat}{k:KD ρ}:dJ (.bool false) true op ex H n k=k undef ex H n:=rfl
structure Reads (H:Hp) (pb sb g:Nat) (x:Value) (pad:Nat) (near:Nat→Bool):Prop where
 pad_:az P H 3 ⟨pb,0,none⟩=some (.int .i64 pad)
 site:az P H 103 ⟨sb,0,none⟩=some (.pointer (some ⟨g,0,none⟩))
 pads:az P H 31 ⟨g,0+0+0,none⟩=some x
 near_:∀ b,b<8→az P H 4 ⟨g,0+3+pad * 8+b * 1,none⟩=some (.bool (near b))
theorem iter_loop(c:Cal)(k:Nat)(yv:Value)(pb sb g pad np:Nat)(x:Value)(near:Nat→Bool)(hpad:pad<8)(hnp:np≤8)(Inv:List Nat→Hp→Nat→Prop)(hR:∀ ps H n,Inv ps H n→Reads H pb sb g x pad near)
  (hY:∀(ps:List Nat) (p:Nat) (H:Hp) (n:Nat),Inv ps H n→p<8→∃ H' n',(∀ k:Value→Hp→Nat→Res,lQ P c yv [.int .i64 p] H n k=k (.bool true) H' n')∧Inv (ps++[p]) H' n') (ps0:List Nat):∀(m i:Nat) (H:Hp) (n:Nat),
  Inv (ps0++(List.range i).filter near) H n→i≤np→np-i≤m →
  ∃ H' n',ZJ c k m yv (.pointer (some ⟨pb,0,none⟩)) (.pointer (some ⟨sb,0,none⟩)) (.int .i64 np) (.int .i64 i) H n=some (.tuple ⟨[]⟩,H',n')∧Inv (ps0++(List.range np).filter near) H' n':=by
 have body:∀(b1:Value→Value→Value→Value→Value→Hp→Nat→Res) (m i:Nat) (H:Hp) (n:Nat),Inv (ps0++(List.range i).filter near) H n→i≤np →
   (∀ H' n',Inv (ps0++(List.range (i+1)).filter near) H' n'→i<np→∃ H2 n2,b1 yv (.pointer (some ⟨pb,0,none⟩)) (.pointer (some ⟨sb,0,none⟩)) (.int .i64 np) (.int .i64 ((i+1:Nat):Int)) H' n'=some (.tuple ⟨[]⟩,H2,n2)∧Inv (ps0++(List.range np).filter near) H2 n2) →
   ∃ H' n',Zk c k m b1 yv (.pointer (some ⟨pb,0,none⟩)) (.pointer (some ⟨sb,0,none⟩)) (.int .i64 np) (.int .i64 i) H n=some (.tuple ⟨[]⟩,H',n')∧Inv (ps0++(List.range np).filter near) H' n':=by
  intro b1 m i H n hI hi ih
  unfold Zk B119_1
  rw[ax cJ,gw]
  by_cases hlt:i<np
  ·obtain⟨r1,r2,r3,r4⟩:=hR _ _ _ hI
   have hi8:i<8:=by omega
   have hb:=r4 i hi8
   have hI1:I64 ((i:Int)+1):=by unfold I64; omega
   have hcast:((i:Int)+1)=((i+1:Nat):Int):=by omega
   rw[if_pos (by omega),ak,aj,r2,aj,ak,aj,r1,aj,oX,aj,fa117_1,aj,at109 _ _ hpad,aj,at108 _ _ hi8,aj,ak,aj,hb,aj]
   cases hn:near i with
   | true=>
    obtain⟨H1,n1,e1,e2⟩:=hY _ i _ _ hI hi8
    simp only[XX,e1,qK,aj,dw,ez,ax (bk hI1),hcast]
    refine ih H1 n1 ?_ hlt
    rw[List.range_succ,List.filter_append,← List.append_assoc]
    simp only[List.filter_cons,hn,if_true,List.filter_nil]
    exact e2
   | false=>
    simp only[XY,dQ,aj,ez,ax (bk hI1),hcast]
    refine ih H n ?_ hlt
    rw[List.range_succ,List.filter_append]
    simp only[List.filter_cons,hn,List.filter_nil,Bool.false_eq_true,if_false,List.append_nil]
    exact hI
  ·rw[if_neg (by omega)]
   have hi':i=np:=by omega
   subst hi'
   exact⟨H,n,rfl,hI⟩
 intro m
 induction m with
 | zero=>
  intro i H n h1 h2 h3
  exact body _ 0 i H n h1 h2 (fun _ _ _ h=>by omega)
 | succ m ih=>
  intro i H n h1 h2 h3
  exact body _ (m+1) i H n h1 h2 (fun H' n' q1 q2=>ih (i+1) H' n' q1 (by omega) (by omega))
theorem iter_spec(c:Cal)(yv:Value)(pb sb g pad np:Nat)(x:Value)(near:Nat→Bool)(hpad:pad<8)(hnp:np≤8)(hx:lenV P 31 x=some (.int .i64 np))(Inv:List Nat→Hp→Nat→Prop)(hR:∀ ps H n,Inv ps H n→Reads H pb sb g x pad near)
  (hY:∀(ps:List Nat) (p:Nat) (H:Hp) (n:Nat),Inv ps H n→p<8→∃ H' n',(∀ k:Value→Hp→Nat→Res,lQ P c yv [.int .i64 p] H n k=k (.bool true) H' n')∧Inv (ps++[p]) H' n') {H:Hp} {n:Nat} (h0:Inv [] H n) :
  ∃ H' n',TV c KK yv (.pointer (some ⟨pb,0,none⟩)) (.pointer (some ⟨sb,0,none⟩)) H n=some (.tuple ⟨[]⟩,H',n')∧Inv (pad::(List.range np).filter near) H' n':=by
 unfold TV B119_0
 generalize hS:ZJ c KK KK=S
 obtain⟨r1,_,_,_⟩:=hR _ _ _ h0
 obtain⟨H1,n1,e1,e2⟩:=hY _ pad _ _ h0 hpad
 obtain⟨_,r2,r3,_⟩:=hR _ _ _ e2
 rw[ak,aj,r1,aj,e1,qK,aj,ez,ak,aj,r2,aj,oX,aj,tw,aj,vV,aj,ak,aj,r3,aj,hx,aj,← hS]
 exact iter_loop c KK yv pb sb g pad np x near hpad hnp Inv hR hY [pad] KK 0 H1 n1 e2 (by omega) (by unfold KK; omega)
def Sq(lo hi:Int)(ps:List Nat):List Int:=ps.foldl (fun X p=>(X.set (p * 2) lo).set (p * 2+1) hi) (List.replicate 16 0)
theorem fillS_snoc(lo hi:Int)(ps:List Nat)(p:Nat):Sq lo hi (ps++[p])=((Sq lo hi ps).set (p * 2) lo).set (p * 2+1) hi:=by
 unfold Sq; rw[List.foldl_append]; rfl
theorem NJ(X:List Int)(j:Nat)(a b:Int):((X.set j a).set (j+1) b).length=X.length:=by simp
theorem Qv(lo hi:Int)(ps:List Nat):(Sq lo hi ps).length=16:=by
 have:∀(ps:List Nat) (X:List Int),(ps.foldl (fun X p=>(X.set (p * 2) lo).set (p * 2+1) hi) X).length=X.length:=by
  intro ps
  induction ps with
  | nil=>intro X; rfl
  | cons p ps ih=>intro X; rw[List.foldl_cons,ih,NJ]
 exact this ps _
theorem set_two_get{X:List Int}(hX:X.length=16){p q:Nat}(hp:p<8)(a b:Int):(((X.set (p * 2) a).set (p * 2+1) b).getD (q * 2) 0=if q=p then a else X.getD (q * 2) 0) ∧
  (((X.set (p * 2) a).set (p * 2+1) b).getD (q * 2+1) 0=if q=p then b else X.getD (q * 2+1) 0):=by
 simp only[List.getD_eq_getElem?_getD,List.getElem?_set,List.length_set,hX]
 by_cases e:q=p
 ·subst e
  rw[if_neg (show ¬ q * 2+1=q * 2 by omega),if_pos rfl,if_pos (show q * 2<16 by omega),if_pos rfl,if_pos rfl,if_pos (show q * 2+1<16 by omega),if_pos rfl]
  exact⟨rfl,rfl⟩
 ·rw[if_neg (show ¬ p * 2+1=q * 2 by omega),if_neg (show ¬ p * 2=q * 2 by omega),if_neg e,if_neg (show ¬ p * 2+1=q * 2+1 by omega),if_neg (show ¬ p * 2=q * 2+1 by omega),if_neg e]
  exact⟨rfl,rfl⟩
theorem fillS_get(lo hi:Int)(q:Nat)(ps:List Nat)(h:∀ p ∈ ps,p<8):(Sq lo hi ps).getD (q * 2) 0=(if q ∈ ps then lo else 0)∧(Sq lo hi ps).getD (q * 2+1) 0=(if q ∈ ps then hi else 0):=by
 have key:∀(ps:List Nat) (X:List Int),X.length=16→(∀ p ∈ ps,p<8)→(ps.foldl (fun X p=>(X.set (p * 2) lo).set (p * 2+1) hi) X).getD (q * 2) 0=(if q ∈ ps then lo else X.getD (q * 2) 0) ∧
   (ps.foldl (fun X p=>(X.set (p * 2) lo).set (p * 2+1) hi) X).getD (q * 2+1) 0=(if q ∈ ps then hi else X.getD (q * 2+1) 0):=by
  intro ps
  induction ps with
  | nil=>intro X _ _; exact⟨rfl,rfl⟩
  | cons p ps ih=>
   intro X hX hp
   obtain⟨h1,h2⟩:=ih ((X.set (p * 2) lo).set (p * 2+1) hi) (by rw[NJ]; exact hX) (fun p' hp'=>hp p' (List.mem_cons_of_mem _ hp'))
   obtain⟨g1,g2⟩:=set_two_get (q:=q) hX (hp p List.mem_cons_self) lo hi
   rw[List.foldl_cons,h1,h2,g1,g2]
   by_cases e:q=p <;> by_cases e2:q ∈ ps <;> simp [e,e2]
 have z:∀ k:Nat,(List.replicate 16 (0:Int)).getD k 0=0:=by
  intro k
  rw[List.getD_eq_getElem?_getD,List.getElem?_replicate]
  split <;> rfl
 have:=key ps (List.replicate 16 0) rfl h
 rw[z,z] at this
 exact this
theorem loadK53{H:Hp}{b:Nat}{y a1 a2 a3 a4:Int}(h:H.get b=some (.cells [.int .i64 y,.int .i64 a1,.int .i64 a2,.int .i64 a3,.int .i64 a4] 86 false none)) :
  az P H 53 ⟨b,0+1,none⟩=some (.agg ⟨[.int .i64 a1,.int .i64 a2]⟩)∧az P H 53 ⟨b,0+3,none⟩=some (.agg ⟨[.int .i64 a3,.int .i64 a4]⟩)∧az P H 3 ⟨b,0+0,none⟩=some (.int .i64 y):=
 ⟨cw (k:=1) (dv h) UY sz53 (by simp) rfl,cw (k:=3) (dv h) UY sz53 (by simp) rfl,bj (dv h) agg3 rfl⟩
theorem yield97(L:Nat){H:Hp}{n lb b5 b7 d:Nat}{v0 v1 v2 v6 v11:Value}{y a1 a2 a3 a4:Int}{X:List Int}(hl:H.get lb=some (.loop .ready none 97 (T97 v0 v1 v2 (.pointer (some ⟨b5,0,none⟩)) v6 (.pointer (some ⟨b7,0,none⟩)) v11) (ntm P 97) #[12] uj uq d))
  (h5:H.get b5=some (.cells [.int .i64 y,.int .i64 a1,.int .i64 a2,.int .i64 a3,.int .i64 a4] 86 false none)) (h7:H.get b7=some (.cells (ints X) 109 false none)) (hX:X.length=16) (n5:b5≠lb) (n7:b7≠lb) {p:Nat} (hp:p<8) :
  ∃ H',(∀ k:Value→Hp→Nat→Option ρ,lQ P (cal (L+1)) (.func (.yield lb) #[] #[]) [.int .i64 p] H n k=k (.bool true) H' n)∧H'.get lb=H.get lb ∧
   H'.get b7=some (.cells (ints ((X.set (p * 2) a3).set (p * 2+1) a4)) 109 false none)∧∀ b,b≠lb→b≠b7→H'.get b=H.get b:=by
 have hpar:yX (T97 v0 v1 v2 (.pointer (some ⟨b5,0,none⟩)) v6 (.pointer (some ⟨b7,0,none⟩)) v11) (ntm P 97) (#[12]:Array Tmp).toList [.int .i64 p]=some ((T97 v0 v1 v2 (.pointer (some ⟨b5,0,none⟩)) v6 (.pointer (some ⟨b7,0,none⟩)) v11).set 12 (some (.int .i64 p))):=by
  rw[ntm97]; rfl
 generalize hT:T97 v0 v1 v2 (.pointer (some ⟨b5,0,none⟩)) v6 (.pointer (some ⟨b7,0,none⟩)) v11=T at hl hpar
 have hrdy:Kv H lb=true:=by unfold Kv; rw[hl]
 have hpen:yw H lb=none:=by unfold yw; rw[hl]
 have hbusy:wV H lb .busy none=some (H.set lb (some (.loop .busy none 97 T (ntm P 97) #[12] uj uq d))):=by unfold wV; rw[hl]
 have g5:(H.set lb (some (.loop .busy none 97 T (ntm P 97) #[12] uj uq d))).get b5=some (.cells [.int .i64 y,.int .i64 a1,.int .i64 a2,.int .i64 a3,.int .i64 a4] 86 false none):=by rw[Tr.get_set,if_neg n5]; exact h5
 have g7:(H.set lb (some (.loop .busy none 97 T (ntm P 97) #[12] uj uq d))).get b7=some (.cells (ints X) 109 false none):=by rw[Tr.get_set,if_neg n7]; exact h7
 have gl:(H.set lb (some (.loop .busy none 97 T (ntm P 97) #[12] uj uq d))).get lb=some (.loop .busy none 97 T (ntm P 97) #[12] uj uq d):=by rw[Tr.get_set,if_pos rfl]
 have ho:∀ b,b≠lb→(H.set lb (some (.loop .busy none 97 T (ntm P 97) #[12] uj uq d))).get b=H.get b:=fun b hb=>by rw[Tr.get_set,if_neg hb]
 generalize H.set lb (some (.loop .busy none 97 T (ntm P 97) #[12] uj uq d))=H1 at hbusy g5 g7 gl ho
 have hst:=XW (a:=a3) (b:=a4) (o:=p * 2) g7 (by omega)
 have q7:(H1.set b7 (some (.cells (ints ((X.set (p * 2) a3).set (p * 2+1) a4)) 109 false none))).get b7=some (.cells (ints ((X.set (p * 2) a3).set (p * 2+1) a4)) 109 false none):=by rw[Tr.get_set,if_pos rfl]
 have ql:(H1.set b7 (some (.cells (ints ((X.set (p * 2) a3).set (p * 2+1) a4)) 109 false none))).get lb=some (.loop .busy none 97 T (ntm P 97) #[12] uj uq d):=by rw[Tr.get_set,if_neg (Ne.symm n7)]; exact gl
 have qo:∀ b,b≠lb→b≠b7→(H1.set b7 (some (.cells (ints ((X.set (p * 2) a3).set (p * 2+1) a4)) 109 false none))).get b=H.get b:=fun b hb hb7=>by rw[Tr.get_set,if_neg hb7]; exact ho b hb
 have hbody:∃ T',(cal (L+1)).body lb 97 uq { T:=(T.set 12 (some (.int .i64 p))).set 8 (some (.int .i64 p)),H:=H1,n,D:=[] }=some (.norm,{ T:=T',H:=H1.set b7 (some (.cells (ints ((X.set (p * 2) a3).set (p * 2+1) a4)) 109 false none)),n,D:=[] }):=by
  rw[← hT,bod97_eq,fa86_2,aj,ak,aj,(loadK53 g5).2.1,aj,at111 b7 0 hp,aj,qdk,Nat.zero_add,hst,aj]
  exact⟨_,rfl⟩
 generalize H1.set b7 (some (.cells (ints ((X.set (p * 2) a3).set (p * 2+1) a4)) 109 false none))=H2 at q7 ql qo hbody
 obtain⟨T',hbody⟩:=hbody
 have hasg:(cal (L+1)).body lb 97 uj { T:=T.set 12 (some (.int .i64 p)),H,n,D:=[] }=some (.norm,{ T:=(T.set 12 (some (.int .i64 p))).set 8 (some (.int .i64 p)),H,n,D:=[] }):=by
  rw[← hT]; exact asg97_eq ..
 have hend:wV H2 lb .ready none=some (H2.set lb (some (.loop .ready none 97 T (ntm P 97) #[12] uj uq d))):=by unfold wV; rw[ql]
 refine⟨H2.set lb (some (.loop .ready none 97 T (ntm P 97) #[12] uj uq d)),fun k=>?_,by rw[Tr.get_set,if_pos rfl,hl],by rw[Tr.get_set,if_neg n7]; exact q7,fun b hb hb7=>by rw[Tr.get_set,if_neg hb]; exact qo b hb hb7⟩
 show stK (Ak (fun | some l=>(cal (L+1)).body l | none=>fun _ _ _=>none) P lb [.int .i64 p] (bare H n)) k=_
 have hy:Ak (fun | some l=>(cal (L+1)).body l | none=>fun _ _ _=>none) P lb [.int .i64 p] (bare H n)=some (.bool true,{ bare H n with H:=H2.set lb (some (.loop .ready none 97 T (ntm P 97) #[12] uj uq d)) }):=by
  unfold Ak
  have hb:Nat.beq (ntm P 97) (ntm P 97)=true:=Nat.beq_refl _
  have hx:Wy .norm=some none:=rfl
  simp only[bare,hl,hb,hpar,hasg,hrdy,hpen,hbusy,hbody,hx,Option.isNone_none,if_true,hend]
 rw[hy]
 rfl
theorem zero111:iJ P 109=some (.agg ⟨ints (List.replicate 16 0)⟩):=by kernel_rfl
theorem flat113:iY P 113=false:=by kernel_rfl
theorem call113(l:Nat)(a b:Value)(H:Hp)(n:Nat):(cal (l+1)).call 113 [a,b] H n=C113_0 (cal l) KK a b H n:=by kernel_rfl
theorem call119(l:Nat)(a b c:Value)(H:Hp)(n:Nat):(cal (l+1)).call 119 [a,b,c] H n=TV (cal l) KK a b c H n:=by kernel_rfl
theorem reached_call(l:Nat)(g pad:Nat)(H:Hp)(n:Nat)(k:Value→Hp→Nat→Option ρ):aX P (cal (l+1)) 113 [.pointer (some ⟨g,0,none⟩),.int .i64 pad] H n k =
  k (.func (.func 119) ⟨[]⟩ ⟨[.pointer (some ⟨n+1,0,none⟩),.pointer (some ⟨n,0,none⟩)]⟩) ((H.set n (some (.cells [.pointer (some ⟨g,0,none⟩)] 103 false none))).set (n+1) (some (.cells [.int .i64 pad] 3 false none))) (n+2):=by
 unfold aX
 rw[flat113,call113]
 rfl
theorem range97(c:Cal)(a b:Value)(K:KC (Value × Hp × Nat))(X:XC (Value × Hp × Nat))(Kr:KC (Value × Hp × Nat))(T:Tm)(H:Hp)(n:Nat) :
  EZ P c none 97 (.func (.func 119) ⟨[]⟩ ⟨[a,b]⟩) #[12] uj uq K X Kr T H n [] =
   aX P c 119 [.func (.yield (n+1)) #[] #[],a,b] ((H.set n (some .deferred)).set (n+1) (some (.loop .ready none 97 T (ntm P 97) #[12] uj uq n))) (n+2) fun _ H n'=>fin K X Kr (yY (n+1) { T:=T,H,n:=n',D:=[n] }):=rfl
def mY(a1 a2 a3 a4:Int)(near:Nat→Bool)(np pad:Nat):List Int:=((Sq a3 a4 (pad::(List.range np).filter near)).set (pad * 2) a1).set (pad * 2+1) a2
theorem yy(a1 a2 a3 a4:Int)(near:Nat→Bool)(np pad:Nat):(mY a1 a2 a3 a4 near np pad).length=16:=by
 unfold mY; rw[NJ,Qv]
theorem sharesL_get{a1 a2 a3 a4:Int}{near:Nat→Bool}{np pad:Nat}(hnp:np≤8)(hpad:pad<8)(q:Nat) :
  (mY a1 a2 a3 a4 near np pad).getD (q * 2) 0=(if q=pad then a1 else if q<np∧near q=true then a3 else 0)∧(mY a1 a2 a3 a4 near np pad).getD (q * 2+1) 0=(if q=pad then a2 else if q<np∧near q=true then a4 else 0):=by
 unfold mY
 obtain⟨h1,h2⟩:=set_two_get (q:=q) (Qv a3 a4 (pad::(List.range np).filter near)) hpad a1 a2
 obtain⟨g1,g2⟩:=fillS_get a3 a4 q (pad::(List.range np).filter near) (by
  intro p hp
  rcases List.mem_cons.1 hp with z | z
  ·omega
  ·have:=List.mem_range.1 (List.mem_filter.1 z).1; omega)
 rw[h1,h2,g1,g2]
 have hm:q≠pad→(q ∈ pad::(List.range np).filter near↔q<np∧near q=true):=fun e=>by simp [e]
 by_cases e:q=pad
 ·simp [e]
 ·rw[if_neg e,if_neg e,if_neg e,if_neg e]
  by_cases e2:q<np∧near q=true
  ·rw[if_pos ((hm e).2 e2),if_pos ((hm e).2 e2),if_pos e2,if_pos e2]; exact⟨rfl,rfl⟩
  ·rw[if_neg (fun h=>e2 ((hm e).1 h)),if_neg (fun h=>e2 ((hm e).1 h)),if_neg e2,if_neg e2]; exact⟨rfl,rfl⟩
theorem sharesL_bounded{a1 a2 a3 a4:Int}{near:Nat→Bool}{np pad:Nat}(hnp:np≤8)(hpad:pad<8)(h1:okR a1 a2)(h2:okR a3 a4):iW (mY a1 a2 a3 a4 near np pad):=by
 intro k
 unfold okR at h1 h2
 by_cases hk:k<16
 ·obtain⟨g1,g2⟩:=sharesL_get (a1:=a1) (a2:=a2) (a3:=a3) (a4:=a4) (near:=near) hnp hpad (k / 2)
  rcases Nat.mod_two_eq_zero_or_one k with z | z
  ·rw[show k / 2 * 2=k by omega] at g1
   rw[g1]
   split
   ·omega
   ·split <;> omega
  ·rw[show k / 2 * 2+1=k by omega] at g2
   rw[g2]
   split
   ·omega
   ·split <;> omega
 ·rw[List.getD_eq_getElem?_getD,List.getElem?_eq_none (by rw[yy]; omega)]
  simp
theorem nestOn_spec(l:Nat){H:Hp}{n g np pad:Nat}{f:Nat→Value}{x:Value}{near:Nat→Bool}{y a1 a2 a3 a4:Int}(hg:g<n)(hs:cZ H g 859 115 f)(hx:f 0=x)(hlen:lenV P 31 x=some (.int .i64 np))(hnp:np≤8)(hpad:pad<8)
  (hnear:∀ b,b<8→f (3+pad * 8+b)=.bool (near b)) (hy:0≤y∧y≤1000) (h1:okR a1 a2) (h2:okR a3 a4) :
  ∃ B,mV y (mY a1 a2 a3 a4 near np pad) B 8∧Ret ((cal (l+5)).call 97 [.pointer (some ⟨g,0,none⟩),.int .i64 pad,.agg ⟨[.int .i64 y,.int .i64 a1,.int .i64 a2,.int .i64 a3,.int .i64 a4]⟩] H n) n H
   (.agg ⟨ints (bW y (mY a1 a2 a3 a4 near np pad) B)⟩):=by
 obtain⟨B,hB,hnest⟩:=newNest_call (ρ:=Value × Hp × Nat) l (yy a1 a2 a3 a4 near np pad) (sharesL_bounded hnp hpad h1 h2) hy
 refine⟨B,hB,?_⟩
 rw[call97,pre97]
 simp only[dZ,jw Vq,jw zero111,aZ,ptr,reached_call (l+3)]
 rw[range97]
 generalize hH1:((((H.set n (some (.cells [.int .i64 y,.int .i64 a1,.int .i64 a2,.int .i64 a3,.int .i64 a4] 86 false none))).set (n+1) (some (.cells (ints (bW 0 oY oY)) 111 false none))).set (n+1+1) (some (.cells (ints (List.replicate 16 0)) 109 false none))).set (n+1+1+1) (some (.cells [.pointer (some ⟨g,0,none⟩)] 103 false none))).set (n+1+1+1+1) (some (.cells [.int .i64 pad] 3 false none))=H1
 have k1:Keep n H H1:=fun b hb=>by rw[← hH1,Tr.get_set,if_neg (by omega),Tr.get_set,if_neg (by omega),Tr.get_set,if_neg (by omega),Tr.get_set,if_neg (by omega),Tr.get_set,if_neg (by omega)]
 have q0:H1.get n=some (.cells [.int .i64 y,.int .i64 a1,.int .i64 a2,.int .i64 a3,.int .i64 a4] 86 false none):=by rw[← hH1,Tr.get_set,if_neg (by omega),Tr.get_set,if_neg (by omega),Tr.get_set,if_neg (by omega),Tr.get_set,if_neg (by omega),Tr.get_set,if_pos rfl]
 have q1:H1.get (n+1)=some (.cells (ints (bW 0 oY oY)) 111 false none):=by rw[← hH1,Tr.get_set,if_neg (by omega),Tr.get_set,if_neg (by omega),Tr.get_set,if_neg (by omega),Tr.get_set,if_pos rfl]
 have q2:H1.get (n+1+1)=some (.cells (ints (List.replicate 16 0)) 109 false none):=by rw[← hH1,Tr.get_set,if_neg (by omega),Tr.get_set,if_neg (by omega),Tr.get_set,if_pos rfl]
 have q3:H1.get (n+1+1+1)=some (.cells [.pointer (some ⟨g,0,none⟩)] 103 false none):=by rw[← hH1,Tr.get_set,if_neg (by omega),Tr.get_set,if_pos rfl]
 have q4:H1.get (n+1+1+1+1)=some (.cells [.int .i64 pad] 3 false none):=by rw[← hH1,Tr.get_set,if_pos rfl]
 clear hH1
 generalize hT:T97 (.pointer (some ⟨g,0,none⟩)) (.int .i64 pad) (.agg ⟨[.int .i64 y,.int .i64 a1,.int .i64 a2,.int .i64 a3,.int .i64 a4]⟩) (.pointer (some ⟨n,0,none⟩)) (.pointer (some ⟨n+1,0,none⟩)) (.pointer (some ⟨n+1+1,0,none⟩))
  (.func (.func 119) ⟨[]⟩ ⟨[.pointer (some ⟨n+1+1+1+1,0,none⟩),.pointer (some ⟨n+1+1+1,0,none⟩)]⟩)=T
 have hc119:∀(a b c:Value) (H:Hp) (n:Nat) (k:Value→Hp→Nat→Res),bw b=false→aX P (cal (l+4)) 119 [a,b,c] H n k=aq (TV (cal (l+3)) KK a b c H n) fun r=>k r.1 r.2.1 r.2.2:=by
  intro a b c H n k hb
  unfold aX
  have:(iY P 119 && ck [a,b,c])=false:=by simp [ck,hb]
  rw[this,call119]
 rw[hc119 _ _ _ _ _ _ rfl]
 generalize hH2:(H1.set (n+1+1+1+2) (some .deferred)).set (n+1+1+1+2+1) (some (.loop .ready none 97 T (ntm P 97) #[12] uj uq (n+1+1+1+2)))=H2
 have r1:∀ b,b<n+1+1+1+2→H2.get b=H1.get b:=fun b hb=>by rw[← hH2,Tr.get_set,if_neg (by omega),Tr.get_set,if_neg (by omega)]
 have r2:H2.get (n+1+1+1+2)=some .deferred:=by rw[← hH2,Tr.get_set,if_neg (by omega),Tr.get_set,if_pos rfl]
 have r3:H2.get (n+1+1+1+2+1)=some (.loop .ready none 97 T (ntm P 97) #[12] uj uq (n+1+1+1+2)):=by rw[← hH2,Tr.get_set,if_pos rfl]
 clear hH2
 have hs2:∀ H3:Hp,(∀ b,b≠n+1+1+1+2+1→b≠n+1+1→H3.get b=H2.get b)→Reads H3 (n+1+1+1+1) (n+1+1+1) g x pad near:=by
  intro H3 h3
  have c3:H3.get (n+1+1+1)=some (.cells [.pointer (some ⟨g,0,none⟩)] 103 false none):=by rw[h3 _ (by omega) (by omega),r1 _ (by omega)]; exact q3
  have c4:H3.get (n+1+1+1+1)=some (.cells [.int .i64 pad] 3 false none):=by rw[h3 _ (by omega) (by omega),r1 _ (by omega)]; exact q4
  have cg:cZ H3 g 859 115 f:=by
   obtain⟨c,e1,e2,e3⟩:=hs
   exact⟨c,by rw[h3 _ (by omega) (by omega),r1 _ (by omega),k1 _ hg]; exact e1,e2,e3⟩
  refine⟨bj (o:=0) (k:=0) (dv c4) agg3 rfl,bq (o:=0) (k:=0) (dv c3) agg105 rfl rfl rfl,?_,fun b hb=>?_⟩
  ·have:=cg.load (P:=P) (k:=0) Fv (by omega)
   rw[hx] at this; exact this
  ·have:=cg.load (P:=P) (k:=3+pad * 8+b) agg4 (by omega)
   rw[hnear b hb] at this
   rw[show 0+3+pad * 8+b * 1=3+pad * 8+b by omega]
   exact this
 obtain⟨H3,n3,e3,i1,i2,i3,i4⟩:=iter_spec (cal (l+3)) (.func (.yield (n+1+1+1+2+1)) #[] #[]) (n+1+1+1+1) (n+1+1+1) g pad np x near hpad hnp hlen
  (fun ps Hc nc=>nc=n+1+1+1+2+2∧Hc.get (n+1+1+1+2+1)=some (.loop .ready none 97 T (ntm P 97) #[12] uj uq (n+1+1+1+2))∧Hc.get (n+1+1)=some (.cells (ints (Sq a3 a4 ps)) 109 false none)∧∀ b,b≠n+1+1+1+2+1→b≠n+1+1→Hc.get b=H2.get b)
  (fun ps Hc nc ⟨_,_,_,h⟩=>hs2 Hc h)
  (fun ps p Hc nc ⟨h1,h2,h3,h4⟩ hp=>by
   have h5:Hc.get n=some (.cells [.int .i64 y,.int .i64 a1,.int .i64 a2,.int .i64 a3,.int .i64 a4] 86 false none):=by rw[h4 _ (by omega) (by omega),r1 _ (by omega)]; exact q0
   rw[← hT] at h2
   obtain⟨H',y1,y2,y3,y4⟩:=yield97 (ρ:=Value × Hp × Nat) (l+2) (n:=nc) h2 h5 h3 (Qv _ _ _) (by omega) (by omega) hp
   refine⟨H',nc,y1,h1,?_,?_,fun b hb hb'=>(y4 b hb hb').trans (h4 b hb hb')⟩
   ·rw[y2,h2,hT]
   ·rw[y3,fillS_snoc])
  (H:=H2) (n:=n+1+1+1+2+2) ⟨rfl,r3,by rw[r1 _ (by omega)]; exact q2,fun _ _ _=>rfl⟩
 rw[show n+1+1+1+2=n+1+1+1+2 from rfl,e3,aj]
 have hout:yY (n+1+1+1+2+1) { T:=T,H:=H3,n:=n3,D:=[n+1+1+1+2] }=some (.norm,{ T:=T,H:=H3.set (n+1+1+1+2+1) (some (.loop .exhausted none 97 T (ntm P 97) #[12] uj uq (n+1+1+1+2))),n:=n3,D:=[n+1+1+1+2] }):=by
  unfold yY
  simp only[i2]
 rw[hout]
 show Ret (K97 (cal (l+4)) KK T (H3.set (n+1+1+1+2+1) (some (.loop .exhausted none 97 T (ntm P 97) #[12] uj uq (n+1+1+1+2)))) n3 [n+1+1+1+2]) n H _
 generalize hH4:H3.set (n+1+1+1+2+1) (some (.loop .exhausted none 97 T (ntm P 97) #[12] uj uq (n+1+1+1+2)))=H4
 have o1:∀ b,b≠n+1+1+1+2+1→b≠n+1+1→H4.get b=H2.get b:=fun b hb hb'=>by rw[← hH4,Tr.get_set,if_neg hb]; exact i4 b hb hb'
 have o2:H4.get (n+1+1)=some (.cells (ints (Sq a3 a4 (pad::(List.range np).filter near))) 109 false none):=by rw[← hH4,Tr.get_set,if_neg (by omega)]; exact i3
 clear hH4 hout
 have o0:H4.get n=some (.cells [.int .i64 y,.int .i64 a1,.int .i64 a2,.int .i64 a3,.int .i64 a4] 86 false none):=by rw[o1 _ (by omega) (by omega),r1 _ (by omega)]; exact q0
 have o3:H4.get (n+1)=some (.cells (ints (bW 0 oY oY)) 111 false none):=by rw[o1 _ (by omega) (by omega),r1 _ (by omega)]; exact q1
 have o4:H4.get (n+1+1+1+2)=some .deferred:=by rw[o1 _ (by omega) (by omega)]; exact r2
 rw[← hT,post97,fa86_1,aj,ak,aj,(loadK53 o0).1,aj,at111 _ 0 hpad,aj,qdk,Nat.zero_add,XW o2 (by rw[Qv]; omega),aj]
 have hsh:((Sq a3 a4 (pad::(List.range np).filter near)).set (pad * 2) a1).set (pad * 2+1) a2=mY a1 a2 a3 a4 near np pad:=rfl
 rw[hsh]
 generalize hH5:H4.set (n+1+1) (some (.cells (ints (mY a1 a2 a3 a4 near np pad)) 109 false none))=H5
 have p1:∀ b,b≠n+1+1→H5.get b=H4.get b:=fun b hb=>by rw[← hH5,Tr.get_set,if_neg hb]
 have p2:H5.get (n+1+1)=some (.cells (ints (mY a1 a2 a3 a4 near np pad)) 109 false none):=by rw[← hH5,Tr.get_set,if_pos rfl]
 clear hH5
 have hl6:=fY p2 agg111 sz111 (by rw[bv,yy])
 rw[fa86_0,aj,ak,aj,(loadK53 ((p1 n (by omega)).trans o0)).2.2,aj,ak,aj,hl6,aj,hnest]
 have lens:(ints (bW y (mY a1 a2 a3 a4 near np pad) B)).length=33:=by rw[bv,gk (yy ..) hB.1]
 rw[xq Gk lens,rV ((p1 (n+1) (by omega)).trans o3) (by rw[lens,bv,gk rj rj]) (kJ _),aj]
 generalize hH6:H5.set (n+1) (some (.cells (ints (bW y (mY a1 a2 a3 a4 near np pad) B)) 111 false none))=H6
 have u1:H6.get (n+1)=some (.cells (ints (bW y (mY a1 a2 a3 a4 near np pad) B)) 111 false none):=by rw[← hH6,Tr.get_set,if_pos rfl]
 have u2:∀ b,b≠n+1→H6.get b=H5.get b:=fun b hb=>by rw[← hH6,Tr.get_set,if_neg hb]
 clear hH6
 have ht:wj H6 [n+1+1+1+2]=some (H6.set (n+1+1+1+2) none):=by
  have:H6.get (n+1+1+1+2)=some .deferred:=by rw[u2 _ (by omega),p1 _ (by omega)]; exact o4
  unfold wj
  simp only[this]
  rfl
 rw[ht]
 show Ret (aq (resV P ((Tr.nil:Tm).set 6 (some (.pointer (some ⟨n+1,0,none⟩)))) (H6.set (n+1+1+1+2) none) AV) fun vs=>some (oneV vs,H6.set (n+1+1+1+2) none,n3)) n H _
 rw[res97,fY (t:=111) (s:=33) (L:=ints (bW y (mY a1 a2 a3 a4 near np pad) B)) (e:=111) (vec:=none) (by rw[Tr.get_set,if_neg (by omega)]; exact u1) Tq Gk lens]
 refine⟨_,_,rfl,by omega,fun b hb=>?_⟩
 rw[Tr.get_set,if_neg (by omega),u2 _ (by omega),p1 _ (by omega),o1 _ (by omega) (by omega),r1 _ (by omega),k1 _ hb]
end Go.Proofs.Ytmjbdjnnojfhkaa.spec
end
section
namespace Go.Ev
open Go
variable {P:Program} {ρ:Type}
theorem NQ{ex:List Extra}{H:Hp}{n:Nat}{v:Value}{op:Hp→Nat→(Value→Hp→Nat→Option ρ)→Option ρ}{R:Hp→Nat→Prop}
  (hex:∀ y ∈ ex,∃ t a,y=.l t a∧((∃ c e ro vec,H.get a.block=some (.cells c e ro vec))∨∃ c,H.get a.block=some (.rows c)))
  (hop:∀ Hm,(∀ b,¬ ldOf ex b→Hm.get b=H.get b)→∃ H2 n2,(∀ k,op Hm n k=k v H2 n2)∧(∀ b,ldOf ex b→H2.get b=Hm.get b)∧R H2 n2) :
  ∃ H' H2 n2,(∀ k,effK P ex H n op k=k v H' n2)∧R H2 n2∧(∀ b,ldOf ex b→H'.get b=H.get b)∧∀ b,¬ ldOf ex b→H'.get b=H2.get b:=by
 cases ex with
 | nil=>
  obtain⟨H2,n2,h1,_,h3⟩:=hop H (fun _ _=>rfl)
  exact⟨H2,H2,n2,fun k=>by unfold effK; exact h1 k,h3,fun b ⟨_,_,h,_⟩=>(by cases h),fun _ _=>rfl⟩
 | cons y l=>
  have hl:∀ z ∈ y::l,∃ t a,z=.l t a:=fun z hz=>by obtain⟨t,a,e,_⟩:=hex z hz; exact⟨t,a,e⟩
  obtain⟨H1,e1,e2⟩:=Fy (ex:=y::l) (H:=H) fun z hz=>by obtain⟨t,a,e,h⟩:=hex z hz; exact .inl ⟨t,a,e,h⟩
  have hnw:∀ b,¬ nwOf (y::l) b:=fun b ⟨id,c,e,h1,_⟩=>by obtain⟨t,a,q⟩:=hl _ h1; cases q
  obtain⟨H2,n2,h1,h2,h3⟩:=hop (sW (y::l) H1) fun b hb=>by
   rw[(qJ (H:=H1) b).2 (hnw _)]
   rcases e2 b with q | ⟨_,q⟩
   ·exact q
   ·exact absurd q hb
  have hsome:∀ z ∈ y::l,(∃ t a,z=.l t a∧(H2.get a.block).isSome)∨∃ id c e,z=.a id c e:=by
   intro z hz
   obtain⟨t,a,rfl,hc⟩:=hex z hz
   refine .inl ⟨t,a,rfl,?_⟩
   rw[h2 _ ⟨t,a,hz,rfl⟩,(qJ (H:=H1) a.block).2 (hnw _)]
   have hs:(H.get a.block).isSome:=by rcases hc with⟨c,e,ro,vec,hc⟩ | ⟨c,hc⟩ <;> rw[hc] <;> rfl
   rcases e2 a.block with q | ⟨⟨c,e,ro,vec,_,q⟩,_⟩
   ·rw[q]; exact hs
   ·rw[q]; rfl
  obtain⟨H3,f1,f2,f3⟩:=Fz (H0:=H) hsome
  have hck:chkX P (oK (y::l) H H3) (y::l)=true:=Nk fun z hz=>.inl (hl z hz)
  refine⟨oK (y::l) H H3,H2,n2,fun k=>?_,h3,fun b hb=>?_,fun b hb=>?_⟩
  ·unfold effK
   simp only[e1,aj,h1,f1,hck]
   rfl
  ·rw[(xw b).2 (hnw b)]; exact f2 b hb
  ·rw[(xw b).2 (hnw b)]; exact f3 b hb
theorem wv(f:Nat→Value)(o:Nat)(v:Value)(k:Nat):putF f o [v] k=if k=o then v else f k:=by
 unfold putF
 by_cases h:k=o
 ·subst h; simp
 ·rw[if_neg h]
  by_cases h2:o≤k
  ·rw[if_pos h2]
   have:k-o≠0:=by omega
   cases hk:k-o with
   | zero=>exact absurd hk this
   | succ m=>simp
  ·rw[if_neg h2]
theorem putF_in(f:Nat→Value)(o:Nat)(vs:List Value){j:Nat}{v:Value}(h:vs[j]?=some v):putF f o vs (o+j)=v:=by
 unfold putF
 rw[if_pos (by omega),show o+j-o=j by omega,h]
theorem NV(f:Nat→Value)(o:Nat)(vs:List Value){k:Nat}(h:k<o∨o+vs.length≤k):putF f o vs k=f k:=by
 unfold putF
 by_cases h2:o≤k
 ·rw[if_pos h2,List.getElem?_eq_none (by omega)]
 ·rw[if_neg h2]
end Go.Ev
end
section
namespace Go.Proofs.Ytmjbdjnnojfhkaa.spec
open Go Go.Ev Go.Proofs.Ytmjbdjnnojfhkaa.nestFits Go.Proofs.Ytmjbdjnnojfhkaa.G
set_option maxRecDepth 100000
variable {ρ:Type}
theorem und115:P.underlying 113=some (.array 8 112):=by kernel_rfl
theorem und114:P.underlying 112=some (.array 3 111):=by kernel_rfl
theorem sz114:szT P 112=some 99:=by kernel_rfl
theorem at115(b o:Nat){i:Nat}(hi:i<8):aJ P 113 (.pointer (some ⟨b,o,none⟩)) (.int .i64 i)=some (.pointer (some ⟨b,o+i * 99,none⟩)):=by
 unfold aJ
 simp only[und115,HQ hi,sz114]
 rfl
theorem at114(b o:Nat){i:Nat}(hi:i<3):aJ P 112 (.pointer (some ⟨b,o,none⟩)) (.int .i64 i)=some (.pointer (some ⟨b,o+i * 33,none⟩)):=by
 unfold aJ
 simp only[und114,HQ hi,Gk]
 rfl
open Classical in
noncomputable def CW(js:List Int)(i:Nat)(a b:Nat):Bool:=decide (∃ q,q<i∧J js a b q)
noncomputable def shP(js ks:List Int)(nj np p kd:Nat):List Int:=mY (ks.getD (kd * 5+1) 0) (ks.getD (kd * 5+2) 0) (ks.getD (kd * 5+3) 0) (ks.getD (kd * 5+4) 0) (CW js nj p) np p
def xx(f:Nat→Value)(js ks:List Int)(nj np p kd:Nat):Prop:=∃ B,mV (ks.getD (kd * 5) 0) (shP js ks nj np p kd) B 8∧∀ j,j<33→f (67+p * 99+kd * 33+j)=.int .i64 ((bW (ks.getD (kd * 5) 0) (shP js ks nj np p kd) B).getD j 0)
structure SiteF (f:Nat→Value) (x y z:Value) (js:List Int) (i:Nat):Prop where
 x:f 0=x
 y:f 1=y
 z:f 2=z
 near:∀ a b,a<8→b<8→f (3+a * 8+b)=.bool (CW js i a b)
open Classical in
theorem nearB_next{js:List Int}{i A B:Nat}(hA:js[i * 2]?=some (A:Int))(hB:js[i * 2+1]?=some (B:Int))(a b:Nat) :
  CW js (i+1) a b=if(a=A∧b=B)∨(a=B∧b=A) then true else CW js i a b:=by
 have hJ:J js a b i↔(a=A∧b=B)∨(a=B∧b=A):=by
  unfold J; rw[hA,hB]; simp only[Option.some.injEq]; omega
 unfold CW
 by_cases h:(a=A∧b=B)∨(a=B∧b=A)
 ·rw[if_pos h]
  exact decide_eq_true ⟨i,by omega,hJ.2 h⟩
 ·rw[if_neg h]
  congr 1
  exact propext ⟨fun⟨q,h1,h2⟩=>by
   rcases Nat.lt_or_ge q i with z | z
   ·exact⟨q,z,h2⟩
   ·rw[show q=i by omega] at h2
    exact absurd (hJ.1 h2) h,fun⟨q,h1,h2⟩=>⟨q,by omega,h2⟩⟩
theorem near_loop61(c:Cal)(k:Nat)(g np nj:Nat)(js:List Int)(x y z:Value)(hnp:np≤8)(hnj:nj≤1000)(hjs:∀ i,i<nj→∃ A B:Nat,js[i * 2]?=some (A:Int)∧js[i * 2+1]?=some (B:Int)∧A<np∧B<np)
  (Q:Res→Prop) (H0:Hp) (n0:Nat) (hg:n0≤g) (hy0:eK H0 n0 2 y nj js) (hx:∀(H:Hp) (n:Nat) (f:Nat→Value),n0≤n→g<n→Keep n0 H0 H→cZ H g 859 115 f→SiteF f x y z js nj →
   (∀ p kd j,p<8→kd<3→j<33→f (67+p * 99+kd * 33+j)=.int .i64 0→True)→Q (S61_2 c k k (.pointer (some ⟨g,0,none⟩)) (.int .i64 np) (.int .i64 0) H n)) (hlx:lenV P 31 x=some (.int .i64 np)) :
  ∀(m i:Nat) (H:Hp) (n:Nat) (f:Nat→Value),n0≤n→g<n→Keep n0 H0 H→cZ H g 859 115 f→SiteF f x y z js i→i≤nj→nj-i≤m →
  Q (S61_1 c k m (.pointer (some ⟨g,0,none⟩)) y (.int .i64 nj) (.int .i64 i) H n):=by
 have body:∀(b1:Value→Value→Value→Value→Hp→Nat→Res) (m i:Nat) (H:Hp) (n:Nat) (f:Nat→Value),n0≤n→g<n→Keep n0 H0 H→cZ H g 859 115 f→SiteF f x y z js i→i≤nj →
   (∀(H:Hp) (n:Nat) (f:Nat→Value),n0≤n→g<n→Keep n0 H0 H→cZ H g 859 115 f→SiteF f x y z js (i+1)→i<nj→Q (b1 (.pointer (some ⟨g,0,none⟩)) y (.int .i64 nj) (.int .i64 ((i+1:Nat):Int)) H n)) →
   Q (C61_1 c k m b1 (.pointer (some ⟨g,0,none⟩)) y (.int .i64 nj) (.int .i64 i) H n):=by
  intro b1 m i H n f hn hgn hk hf hs hi ih
  unfold C61_1 B61_1
  generalize hS:S61_2 c k k=S
  rw[ax cJ,gw]
  by_cases hlt:i<nj
  ·rw[if_pos (by omega)]
   obtain⟨A,B,hA,hB,hA8,hB8⟩:=hjs i hlt
   have hy:=(hy0.keep hk (Nat.le_refl _)).up hn
   obtain⟨bb,o,hix,hbn,hc⟩:=hy.at_ und32 sz88 hlt
   have hl2:i * 2+2≤js.length:=by rw[hy.1]; omega
   obtain⟨u,w,hu,hw,huw⟩:=UW hl2
   rw[hA] at hu; rw[hB] at hw
   cases hu; cases hw
   have hld:az P H 88 ⟨bb,o+i * 2,none⟩=some (.agg ⟨[.int .i64 A,.int .i64 B]⟩):=by
    rw[cw hc agg88 sz88 (by rw[bv]; exact hl2) (dY _),huw]
   obtain⟨H1,k1,k2,k3⟩:=vk (P:=P) (ρ:=Value × Hp × Nat) (H:=H) (n:=n) (L:=[.int .i64 A,.int .i64 B]) zero88 rfl sz88 rfl rfl
   rw[hix,aj,ak,aj,hld,aj,k3]
   have la:az P H1 3 ⟨n,0+0,none⟩=some (.int .i64 A):=bj (dv k2) agg3 rfl
   have lb:az P H1 3 ⟨n,0+1,none⟩=some (.int .i64 B):=bj (dv k2) agg3 rfl
   rw[fa88_0,aj,ak,aj,la,aj,fa88_1,aj,ak,aj,lb,aj,aj,ak,aj,lb,aj,aj,ak,aj,la,aj,oX,aj,fa117_1,aj,
    at109 _ _ (by omega),aj,at108 _ _ (by omega),aj,aj,fa117_1,aj,at109 _ _ (by omega),aj]
   have hf1:=hf.keep k1 hgn
   obtain⟨H2,H2',n2,e2,⟨r1,r2,r3⟩,r4,r5⟩:=NQ (P:=P) (ρ:=Value × Hp × Nat) (ex:=[.l 3 ⟨n,0+0,none⟩,.l 3 ⟨n,0+1,none⟩]) (H:=H1) (n:=n+1) (v:=undef)
    (op:=fun H n k=>aq (bX P 4 (.pointer (some ⟨g,0+3+A * 8+B * 1,none⟩)) (.bool true) H) fun H=>k undef H n)
    (R:=fun H' n'=>n'=n+1∧cZ H' g 859 115 (putF f (0+3+A * 8+B * 1) [.bool true])∧∀ b,b≠n→b≠g→H'.get b=H1.get b)
    (fun q hq=>by
     simp only[List.mem_cons,List.not_mem_nil,or_false] at hq
     rcases hq with rfl | rfl <;> exact⟨_,_,rfl,.inl ⟨_,_,_,_,k2⟩⟩)
    (fun Hm hm=>by
     have hld:∀ b,ldOf [.l 3 ⟨n,0+0,none⟩,.l 3 ⟨n,0+1,none⟩] b↔b=n:=fun b=>by
      constructor
      ·rintro⟨t,a,h1,h2⟩
       simp only[List.mem_cons,List.not_mem_nil,or_false,Extra.l.injEq] at h1
       rcases h1 with⟨_,rfl⟩ | ⟨_,rfl⟩ <;> exact h2.symm
      ·rintro rfl
       exact⟨3,⟨_,0+0,none⟩,by simp,rfl⟩
     have hmg:cZ Hm g 859 115 f:=by
      obtain⟨c,e1,e2,e3⟩:=hf1
      exact⟨c,by rw[hm g (fun h=>by have:=(hld g).1 h; omega)]; exact e1,e2,e3⟩
     obtain⟨H',s1,s2,s3⟩:=hmg.storeN (o:=0+3+A * 8+B * 1) (vs:=[.bool true]) (by simp; omega) rfl
     refine⟨H',n+1,fun k=>by rw[rz sz4 rfl,s1,aj],fun b hb=>s3 b (by have:=(hld b).1 hb; omega),rfl,s2,fun b hb hb'=>?_⟩
     rw[s3 b hb',hm b (fun h=>hb ((hld b).1 h))])
   rw[e2,at108 _ _ (by omega),aj]
   subst r1
   have hld:∀ b,ldOf [.l 3 ⟨n,0+0,none⟩,.l 3 ⟨n,0+1,none⟩] b↔b=n:=fun b=>by
    constructor
    ·rintro⟨t,a,h1,h2⟩
     simp only[List.mem_cons,List.not_mem_nil,or_false,Extra.l.injEq] at h1
     rcases h1 with⟨_,rfl⟩ | ⟨_,rfl⟩ <;> exact h2.symm
    ·rintro rfl
     exact⟨3,⟨_,0+0,none⟩,by simp,rfl⟩
   have hf2:cZ H2 g 859 115 (putF f (0+3+A * 8+B * 1) [.bool true]):=by
    obtain⟨c,e1,e2,e3⟩:=r2
    exact⟨c,by rw[r5 g (fun h=>by have:=(hld g).1 h; omega)]; exact e1,e2,e3⟩
   obtain⟨H3,s1,s2,s3⟩:=hf2.storeN (o:=0+3+B * 8+A * 1) (vs:=[.bool true]) (by simp; omega) rfl
   have hI:I64 ((i:Int)+1):=by unfold I64; omega
   have hcast:((i:Int)+1)=((i+1:Nat):Int):=by omega
   rw[rz sz4 rfl,s1,aj,ax (bk hI),hcast]
   refine ih H3 (n+1) _ (by omega) (by omega) (fun b hb=>?_) s2 ⟨?_,?_,?_,fun a b ha hb=>?_⟩ hlt
   ·rw[s3 b (by omega),r5 b (fun h=>by have:=(hld b).1 h; omega),r3 b (by omega) (by omega),k1 b (by omega),hk b hb]
   ·rw[wv,if_neg (by omega),wv,if_neg (by omega)]; exact hs.x
   ·rw[wv,if_neg (by omega),wv,if_neg (by omega)]; exact hs.y
   ·rw[wv,if_neg (by omega),wv,if_neg (by omega)]; exact hs.z
   ·rw[wv,wv,nearB_next hA hB,hs.near a b ha hb]
    by_cases c1:3+a * 8+b=0+3+B * 8+A * 1
    ·rw[if_pos c1,if_pos (.inr ⟨by omega,by omega⟩)]
    ·rw[if_neg c1]
     by_cases c2:3+a * 8+b=0+3+A * 8+B * 1
     ·rw[if_pos c2,if_pos (.inl ⟨by omega,by omega⟩)]
     ·rw[if_neg c2,if_neg]
      rintro(⟨h1,h2⟩ | ⟨h1,h2⟩)
      ·exact c2 (by subst h1; subst h2; omega)
      ·exact c1 (by subst h1; subst h2; omega)
  ·rw[if_neg (by omega)]
   have hi':i=nj:=by omega
   subst hi'
   have lx:az P H 31 ⟨g,0+0+0,none⟩=some x:=by
    have:=hf.load (P:=P) (k:=0) Fv (by omega)
    rw[hs.x] at this; exact this
   rw[oX,aj,tw,aj,vV,aj,ak,aj,lx,aj,hlx,aj,← hS]
   exact hx H n f hn hgn hk hf hs (fun _ _ _ _ _ _ _=>trivial)
 intro m
 induction m with
 | zero=>
  intro i H n f h1 h2 h3 h4 h5 h6 h7
  exact body _ 0 i H n f h1 h2 h3 h4 h5 h6 (fun _ _ _ _ _ _ _ _ h=>by omega)
 | succ m ih=>
  intro i H n f h1 h2 h3 h4 h5 h6 h7
  exact body _ (m+1) i H n f h1 h2 h3 h4 h5 h6 (fun H n f q1 q2 q3 q4 q5 q6=>ih (i+1) H n f q1 q2 q3 q4 q5 (by omega) (by omega))
theorem getD_some{X:List Int}{j:Nat}(h:j<X.length):X[j]?=some (X.getD j 0):=by
 rw[List.getD_eq_getElem?_getD,List.getElem?_eq_getElem h]; rfl
theorem nestOn_call(l:Nat){H:Hp}{n g np pad:Nat}{f:Nat→Value}{x:Value}{near:Nat→Bool}{y a1 a2 a3 a4:Int}(hg:g<n)(hs:cZ H g 859 115 f)(hx:f 0=x)(hlen:lenV P 31 x=some (.int .i64 np))(hnp:np≤8)(hpad:pad<8)
  (hnear:∀ b,b<8→f (3+pad * 8+b)=.bool (near b)) (hy:0≤y∧y≤1000) (h1:okR a1 a2) (h2:okR a3 a4) :
  ∃ B H' n',mV y (mY a1 a2 a3 a4 near np pad) B 8∧(∀ k:Value→Hp→Nat→Option ρ,aX P (cal (l+5)) 97 [.pointer (some ⟨g,0,none⟩),.int .i64 pad,.agg ⟨[.int .i64 y,.int .i64 a1,.int .i64 a2,.int .i64 a3,.int .i64 a4]⟩] H n k =
   k (.agg ⟨ints (bW y (mY a1 a2 a3 a4 near np pad) B)⟩) H' n')∧n≤n'∧Keep n H H':=by
 obtain⟨B,hB,H',n',e,h3,h4⟩:=nestOn_spec l hg hs hx hlen hnp hpad hnear hy h1 h2
 refine⟨B,H',n',hB,fun k=>?_,h3,h4⟩
 unfold aX
 have:(iY P 97 && ck [.pointer (some ⟨g,0,none⟩),.int .i64 pad,.agg ⟨[.int .i64 y,.int .i64 a1,.int .i64 a2,.int .i64 a3,.int .i64 a4]⟩])=false:=by rw[Bool.and_eq_false_iff]; exact .inr rfl
 rw[this,e]
 rfl
def KY(f:Nat→Value)(js ks:List Int)(nj np nk pd i:Nat):Prop:=∀ p kd,p<np→kd<nk→(p<pd∨(p=pd∧kd<i))→xx f js ks nj np p kd
def tx(ks:List Int)(nk:Nat):Prop:=∀ kd,kd<nk→(0≤ks.getD (kd * 5) 0∧ks.getD (kd * 5) 0≤1000)∧okR (ks.getD (kd * 5+1) 0) (ks.getD (kd * 5+2) 0)∧okR (ks.getD (kd * 5+3) 0) (ks.getD (kd * 5+4) 0)
theorem nests_loop3(l k m1:Nat)(g np nj nk:Nat)(js ks:List Int)(x y z:Value)(hnp:np≤8)(hnk:nk≤3)(hks:tx ks nk)
  (Q:Res→Prop) (H0:Hp) (n0:Nat) (hg:n0≤g) (hz0:eK H0 n0 5 z nk ks) (hlx:lenV P 31 x=some (.int .i64 np)) (pd:Nat) (hpd:pd<np) (b2:Value→Value→Value→Hp→Nat→Res)
  (hb2:∀(H:Hp) (n:Nat) (f:Nat→Value),n0≤n→g<n→Keep n0 H0 H→cZ H g 859 115 f→SiteF f x y z js nj→KY f js ks nj np nk (pd+1) 0→Q (b2 (.pointer (some ⟨g,0,none⟩)) (.int .i64 np) (.int .i64 ((pd+1:Nat):Int)) H n)) :
  ∀(m i:Nat) (H:Hp) (n:Nat) (f:Nat→Value),n0≤n→g<n→Keep n0 H0 H→cZ H g 859 115 f→SiteF f x y z js nj→KY f js ks nj np nk pd i→i≤nk→nk-i≤m →
  Q (S61_3 (cal (l+5)) k m1 b2 m (.pointer (some ⟨g,0,none⟩)) (.int .i64 pd) (.int .i64 np) (.int .i64 pd) z (.int .i64 nk) (.int .i64 i) H n):=by
 have body:∀(b3:Value→Value→Value→Value→Value→Value→Value→Hp→Nat→Res) (m i:Nat) (H:Hp) (n:Nat) (f:Nat→Value),n0≤n→g<n→Keep n0 H0 H→cZ H g 859 115 f→SiteF f x y z js nj→KY f js ks nj np nk pd i→i≤nk →
   (∀(H:Hp) (n:Nat) (f:Nat→Value),n0≤n→g<n→Keep n0 H0 H→cZ H g 859 115 f→SiteF f x y z js nj→KY f js ks nj np nk pd (i+1)→i<nk →
    Q (b3 (.pointer (some ⟨g,0,none⟩)) (.int .i64 pd) (.int .i64 np) (.int .i64 pd) z (.int .i64 nk) (.int .i64 ((i+1:Nat):Int)) H n)) →
   Q (C61_3 (cal (l+5)) k m1 m b2 b3 (.pointer (some ⟨g,0,none⟩)) (.int .i64 pd) (.int .i64 np) (.int .i64 pd) z (.int .i64 nk) (.int .i64 i) H n):=by
  intro b3 m i H n f hn hgn hk hf hs hnt hi ih
  unfold C61_3 B61_3
  rw[ax cJ,gw]
  by_cases hlt:i<nk
  ·rw[if_pos (by omega)]
   have hz:=(hz0.keep hk (Nat.le_refl _)).up hn
   obtain⟨bb,o,hix,hbn,hc⟩:=hz.at_ und33 sz86 hlt
   have hl2:i * 5+5≤ks.length:=by rw[hz.1]; omega
   have hld:az P H 86 ⟨bb,o+i * 5,none⟩=some (.agg ⟨[.int .i64 (ks.getD (i * 5) 0),.int .i64 (ks.getD (i * 5+1) 0),.int .i64 (ks.getD (i * 5+2) 0),.int .i64 (ks.getD (i * 5+3) 0),.int .i64 (ks.getD (i * 5+4) 0)]⟩):=by
    rw[cw hc agg86 sz86 (by rw[bv]; exact hl2) (dY _),qdx hl2]
   obtain⟨H1,k1,k2,k3⟩:=vk (P:=P) (ρ:=Value × Hp × Nat) (H:=H) (n:=n) (L:=[.int .i64 (ks.getD (i * 5) 0),.int .i64 (ks.getD (i * 5+1) 0),.int .i64 (ks.getD (i * 5+2) 0),.int .i64 (ks.getD (i * 5+3) 0),.int .i64 (ks.getD (i * 5+4) 0)]) zero86 rfl sz86 rfl rfl
   rw[hix,aj,ak,aj,hld,aj,k3]
   have hback:=fY k2 agg86 sz86 rfl
   rw[ak,aj,hback,aj,oX,aj,qex,aj,at115 _ _ (by omega),aj]
   have hf1:=hf.keep k1 hgn
   obtain⟨y1,y2,y3⟩:=hks i hlt
   obtain⟨B,H2,n2,hB,e2,e3,e4⟩:=nestOn_call (ρ:=Value × Hp × Nat) l (n:=n+1) (by omega) hf1 hs.x hlx hnp (show pd<8 by omega) (near:=CW js nj pd) (fun b hb=>hs.near pd b (by omega) hb) y1 y2 y3
   rw[e2,at114 _ _ (by omega),aj]
   have hf2:=hf1.keep e4 (by omega)
   have lens:(ints (bW (ks.getD (i * 5) 0) (mY (ks.getD (i * 5+1) 0) (ks.getD (i * 5+2) 0) (ks.getD (i * 5+3) 0) (ks.getD (i * 5+4) 0) (CW js nj pd) np pd) B)).length=33:=by rw[bv,gk (yy ..) hB.1]
   obtain⟨H3,s1,s2,s3⟩:=hf2.storeN (o:=0+67+pd * 99+i * 33) (vs:=ints (bW (ks.getD (i * 5) 0) (mY (ks.getD (i * 5+1) 0) (ks.getD (i * 5+2) 0) (ks.getD (i * 5+3) 0) (ks.getD (i * 5+4) 0) (CW js nj pd) np pd) B)) (by rw[lens]; omega) (kJ _)
   have hI:I64 ((i:Int)+1):=by unfold I64; omega
   have hcast:((i:Int)+1)=((i+1:Nat):Int):=by omega
   rw[xq Gk lens,s1,aj,ax (bk hI),hcast]
   refine ih H3 n2 _ (by omega) (by omega) (fun b hb=>?_) s2 ⟨?_,?_,?_,fun a b ha hb=>?_⟩ (fun p kd hp hkd hpk=>?_) hlt
   ·rw[s3 b (by omega),e4 b (by omega),k1 b (by omega),hk b hb]
   ·rw[NV _ _ _ (.inl (by omega))]; exact hs.x
   ·rw[NV _ _ _ (.inl (by omega))]; exact hs.y
   ·rw[NV _ _ _ (.inl (by omega))]; exact hs.z
   ·rw[NV _ _ _ (.inl (by omega))]; exact hs.near a b ha hb
   ·by_cases hnew:p=pd∧kd=i
    ·obtain⟨rfl,rfl⟩:=hnew
     refine⟨B,hB,fun j hj=>?_⟩
     rw[show 67+p * 99+kd * 33+j=0+67+p * 99+kd * 33+j by omega]
     refine putF_in _ _ _ (gQ ?_)
     have:j<(bW (ks.getD (kd * 5) 0) (mY (ks.getD (kd * 5+1) 0) (ks.getD (kd * 5+2) 0) (ks.getD (kd * 5+3) 0) (ks.getD (kd * 5+4) 0) (CW js nj p) np p) B).length:=by rw[← bv,lens]; exact hj
     exact getD_some this
    ·obtain⟨B',hB',hf'⟩:=hnt p kd hp hkd (by omega)
     refine⟨B',hB',fun j hj=>?_⟩
     rw[NV _ _ _ (by rw[lens]; omega)]
     exact hf' j hj
  ·rw[if_neg (by omega)]
   have hi':i=nk:=by omega
   subst hi'
   have hI:I64 ((pd:Int)+1):=by unfold I64; omega
   have hcast:((pd:Int)+1)=((pd+1:Nat):Int):=by omega
   rw[ax (bk hI),hcast]
   exact hb2 H n f hn hgn hk hf hs (fun p kd hp hkd h=>hnt p kd hp hkd (by omega))
 intro m
 induction m with
 | zero=>
  intro i H n f h1 h2 h3 h4 h5 h6 h7 h8
  exact body _ 0 i H n f h1 h2 h3 h4 h5 h6 h7 (fun _ _ _ _ _ _ _ _ _ h=>by omega)
 | succ m ih=>
  intro i H n f h1 h2 h3 h4 h5 h6 h7 h8
  exact body _ (m+1) i H n f h1 h2 h3 h4 h5 h6 h7 (fun H n f q1 q2 q3 q4 q5 q6 q7=>ih (i+1) H n f q1 q2 q3 q4 q5 q6 (by omega) (by omega))
theorem nests_loop2(l k:Nat)(g np nj nk:Nat)(js ks:List Int)(x y z:Value)(hnp:np≤8)(hnk:nk≤3)(hks:tx ks nk)
  (Q:Res→Prop) (H0:Hp) (n0:Nat) (hg:n0≤g) (hz0:eK H0 n0 5 z nk ks) (hlx:lenV P 31 x=some (.int .i64 np))
  (hq:∀(H:Hp) (n:Nat) (f:Nat→Value),n0≤n→g<n→Keep n0 H0 H→cZ H g 859 115 f→SiteF f x y z js nj→(∀ p kd,p<np→kd<nk→xx f js ks nj np p kd)→Q (some (.tuple ⟨[.pointer (some ⟨g,0,none⟩),.int .i64 0]⟩,H,n))) :
  ∀(m i:Nat) (H:Hp) (n:Nat) (f:Nat→Value),n0≤n→g<n→Keep n0 H0 H→cZ H g 859 115 f→SiteF f x y z js nj→KY f js ks nj np nk i 0→i≤np→np-i+3≤m →
  Q (S61_2 (cal (l+5)) k m (.pointer (some ⟨g,0,none⟩)) (.int .i64 np) (.int .i64 i) H n):=by
 have body:∀(b2:Value→Value→Value→Hp→Nat→Res) (m i:Nat) (H:Hp) (n:Nat) (f:Nat→Value),n0≤n→g<n→Keep n0 H0 H→cZ H g 859 115 f→SiteF f x y z js nj→KY f js ks nj np nk i 0→i≤np→3≤m →
   (∀(H:Hp) (n:Nat) (f:Nat→Value),n0≤n→g<n→Keep n0 H0 H→cZ H g 859 115 f→SiteF f x y z js nj→KY f js ks nj np nk (i+1) 0→i<np→Q (b2 (.pointer (some ⟨g,0,none⟩)) (.int .i64 np) (.int .i64 ((i+1:Nat):Int)) H n)) →
   Q (C61_2 (cal (l+5)) k m b2 (.pointer (some ⟨g,0,none⟩)) (.int .i64 np) (.int .i64 i) H n):=by
  intro b2 m i H n f hn hgn hk hf hs hnt hi hm ih
  unfold C61_2 B61_2
  generalize hS:S61_3 (cal (l+5)) k m b2 m=S
  rw[ax cJ,gw]
  by_cases hlt:i<np
  ·rw[if_pos (by omega)]
   have lz:az P H 33 ⟨g,0+0+2,none⟩=some z:=by
    have:=hf.load (P:=P) (k:=2) agg33 (by omega)
    rw[hs.z] at this; exact this
   have e3:lenV P 33 z=some (.int .i64 nk):=hz0.len_eq und33
   rw[oX,aj,tw,aj,XQ,aj,ak,aj,lz,aj,e3,aj,← hS]
   exact nests_loop3 l k m g np nj nk js ks x y z hnp hnk hks Q H0 n0 hg hz0 hlx i hlt b2 (fun H n f q1 q2 q3 q4 q5 q6=>ih H n f q1 q2 q3 q4 q5 q6 hlt) m 0 H n f hn hgn hk hf hs hnt (by omega) (by omega)
  ·rw[if_neg (by omega)]
   exact hq H n f hn hgn hk hf hs (fun p kd hp hkd=>hnt p kd hp hkd (.inl (by omega)))
 intro m
 induction m with
 | zero=>
  intro i H n f h1 h2 h3 h4 h5 h6 h7 h8
  omega
 | succ m ih=>
  intro i H n f h1 h2 h3 h4 h5 h6 h7 h8
  exact body _ (m+1) i H n f h1 h2 h3 h4 h5 h6 h7 (by omega) (fun H n f q1 q2 q3 q4 q5 q6 q7=>ih (i+1) H n f q1 q2 q3 q4 q5 q6 (by omega) (by omega))
open Classical in
theorem nearB_zero(js:List Int)(a b:Nat):CW js 0 a b=false:=by
 unfold CW
 exact decide_eq_false (fun⟨q,h,_⟩=>by omega)
theorem build117(x y z:Value):fK P 115 [(0,.agg ⟨[x,y,z]⟩)]=some (.agg ⟨x::y::z::(List.replicate 64 (.bool false)++List.replicate 792 (.int .i64 0))⟩):=by kernel_rfl
def site0(x y z:Value)(k:Nat):Value:=if k=0 then x else if k=1 then y else if k=2 then z else if k<67 then .bool false else .int .i64 0
theorem site0_at(x y z:Value)(k:Nat)(hk:k<859):(x::y::z::(List.replicate 64 (Value.bool false)++List.replicate 792 (Value.int .i64 0)))[k]?=some (site0 x y z k):=by
 match k,hk with
 | 0,_=>rfl
 | 1,_=>rfl
 | 2,_=>rfl
 | k+3,hk=>
  rw[List.getElem?_cons_succ,List.getElem?_cons_succ,List.getElem?_cons_succ]
  unfold site0
  rw[if_neg (by omega),if_neg (by omega),if_neg (by omega)]
  by_cases h:k<64
  ·rw[List.getElem?_append_left (by simp; omega),List.getElem?_replicate,if_pos h,if_pos (by omega)]
  ·rw[List.getElem?_append_right (by simp; omega),List.getElem?_replicate,List.length_replicate,if_pos (by omega),if_neg (by omega)]
structure Good (np nj nk:Nat) (ps js ks:List Int):Prop where
 np8:np≤8
 nj16:nj≤16
 nk3:nk≤3
 np1:np≠0
 nk1:nk≠0
 ok:¬ GBad np nj nk ps js ks
theorem Qw{np nj nk:Nat}{ps js ks:List Int}(h:iq np nj nk ps js ks=0):Good np nj nk ps js ks:=by
 unfold iq at h
 by_cases c1:8<np∨16<nj∨3<nk
 ·rw[if_pos c1] at h; omega
 ·rw[if_neg c1] at h
  by_cases c2:np=0∨nk=0
  ·rw[if_pos c2] at h; omega
  ·rw[if_neg c2] at h
   by_cases c3:GBad np nj nk ps js ks
   ·rw[if_pos c3] at h; omega
   ·exact⟨by omega,by omega,by omega,by omega,by omega,c3⟩
theorem Good.kinds{np nj nk:Nat}{ps js ks:List Int}(h:Good np nj nk ps js ks):tx ks nk:=by
 intro kd hkd
 have hb:¬ KBad ks kd:=fun c=>h.ok (.inr (.inl ⟨kd,hkd,c⟩))
 unfold KBad at hb
 unfold okR
 omega
theorem Good.joins{np nj nk:Nat}{ps js ks:List Int}(h:Good np nj nk ps js ks)(hl:js.length=nj * 2)(i:Nat)(hi:i<nj):∃ A B:Nat,js[i * 2]?=some (A:Int)∧js[i * 2+1]?=some (B:Int)∧A<np∧B<np:=by
 have hb:∀ i,i<nj→okJ js np nj (js.getD (i * 2) 0) (js.getD (i * 2+1) 0):=(joins_all hl).2 fun c=>h.ok (.inr (.inr c))
 obtain⟨o1,o2,_,_⟩:=hb i hi
 refine⟨(js.getD (i * 2) 0).toNat,(js.getD (i * 2+1) 0).toNat,?_,?_,by omega,by omega⟩
 ·rw[getD_some (show i * 2<js.length by omega)]; congr 1; omega
 ·rw[getD_some (show i * 2+1<js.length by omega)]; congr 1; omega
def Opened(r:Res)(n:Nat)(H:Hp)(v:Value)(np nj nk:Nat)(js ks:List Int):Prop:=∃(g:Nat) (x y z:Value) (f:Nat→Value) (H':Hp) (n':Nat),r=some (.tuple ⟨[.pointer (some ⟨g,0,none⟩),.int .i64 0]⟩,H',n')∧n≤n'∧Keep n H H'∧n≤g∧g<n' ∧
 v=.agg ⟨[x,y,z]⟩∧cZ H' g 859 115 f∧SiteF f x y z js nj∧∀ p kd,p<np→kd<nk→xx f js ks nj np p kd
theorem open_spec(l:Nat){np nj nk:Nat}{ps js ks:List Int}{H:Hp}{n:Nat}{v:Value}(hg:kq H n v np nj nk ps js ks)(hnp:np≤1000)(hnj:nj≤1000)(hnk:nk≤1000) :
  (iq np nj nk ps js ks≠0→Ret (C61_0 (cal (l+5)) KK v H n) n H (.tuple ⟨[.pointer none,.int .i64 (iq np nj nk ps js ks)]⟩)) ∧
  (iq np nj nk ps js ks=0→Opened (C61_0 (cal (l+5)) KK v H n) n H v np nj nk js ks):=by
 have hg0:=hg
 obtain⟨x,y,z,rfl,h1,h2,h3⟩:=hg
 unfold C61_0 B61_0
 generalize hS:S61_1 (cal (l+5)) KK KK=S
 rw[dZ]
 simp only[aZ,ptr]
 have hk:Keep n H (H.set n (some (.cells [x,y,z] 35 false none))):=(Keep.refl n H).set (Nat.le_refl _) _
 have hb:aW (H.set n (some (.cells [x,y,z] 35 false none))) n 0 [x,y,z]:=aW.new
 generalize H.set n (some (.cells [x,y,z] 35 false none))=H1 at hk hb ⊢
 have lg:∀ H2,aW H2 n 0 [x,y,z]→az P H2 35 ⟨n,0,none⟩=some (.agg ⟨[x,y,z]⟩):=fun H2 h=>cw (o:=0) (k:=0) h UZ sz35 (by simp) (by simp [h1.hole.1,h2.hole.1,h3.hole.1])
 obtain⟨H2,n2,e1,e2,e3⟩:=check_call (ρ:=Value × Hp × Nat) (l+1) (hg0.keep hk (show n≤n+1 by omega)) hnp hnj hnk
 rw[ak,aj,lg H1 hb,aj,e1,ax iV]
 constructor
 ·intro hne
  rw[decide_eq_false hne,Bool.not_false,fX]
  exact⟨H2,n2,rfl,by omega,hk.trans e3 (by omega)⟩
 ·intro he
  have good:=Qw he
  have hb2:=hb.keep e3 (by omega)
  rw[decide_eq_true he,Bool.not_true,ez,aj,lg H2 hb2,aj,build117,aj,dZ]
  simp only[aZ,ptr]
  have kk:Keep n H H2:=hk.trans e3 (by omega)
  have hf:cZ (H2.set n2 (some (.cells (x::y::z::(List.replicate 64 (.bool false)++List.replicate 792 (.int .i64 0))) 115 false none))) n2 859 115 (site0 x y z):=cZ.new (by simp) _ (site0_at x y z)
  have kk2:Keep n H (H2.set n2 (some (.cells (x::y::z::(List.replicate 64 (.bool false)++List.replicate 792 (.int .i64 0))) 115 false none))):=kk.set (by omega) _
  generalize H2.set n2 (some (.cells (x::y::z::(List.replicate 64 (.bool false)++List.replicate 792 (.int .i64 0))) 115 false none))=H3 at hf kk2 ⊢
  have ly:az P H3 32 ⟨n2,0+0+1,none⟩=some y:=hf.load (P:=P) (k:=1) agg32 (by omega)
  have ey:lenV P 32 y=some (.int .i64 nj):=h2.len_eq und32
  rw[oX,aj,tw,aj,fa35_1,aj,ak,aj,ly,aj,ey,aj,← hS]
  have hlx:lenV P 31 x=some (.int .i64 np):=h1.len_eq Fx
  refine near_loop61 (cal (l+5)) KK n2 np nj js x y z good.np8 hnj (good.joins h2.1) (fun r=>Opened r n H (.agg ⟨[x,y,z]⟩) np nj nk js ks) H n (by omega) h2
   (fun H4 n4 f4 q1 q2 q3 q4 q5 _=>nests_loop2 l KK n2 np nj nk js ks x y z good.np8 good.nk3 good.kinds (fun r=>Opened r n H (.agg ⟨[x,y,z]⟩) np nj nk js ks) H n (by omega) h3 hlx
    (fun H5 n5 f5 p1 p2 p3 p4 p5 p6=>⟨n2,x,y,z,f5,H5,n5,rfl,by omega,p3,by omega,p2,rfl,p4,p5,p6⟩) KK 0 H4 n4 f4 q1 q2 q3 q4 q5 (fun p kd _ _ h=>by omega) (by omega) (by have:=good.np8; unfold KK; omega)) hlx
   KK 0 H3 (n2+1) (site0 x y z) (by omega) (by omega) kk2 hf ⟨rfl,rfl,rfl,fun a b ha hb=>?_⟩ (by omega) (by unfold KK; omega)
  unfold site0
  rw[if_neg (by omega),if_neg (by omega),if_neg (by omega),if_pos (by omega),nearB_zero]
theorem flat61:iY P 61=false:=by kernel_rfl
theorem call61(l:Nat)(a:Value)(H:Hp)(n:Nat):(cal (l+1)).call 61 [a] H n=C61_0 (cal l) KK a H n:=by kernel_rfl
theorem open_call(l:Nat)(v:Value)(H:Hp)(n:Nat)(k:Value→Hp→Nat→Option ρ):aX P (cal (l+6)) 61 [v] H n k=aq (C61_0 (cal (l+5)) KK v H n) fun r=>k r.1 r.2.1 r.2.2:=by
 unfold aX
 rw[flat61,call61]
 rfl
end Go.Proofs.Ytmjbdjnnojfhkaa.spec
end
section
namespace Go.Ev
open Go
variable {P:Program} {t t2 e e2:TypeId} {ρ:Type}
theorem AW{H:Hp}{b o:Nat}{L:List Value}(h:aW H b o L)(hn:L.all lJ=true){m:Nat}(hm:L.length=m):qX H ⟨b,o,none⟩ m=some L:=by
 have:=qjj (s:=m) (k:=0) h (by omega) hn
 rw[Nat.add_zero] at this
 rw[this,qkj _ _ hm]
def VecV(H:Hp)(n0 n:Nat)(s:Nat)(e:TypeId)(v:Value)(len:Nat)(L:List Value):Prop:=
 L.length=len * s∧L.all tj=true∧L.all lJ=true∧((v=.slice none 0 0∧len=0)∨∃ b,v=.slice (some ⟨b,0,none⟩) len capV∧n0≤b∧b<n∧0<len∧H.get b=some (.cells L e false (some s)))
theorem VecV.same{H H':Hp}{n0 n m s len:Nat}{v:Value}{L:List Value}(h:VecV H n0 n s e v len L)(hm:n≤m)(hk:∀ b,b<n→fj v b→H'.get b=H.get b):VecV H' n0 m s e v len L:=by
 obtain⟨h1,h2,h3,h4⟩:=h
 refine⟨h1,h2,h3,?_⟩
 rcases h4 with h4 | ⟨b,e,a1,a2,a3,a4⟩
 ·exact .inl h4
 ·exact .inr ⟨b,e,a1,by omega,a3,by rw[hk b a2 ⟨_,_,_,_,e⟩]; exact a4⟩
theorem VecV.low{H:Hp}{n0 n s len:Nat}{v:Value}{L:List Value}(h:VecV H n0 n s e v len L){k:Nat}(hb:fj v k):n0≤k∧k<n:=by
 obtain⟨o,l,cp,sp,hb⟩:=hb
 rcases h.2.2.2 with⟨rfl,_⟩ | ⟨b,rfl,h1,h2,_⟩
 ·cases hb
 ·cases hb; exact⟨h1,h2⟩
theorem append_vecV{H:Hp}{n0 n s len b2 o2 cap2 bt:Nat}{v z:Value}{xs ys:List Value}(h:VecV H n0 n s e v len xs)(h1:jv P t=some e)(h2:jv P t2=some e2)
  (hs:szT P e=some s) (hb:yQ P e=some bt) (hz:iJ P e=some z) (hzl:(aZ z).length=s) (hy:aW H b2 o2 ys) (hyl:ys.length=s) (hyf:ys.all tj=true) (hyn:ys.all lJ=true)
  (big:len+1<1048576) (hsb:s<1048576) (hbb:bt<1048576) (hn:n0≤n) :
  ∃ H',iz P (bare H n) t t2 v (.slice (some ⟨b2,o2,none⟩) 1 cap2)=some (.slice (some ⟨n,0,none⟩) (len+1) capV,bare H' (n+1)) ∧
   VecV H' n0 (n+1) s e (.slice (some ⟨n,0,none⟩) (len+1) capV) (len+1) (xs++ys)∧∀ b,b<n→¬ fj v b→H'.get b=H.get b:=by
 have hl2:qX H ⟨b2,o2,none⟩ (1 * s)=some ys:=AW hy hyn (by omega)
 have hsrc:pX H s (.slice (some ⟨b2,o2,none⟩) 1 cap2)=some (ys,1):=by
  unfold pX
  simp only[hl2]
 have hbeq:Nat.beq (aZ z).length s=true:=by rw[hzl]; exact Nat.beq_refl s
 obtain⟨g1,gf,gn,g2⟩:=h
 have hlen:(xs++ys).length=(len+1) * s:=by rw[List.length_append,g1,hyl,Nat.add_mul,Nat.one_mul]
 have hlf:(xs++ys).all tj=true:=by rw[List.all_append,gf,hyf]; rfl
 have hln:(xs++ys).all lJ=true:=by rw[List.all_append,gn,hyn]; rfl
 rcases g2 with⟨rfl,rfl⟩ | ⟨b,rfl,a1,a2,a3,a4⟩
 ·have hx0:xs=[]:=by simpa using g1
  subst hx0
  have hbig:yV (0+1) s bt=true:=by unfold yV; simp [hsb,hbb]
  refine⟨H.set n (some (.cells ys e false (some s))),?_,⟨hlen,hlf,hln,.inr ⟨n,rfl,hn,by omega,by omega,by rw[Tr.get_set,if_pos rfl]; rfl⟩⟩,fun b hb _=>by rw[Tr.get_set,if_neg (by omega)]⟩
  unfold iz
  simp only[h1,h2,hs,hb,hz,bare,hsrc,hbeq,hbig]
  rfl
 ·have hbig:yV (len+1) s bt=true:=by unfold yV; simp [hsb,hbb,big]
  have hold:qX H ⟨b,0,none⟩ (len * s)=some xs:=AW (dv a4) gn g1
  have c1:Nat.blt capV capV=false:=by decide +kernel
  have c2:Nat.beq capV capV=true:=Nat.beq_refl _
  have c3:Nat.beq e e=true:=Nat.beq_refl _
  have c4:Nat.beq s s=true:=Nat.beq_refl _
  refine⟨(H.set b none).set n (some (.cells (xs++ys) e false (some s))),?_,⟨hlen,hlf,hln,.inr ⟨n,rfl,hn,by omega,by omega,by rw[Tr.get_set,if_pos rfl]⟩⟩,fun b' hb' hne=>?_⟩
  ·unfold iz
   simp only[h1,h2,hs,hb,hz,bare,hsrc,hbeq,hold,hbig]
   unfold tY
   simp only[c1,c2,a4,c3,c4,hyf,Bool.and_self]
   rfl
  ·rw[Tr.get_set,if_neg (by omega),Tr.get_set,if_neg (fun h=>hne (by subst h; exact⟨_,_,_,_,rfl⟩))]
end Go.Ev
end
section
namespace Go.Proofs.Ytmjbdjnnojfhkaa.spec
open Go Go.Ev Go.Proofs.Ytmjbdjnnojfhkaa.nestFits Go.Proofs.Ytmjbdjnnojfhkaa.G
set_option maxRecDepth 100000
variable {ρ:Type}
noncomputable def fitD(js ks:List Int)(nj np p kd:Nat):Bool:=decide (total (shP js ks nj np p kd) 0≤ks.getD (kd * 5) 0∧ks.getD (kd * 5) 0≤total (shP js ks nj np p kd) 1)
theorem Vv(js ks:List Int)(nj np p kd:Nat):(shP js ks nj np p kd).length=16:=yy ..
theorem CX{js ks:List Int}{nj np nk p kd:Nat}(hks:tx ks nk)(hkd:kd<nk)(hnp:np≤8)(hp:p<np):iW (shP js ks nj np p kd):=by
 obtain⟨_,h2,h3⟩:=hks kd hkd
 exact sharesL_bounded hnp (by omega) h2 h3
theorem XZ{H:Hp}{g np nj p kd:Nat}{f:Nat→Value}{js ks:List Int}(hf:cZ H g 859 115 f)(hn:xx f js ks nj np p kd)(hp:p<8)(hkd:kd<3) :
  ∃ B,mV (ks.getD (kd * 5) 0) (shP js ks nj np p kd) B 8∧az P H 111 ⟨g,0+67+p * 99+kd * 33,none⟩=some (.agg ⟨ints (bW (ks.getD (kd * 5) 0) (shP js ks nj np p kd) B)⟩):=by
 obtain⟨B,hB,hj⟩:=hn
 refine⟨B,hB,?_⟩
 rw[hf.load_agg (k:=0+67+p * 99+kd * 33) Tq Gk (by omega)]
 have lens:(bW (ks.getD (kd * 5) 0) (shP js ks nj np p kd) B).length=33:=gk (Vv ..) hB.1
 have e:(List.range 33).map (fun j=>f (0+67+p * 99+kd * 33+j))=ints (bW (ks.getD (kd * 5) 0) (shP js ks nj np p kd) B):=by
  apply List.ext_getElem?
  intro j
  by_cases h:j<33
  ·rw[List.getElem?_map,List.getElem?_range h,gQ (getD_some (by omega))]
   simp only[Option.map_some]
   rw[show 0+67+p * 99+kd * 33+j=67+p * 99+kd * 33+j by omega,hj j h]
  ·rw[List.getElem?_eq_none (by simp; omega),List.getElem?_eq_none (by rw[bv]; omega)]
 rw[e]
theorem repl_one(z:Value):∀ n:Nat,repl n [z]=List.replicate n z
 | 0=>rfl
 | n+1=>by
  unfold repl
  rw[repl_one z n,List.replicate_succ]
  rfl
theorem Good.small{np nj nk:Nat}{ps js ks:List Int}(h:Good np nj nk ps js ks):IV ks nk:=by
 intro kd hkd
 obtain⟨h1,h2,h3⟩:=h.kinds kd hkd
 unfold okR at h2 h3
 omega
theorem Good.inner{np nj nk:Nat}{ps js ks:List Int}(h:Good np nj nk ps js ks)(hl:js.length=nj * 2):Inner js nj np:=by
 intro j hj a b hJ
 obtain⟨A,B,hA,hB,h1,h2⟩:=h.joins hl j hj
 unfold J at hJ
 rw[hA,hB] at hJ
 simp only[Option.some.injEq] at hJ
 omega
open Classical in
theorem uv{js ks:List Int}{nj np p kd:Nat}(hi:Inner js nj np)(hnp:np≤8)(hp:p<np)(q:Nat) :
  (shP js ks nj np p kd).getD (q * 2) 0=(cq js ks nj kd p q).1∧(shP js ks nj np p kd).getD (q * 2+1) 0=(cq js ks nj kd p q).2:=by
 obtain⟨g1,g2⟩:=sharesL_get (a1:=ks.getD (kd * 5+1) 0) (a2:=ks.getD (kd * 5+2) 0) (a3:=ks.getD (kd * 5+3) 0) (a4:=ks.getD (kd * 5+4) 0) (near:=CW js nj p) hnp (show p<8 by omega) q
 unfold shP
 rw[g1,g2]
 unfold cq
 by_cases e:q=p
 ·subst e
  rw[if_pos rfl,if_pos rfl,if_pos rfl]
  exact⟨rfl,rfl⟩
 ·rw[if_neg e,if_neg e,if_neg (show ¬ (p:Int)=(q:Int) by omega)]
  by_cases hn:Near js nj p q
  ·have hb:CW js nj p q=true:=by unfold CW; rw[decide_eq_true_eq]; exact hn
   have hq:q<np:=by obtain⟨j,h1,h2⟩:=hn; have:=hi j h1 _ _ h2; omega
   have hc:q<np∧CW js nj p q=true:=⟨hq,hb⟩
   rw[if_pos hc,if_pos hc,if_pos hn]
   exact⟨rfl,rfl⟩
  ·have hb:¬ (q<np∧CW js nj p q=true):=fun⟨_,h⟩=>hn (by unfold CW at h; rw[decide_eq_true_eq] at h; exact h)
   rw[if_neg hb,if_neg hb,if_neg hn]
   exact⟨rfl,rfl⟩
theorem fitsB_iff8{js ks:List Int}{nj np nk kind a:Nat}(hs:IV ks nk)(hk:kind<nk)(ha:a<np)(hi:Inner js nj np)(hnp:np≤8) :
  fitsB js ks nj np kind a↔ay (fun p=>(cq js ks nj kind a p).1) 8≤ks.getD (kind * 5) 0∧ks.getD (kind * 5) 0≤ay (fun p=>(cq js ks nj kind a p).2) 8:=by
 rw[fitsB_iff hs hk ha hi (by omega)]
 have e1:ay (fun p=>(cq js ks nj kind a p).1) 11=ay (fun p=>(cq js ks nj kind a p).1) 8:=oy (by omega) fun k h1 _=>by rw[IX hi ha (by omega)]
 have e2:ay (fun p=>(cq js ks nj kind a p).2) 11=ay (fun p=>(cq js ks nj kind a p).2) 8:=oy (by omega) fun k h1 _=>by rw[IX hi ha (by omega)]
 rw[e1,e2]
theorem fits_agree{np nj nk p kd:Nat}{ps js ks:List Int}(good:Good np nj nk ps js ks)(hl:js.length=nj * 2)(hp:p<np)(hkd:kd<nk):fitD js ks nj np p kd=true↔fitsB js ks nj np kd p:=by
 rw[fitsB_iff8 good.small hkd hp (good.inner hl) good.np8]
 unfold fitD total
 rw[decide_eq_true_eq,bz (f:=fun q=>(shP js ks nj np p kd).getD (q * 2+0) 0) (g:=fun q=>(cq js ks nj kd p q).1) (fun q _=>(uv (good.inner hl) good.np8 hp q).1),
  bz (f:=fun q=>(shP js ks nj np p kd).getD (q * 2+1) 0) (g:=fun q=>(cq js ks nj kd p q).2) (fun q _=>(uv (good.inner hl) good.np8 hp q).2)]
theorem call21(l:Nat)(a b c:Value)(H:Hp)(n:Nat):(cal (l+1)).call 21 [a,b,c] H n=C21_0 (cal l) KK a b c H n:=by kernel_rfl
theorem fitsR_call(l:Nat){np nj nk:Nat}{ps js ks:List Int}(hnj:nj≤KK)(hnp:np≤100)(kind:Nat)(hk:kind<nk)(at_:Int)(hs:IV ks nk){H:Hp}{n:Nat}{v:Value}(hg:GroveI H n v np nj nk ps js ks) :
  ∃(r:Bool) (H':Hp) (n':Nat),(r=true↔fitsB js ks nj np kind at_)∧(∀ k:Value→Hp→Nat→Option ρ,aX P (cal (l+4)) 21 [v,.int .i64 kind,.int .i64 at_] H n k=k (.bool r) H' n')∧n≤n'∧Keep n H H':=by
 obtain⟨r,H',n',⟨b,rfl,hb⟩,e1,e2,e3⟩:=eZ (ρ:=ρ) (P:=P) (cal:=cal (l+4)) (f:=21) (args:=[v,.int .i64 kind,.int .i64 at_]) (H:=H) (n:=n)
  (Pre:=fun H n=>GroveI H n v np nj nk ps js ks) (Q:=fun r=>∃ b:Bool,r=.bool b∧(b=true↔fitsB js ks nj np kind at_))
  (fun H n h=>by
   obtain⟨r,h1,h2⟩:=fits_spec l hnj hnp kind hk at_ hs h
   exact⟨.bool r,by rw[call21]; exact h1,r,rfl,h2⟩) (fun r ⟨b,e,_⟩ _=>by subst e; rfl) hg (fun hp=>hg.nil (by simp only[ck,Bool.and_eq_true] at hp; exact hp.1))
 exact⟨b,H',n',hb,e1,e2,e3⟩
def ListR(H:Hp)(n:Nat)(v:Value)(len:Nat)(xs:List Int):Prop:=xs.length=len∧(∀ x ∈ xs,I64 x) ∧
 ((v=.slice none 0 0∧len=0)∨∃ b o cap,v=.slice (some ⟨b,o,none⟩) len cap∧b<n∧aW H b o (ints xs))
theorem ListR.keep{H H':Hp}{n m len:Nat}{v:Value}{xs:List Int}(h:ListR H n v len xs)(hk:Keep n H H')(hm:n≤m):ListR H' m v len xs:=by
 obtain⟨h1,h2,h3⟩:=h
 refine⟨h1,h2,?_⟩
 rcases h3 with h3 | ⟨b,o,cap,e,a,c⟩
 ·exact .inl h3
 ·exact .inr ⟨b,o,cap,e,by omega,c.keep hk a⟩
theorem ListR.nil{H:Hp}{n len:Nat}{v:Value}{xs:List Int}(h:ListR H n v len xs)(hp:bw v=true):ListR .nil 0 v len xs:=by
 obtain⟨h1,h2,h3⟩:=h
 refine⟨h1,h2,?_⟩
 rcases h3 with h3 | ⟨b,o,cap,e,a,c⟩
 ·exact .inl h3
 ·subst e; simp [bw] at hp
theorem und44:P.underlying 44=some (.slice 3):=by kernel_rfl
theorem sl44:jv P 44=some 3:=by kernel_rfl
theorem sz3:szT P 3=some 1:=by kernel_rfl
theorem by3:yQ P 3=some 8:=by kernel_rfl
theorem zero3:iJ P 3=some (.int .i64 0):=by kernel_rfl
theorem ListR.len_eq{H:Hp}{n len:Nat}{v:Value}{xs:List Int}(h:ListR H n v len xs):lenV P 44 v=some (.int .i64 len):=by
 rcases h.2.2 with⟨rfl,rfl⟩ | ⟨b,o,cap,rfl,_⟩
 ·unfold lenV; simp only[und44]; rfl
 ·unfold lenV; simp only[und44]; rfl
theorem ListR.at_{H:Hp}{n len:Nat}{v:Value}{xs:List Int}(h:ListR H n v len xs){i:Nat}(hi:i<len) :
  ∃ b o,aJ P 44 v (.int .i64 i)=some (.pointer (some ⟨b,o,none⟩))∧b<n∧az P H 3 ⟨b,o,none⟩=some (.int .i64 (xs.getD i 0)):=by
 rcases h.2.2 with⟨rfl,rfl⟩ | ⟨b,o,cap,rfl,a,c⟩
 ·omega
 ·refine⟨b,o+i,?_,a,?_⟩
  ·unfold aJ
   simp only[und44,HQ hi,sz3]
   simp [addA]
  ·exact bj c agg3 (gQ (getD_some (by rw[h.1]; exact hi)))
theorem ListR.src{H:Hp}{n len:Nat}{v:Value}{xs:List Int}(h:ListR H n v len xs):pX H 1 v=some (ints xs,len):=by
 obtain⟨h1,_,h3⟩:=h
 rcases h3 with⟨rfl,rfl⟩ | ⟨b,o,cap,rfl,a,c⟩
 ·have:xs=[]:=List.length_eq_zero_iff.1 h1
  subst this; rfl
 ·unfold pX
  simp only[AW c (dY _) (show(ints xs).length=len * 1 by rw[bv,h1,Nat.mul_one])]
theorem VecAt.list{H:Hp}{n0 n len:Nat}{e:TypeId}{v:Value}{xs:List Int}(h:VecAt H n0 n 1 e v len xs)(hx:∀ x ∈ xs,I64 x):ListR H n v len xs:=by
 obtain⟨h1,h2⟩:=h
 refine⟨by omega,hx,?_⟩
 rcases h2 with h2 | ⟨b,e,a1,a2,a3,a4⟩
 ·exact .inl h2
 ·exact .inr ⟨b,0,capV,e,a2,dv a4⟩
theorem row44_0:zj P 44 0 []=some ([],3):=by kernel_rfl
theorem list_spec(c:Cal)(k:Nat){H:Hp}{n len:Nat}{v:Value}{xs:List Int}(h:ListR H n v len xs)(hlen:len≤1000) :
  ∃ u H' n',Oy c k v H n=some (u,H',n')∧n≤n'∧Keep n H H'∧ListR H' n' u len xs:=by
 unfold Oy B23_0 rowK
 rw[row44_0,aj]
 unfold newK
 dsimp only
 have hk:Keep n H (H.set n (some (.cells [] 3 false none))):=(Keep.refl n H).set (Nat.le_refl _) _
 have hg:(H.set n (some (.cells [] 3 false none))).get n=some (.cells [] 3 false none):=by rw[Tr.get_set,if_pos rfl]
 have h1:=h.keep hk (show n≤n+1 by omega)
 generalize H.set n (some (.cells [] 3 false none))=H1 at hk hg h1 ⊢
 have hold:qX H1 ⟨n,0,none⟩ (0 * 1)=some []:=AW (L:=[]) (dv hg) rfl rfl
 have hbig:yV (0+len) 1 8=true:=by unfold yV; simp; omega
 have hb1:Nat.beq (aZ (.int .i64 0)).length 1=true:=rfl
 have c0:Nat.blt 0 capV=true:=by decide +kernel
 by_cases h0:len=0
 ·subst h0
  have hx:xs=[]:=List.length_eq_zero_iff.1 h.1
  subst hx
  have ha:iz P (bare H1 (n+1)) 44 44 (.slice (some ⟨n,0,none⟩) 0 0) v=some (.slice (some ⟨n,0,none⟩) 0 0,bare (H1.set n (some (.cells [] 3 false none))) (n+1)):=by
   unfold iz
   have hs:pX (bare H1 (n+1)).H 1 v=some ([],0):=h1.src
   have hold':qX (bare H1 (n+1)).H ⟨n,0,none⟩ (0 * 1)=some []:=hold
   simp only[sl44,sz3,by3,zero3,hs,hb1,hold',hbig]
   unfold tY
   have hst:storeN (bare H1 (n+1)).H (addA ⟨n,0,none⟩ (0 * 1)) []=some (H1.set n (some (.cells [] 3 false none))):=by
    unfold storeN
    simp only[addA,bare,hg]
    rfl
   have c1:Nat.ble (0+0) 0=true:=rfl
   simp only[c0,c1,hst]
   rfl
  unfold stK
  dsimp only
  rw[ha,aj]
  dsimp only [bare]
  exact⟨_,_,_,rfl,by omega,hk.set (Nat.le_refl _) _,rfl,h.2.1,.inr ⟨n,0,0,rfl,Nat.lt_succ_self _,_,[],by rw[Tr.get_set,if_pos rfl],rfl,fun k v h=>by simp [ints] at h⟩⟩
 ·have ha:iz P (bare H1 (n+1)) 44 44 (.slice (some ⟨n,0,none⟩) 0 0) v=some (.slice (some ⟨n+1,0,none⟩) len capV,bare (H1.set (n+1) (some (.cells (ints xs) 3 false (some 1)))) (n+1+1)):=by
   unfold iz
   have hs:pX (bare H1 (n+1)).H 1 v=some (ints xs,len):=h1.src
   have hold':qX (bare H1 (n+1)).H ⟨n,0,none⟩ (0 * 1)=some []:=hold
   simp only[sl44,sz3,by3,zero3,hs,hb1,hold',hbig]
   unfold tY
   have c1:Nat.ble len 0=false:=by
    cases len with
    | zero=>exact absurd rfl h0
    | succ m=>rfl
   simp only[c0,c1,TW,bare,vy,List.nil_append,Nat.zero_add]
  unfold stK
  dsimp only
  rw[ha,aj]
  dsimp only [bare]
  exact⟨_,_,_,rfl,by omega,hk.set (by omega) _,h.1,h.2.1,.inr ⟨n+1,0,capV,rfl,Nat.lt_succ_self _,_,ints xs,by rw[Tr.get_set,if_pos rfl],rfl,fun k v h=>by simpa using h⟩⟩
theorem call23(l:Nat)(a:Value)(H:Hp)(n:Nat):(cal (l+1)).call 23 [a] H n=Oy (cal l) KK a H n:=by kernel_rfl
theorem flat23:iY P 23=false:=by kernel_rfl
theorem list_call(l:Nat){H:Hp}{n len:Nat}{v:Value}{xs:List Int}(h:ListR H n v len xs)(hlen:len≤1000) :
  ∃ u H' n',(∀ k:Value→Hp→Nat→Option ρ,aX P (cal (l+1)) 23 [v] H n k=k u H' n')∧n≤n'∧Keep n H H'∧ListR H' n' u len xs:=by
 obtain⟨u,H',n',e,h1,h2,h3⟩:=list_spec (cal l) KK h hlen
 refine⟨u,H',n',fun k=>?_,h1,h2,h3⟩
 unfold aX
 rw[flat23,call23,e]
 rfl
theorem und121:P.underlying 119=some (.array 8 3):=by kernel_rfl
theorem Fk:fJ P 119=some true:=by kernel_rfl
theorem zv:szT P 119=some 8:=by kernel_rfl
theorem Qx:iJ P 119=some (.agg ⟨ints (List.replicate 8 0)⟩):=by kernel_rfl
theorem qlv:fK P 119 []=some (.agg ⟨ints (List.replicate 8 0)⟩):=by kernel_rfl
theorem slice121(b:Nat):Kj P 119 (.pointer (some ⟨b,0,none⟩)) none none=some (.slice (some ⟨b,0,none⟩) 8 8):=by kernel_rfl
noncomputable def valR(r:Res):Option Value:=match r with
 | some (v,_,_)=>some v
 | none=>none
theorem valR_some{r:Res}{v:Value}(h:valR r=some v):∃ H n,r=some (v,H,n):=by
 unfold valR at h
 split at h
 ·cases h; exact⟨_,_,rfl⟩
 ·cases h
theorem bare_run(c:Cal):valR (C101_0 c KK .nil 0)=some (.agg ⟨ints (List.replicate 8 (-1))⟩):=by kernel_rfl
theorem flat101:iY P 101=true:=by kernel_rfl
theorem call101(l:Nat)(H:Hp)(n:Nat):(cal (l+1)).call 101 [] H n=C101_0 (cal l) KK H n:=by kernel_rfl
theorem bare_call(l:Nat)(H:Hp)(n:Nat)(k:Value→Hp→Nat→Option ρ):aX P (cal (l+1)) 101 [] H n k=k (.agg ⟨ints (List.replicate 8 (-1))⟩) H n:=by
 obtain⟨H',n',e⟩:=valR_some (bare_run (cal l))
 refine iZ flat101 rfl ((call101 ..).trans e) ?_
 simp only[bw,ox,Ez]
def pj(js ks:List Int)(nj np nk p:Nat)(kind:Int):Prop:=0≤kind∧kind<nk∧fitD js ks nj np p kind.toNat=true
theorem takes_spec(l:Nat){H:Hp}{n g np nj nk p:Nat}{f:Nat→Value}{js ks:List Int}{x y z:Value}(hf:cZ H g 859 115 f)(hs:SiteF f x y z js nj)(hz:lenV P 33 z=some (.int .i64 nk))(hn:∀ p kd,p<np→kd<nk→xx f js ks nj np p kd)(hks:tx ks nk)(hnp:np≤8)(hnk:nk≤3)(hp:p<np)(kind:Int) :
  ∃ r,YQ (cal (l+3)) KK (.pointer (some ⟨g,0,none⟩)) (.int .i64 p) (.int .i64 kind) H n=some (.bool r,H,n)∧(r=true↔pj js ks nj np nk p kind):=by
 unfold YQ B102_0
 have lz:az P H 33 ⟨g,0+0+2,none⟩=some z:=by
  have:=hf.load (P:=P) (k:=2) agg33 (by omega)
  rw[hs.z] at this; exact this
 rw[ax PZ]
 unfold pj
 cases c1:decide (0≤kind) with
 | false=>
  simp only[eJ,jk,dQ,aj]
  exact⟨false,rfl,⟨fun h=>(by cases h),fun h=>absurd h.1 (of_decide_eq_false c1)⟩⟩
 | true=>
  have h0:=of_decide_eq_true c1
  simp only[dk,oX,aj,tw,XQ,ak,lz,hz,ax cJ,dw]
  cases c2:decide (kind<(nk:Int)) with
  | false=>
   simp only[eJ,jk,dQ,aj]
   exact⟨false,rfl,⟨fun h=>(by cases h),fun h=>absurd h.2.1 (of_decide_eq_false c2)⟩⟩
  | true=>
   have h1:=of_decide_eq_true c2
   obtain⟨kd,rfl⟩:∃ kd:Nat,kind=kd:=⟨kind.toNat,by omega⟩
   have hkd:kd<nk:=by omega
   obtain⟨B,hB,ln⟩:=XZ hf (hn p kd hp hkd) (by omega) (by omega)
   simp only[dk,oX,aj,qex,at115 _ _ (show p<8 by omega),at114 _ _ (show kd<3 by omega),ak,ln,fit_call l (Vv ..) hB.1 (CX hks hkd hnp hp),dw]
   refine⟨_,rfl,?_⟩
   have e:fitD js ks nj np p (kd:Int).toNat=fitD js ks nj np p kd:=by rw[Int.toNat_natCast]
   rw[e]
   unfold fitD
   exact⟨fun h=>⟨h0,h1,h⟩,fun h=>h.2.2⟩
theorem call102(l:Nat)(a b c:Value)(H:Hp)(n:Nat):(cal (l+1)).call 102 [a,b,c] H n=YQ (cal l) KK a b c H n:=by kernel_rfl
theorem takes_call(l:Nat){H:Hp}{n g np nj nk p:Nat}{f:Nat→Value}{js ks:List Int}{x y z:Value}(hf:cZ H g 859 115 f)(hs:SiteF f x y z js nj)(hz:lenV P 33 z=some (.int .i64 nk))(hn:∀ p kd,p<np→kd<nk→xx f js ks nj np p kd)(hks:tx ks nk)(hnp:np≤8)(hnk:nk≤3)(hp:p<np)(kind:Int) :
  ∃ r:Bool,(r=true↔pj js ks nj np nk p kind)∧∀ k:Value→Hp→Nat→Option ρ,aX P (cal (l+4)) 102 [.pointer (some ⟨g,0,none⟩),.int .i64 p,.int .i64 kind] H n k=k (.bool r) H n:=by
 obtain⟨r,e,h⟩:=takes_spec l (n:=n) hf hs hz hn hks hnp hnk hp kind
 refine⟨r,h,fun k=>?_⟩
 unfold aX
 have:(iY P 102 && ck [.pointer (some ⟨g,0,none⟩),.int .i64 p,.int .i64 kind])=false:=by rw[Bool.and_eq_false_iff]; exact .inr rfl
 rw[this,call102,e]
 rfl
theorem results65_eq:cQ=[.tmp 4,.cell 5 119,.tmp 6]:=by kernel_rfl
theorem res65{H:Hp}{b:Nat}{v:Value}(p e:Value)(h:az P H 119 ⟨b,0,none⟩=some v):resV P (Tr.set (Tr.set (Tr.set Tr.nil 6 (some e)) 5 (some (.pointer (some ⟨b,0,none⟩)))) 4 (some p)) H cQ=some [p,v,e]:=by
 rw[results65_eq]
 simp [resV,Tr.get_set,h]
theorem index121{L:List Int}(hL:L.length=8){i:Nat}(hi:i<8):EJ P 119 (.agg ⟨ints L⟩) (.int .i64 i)=some (.int .i64 (L.getD i 0)):=by
 unfold EJ
 have a3:fJ P 3=some false:=agg3
 simp only[und121,HQ hi,sz3,Cy,a3]
 rw[Nat.mul_one]
 exact gQ (getD_some (by omega))
def ej(ls:List Int)(np:Nat):List Int:=ls++List.replicate (8-np) (-1)
theorem Qy{ls:List Int}{np:Nat}(h:ls.length=np)(hnp:np≤8):(ej ls np).length=8:=by unfold ej; simp [h]; omega
theorem IZ{ls:List Int}{np p:Nat}(h:ls.length=np)(hp:p<np):(ej ls np).getD p 0=ls.getD p 0:=by
 unfold ej
 rw[List.getD_eq_getElem?_getD,List.getElem?_append_left (by omega),← List.getD_eq_getElem?_getD]
theorem IK{ls:List Int}{np p:Nat}(h:ls.length=np)(hp:np≤p)(hp8:p<8):(ej ls np).getD p 0=-1:=by
 unfold ej
 rw[List.getD_eq_getElem?_getD,List.getElem?_append_right (by omega),List.getElem?_replicate,if_pos (by omega)]
 rfl
def nQ(js ks ls:List Int)(nj np nk:Nat):Prop:=∀ p,p<np→ls.getD p 0=-1∨pj js ks nj np nk p (ls.getD p 0)
theorem splice_ints:∀ {L X:List Int},L.length≤X.length→ij.over (ints X) (ints L)=some (ints (L++X.drop L.length))
 | [],X,_=>by cases X <;> simp [ints,ij.over]
 | a::L,[],h=>by simp at h
 | a::L,x::X,h=>by
  have ih:=splice_ints (L:=L) (X:=X) (by simpa using h)
  simp only[ints,List.map_cons,ij.over] at ih ⊢
  rw[ih]
  simp
theorem copy_row{H:Hp}{n b np:Nat}{w:Value}{ls X:List Int}{e:TypeId}(hw:ListR H n w np ls)(h1:0<np)(h8:np≤8)(hX:X.length=8)(hg:H.get b=some (.cells (ints X) e false none)) :
  TX P (bare H n) 44 (.slice (some ⟨b,0,none⟩) 8 8) w=some (.int .i64 np,bare (H.set b (some (.cells (ints (ls++X.drop np)) e false none))) n):=by
 obtain⟨hl,_,hw⟩:=hw
 rcases hw with⟨_,h0⟩ | ⟨rb,ro,cap,rfl,hr,hc⟩
 ·omega
 have hmin':Nat.min np 8=np:=Nat.min_eq_left h8
 have hld:qX H ⟨rb,ro,none⟩ (np * 1)=some (ints ls):=AW hc (dY _) (by rw[bv,hl,Nat.mul_one])
 have hsp:ij (ints X) 0 (ints ls)=some (ints (ls++X.drop ls.length)):=by
  unfold ij
  exact splice_ints (by omega)
 have hst:storeN H ⟨b,0,none⟩ (ints ls)=some (H.set b (some (.cells (ints (ls++X.drop np)) e false none))):=by
  unfold storeN
  simp only[hg,kJ,if_true,hsp,hl]
 unfold TX
 simp only[sl44,sz3,bare,hmin',hld,hst]
 rfl
theorem openLaid_loop(l k:Nat){H:Hp}{n g np nj nk b5 b9:Nat}{f:Nat→Value}{js ks ls:List Int}{x y z:Value}(hf:cZ H g 859 115 f)(hs:SiteF f x y z js nj)(hz:lenV P 33 z=some (.int .i64 nk))(hn:∀ p kd,p<np→kd<nk→xx f js ks nj np p kd)(hks:tx ks nk)(hnp:np≤8)(hnk:nk≤3)
  (hls:ls.length=np) (h5:∃ w,H.get b5=some (.cells w 119 false none)∧w.length=8) (h9:H.get b9=some (.cells (ints (ej ls np)) 119 false none)) (hne:b5≠b9):∀(m i:Nat),i≤8→8-i≤m →
  ((∃ p,i≤p∧p<np∧¬ (ls.getD p 0=-1∨pj js ks nj np nk p (ls.getD p 0)))∧∃ H',S65_1 (cal (l+4)) k m (.pointer (some ⟨b5,0,none⟩)) (.pointer (some ⟨g,0,none⟩)) (.pointer (some ⟨b9,0,none⟩)) (.agg ⟨ints (ej ls np)⟩) (.int .i64 i) H n=some (.tuple ⟨[.pointer none,.agg ⟨ints (List.replicate 8 0)⟩,.int .i64 2]⟩,H',n)∧∀ b,b≠b5→H'.get b=H.get b) ∨
  ((∀ p,i≤p→p<np→ls.getD p 0=-1∨pj js ks nj np nk p (ls.getD p 0))∧∃ H',S65_1 (cal (l+4)) k m (.pointer (some ⟨b5,0,none⟩)) (.pointer (some ⟨g,0,none⟩)) (.pointer (some ⟨b9,0,none⟩)) (.agg ⟨ints (ej ls np)⟩) (.int .i64 i) H n=some (.tuple ⟨[.pointer (some ⟨g,0,none⟩),.agg ⟨ints (ej ls np)⟩,.int .i64 0]⟩,H',n)∧∀ b,b≠b5→H'.get b=H.get b):=by
 obtain⟨w5,h5,hw5⟩:=h5
 have body:∀(b1:Value→Value→Value→Value→Value→Hp→Nat→Res) (m i:Nat),i≤8 →
   (i<8→((∃ p,i+1≤p∧p<np∧¬ (ls.getD p 0=-1∨pj js ks nj np nk p (ls.getD p 0)))∧∃ H',b1 (.pointer (some ⟨b5,0,none⟩)) (.pointer (some ⟨g,0,none⟩)) (.pointer (some ⟨b9,0,none⟩)) (.agg ⟨ints (ej ls np)⟩) (.int .i64 ((i+1:Nat):Int)) H n=some (.tuple ⟨[.pointer none,.agg ⟨ints (List.replicate 8 0)⟩,.int .i64 2]⟩,H',n)∧∀ b,b≠b5→H'.get b=H.get b) ∨
    ((∀ p,i+1≤p→p<np→ls.getD p 0=-1∨pj js ks nj np nk p (ls.getD p 0))∧∃ H',b1 (.pointer (some ⟨b5,0,none⟩)) (.pointer (some ⟨g,0,none⟩)) (.pointer (some ⟨b9,0,none⟩)) (.agg ⟨ints (ej ls np)⟩) (.int .i64 ((i+1:Nat):Int)) H n=some (.tuple ⟨[.pointer (some ⟨g,0,none⟩),.agg ⟨ints (ej ls np)⟩,.int .i64 0]⟩,H',n)∧∀ b,b≠b5→H'.get b=H.get b)) →
   ((∃ p,i≤p∧p<np∧¬ (ls.getD p 0=-1∨pj js ks nj np nk p (ls.getD p 0)))∧∃ H',C65_1 (cal (l+4)) k m b1 (.pointer (some ⟨b5,0,none⟩)) (.pointer (some ⟨g,0,none⟩)) (.pointer (some ⟨b9,0,none⟩)) (.agg ⟨ints (ej ls np)⟩) (.int .i64 i) H n=some (.tuple ⟨[.pointer none,.agg ⟨ints (List.replicate 8 0)⟩,.int .i64 2]⟩,H',n)∧∀ b,b≠b5→H'.get b=H.get b) ∨
   ((∀ p,i≤p→p<np→ls.getD p 0=-1∨pj js ks nj np nk p (ls.getD p 0))∧∃ H',C65_1 (cal (l+4)) k m b1 (.pointer (some ⟨b5,0,none⟩)) (.pointer (some ⟨g,0,none⟩)) (.pointer (some ⟨b9,0,none⟩)) (.agg ⟨ints (ej ls np)⟩) (.int .i64 i) H n=some (.tuple ⟨[.pointer (some ⟨g,0,none⟩),.agg ⟨ints (ej ls np)⟩,.int .i64 0]⟩,H',n)∧∀ b,b≠b5→H'.get b=H.get b):=by
  intro b1 m i hi ih
  unfold C65_1 B65_1
  rw[ax cJ,gw]
  have l8:=Qy hls hnp
  by_cases hlt:i<8
  ·rw[if_pos (by omega),index121 l8 hlt,aj,ax iV]
   have hI:I64 ((i:Int)+1):=by unfold I64; omega
   have hcast:((i:Int)+1)=((i+1:Nat):Int):=by omega
   have go:(i<np→ls.getD i 0=-1∨pj js ks nj np nk i (ls.getD i 0))→∀ r:Res,r=b1 (.pointer (some ⟨b5,0,none⟩)) (.pointer (some ⟨g,0,none⟩)) (.pointer (some ⟨b9,0,none⟩)) (.agg ⟨ints (ej ls np)⟩) (.int .i64 ((i+1:Nat):Int)) H n →
     ((∃ p,i≤p∧p<np∧¬ (ls.getD p 0=-1∨pj js ks nj np nk p (ls.getD p 0)))∧∃ H',r=some (.tuple ⟨[.pointer none,.agg ⟨ints (List.replicate 8 0)⟩,.int .i64 2]⟩,H',n)∧∀ b,b≠b5→H'.get b=H.get b) ∨
     ((∀ p,i≤p→p<np→ls.getD p 0=-1∨pj js ks nj np nk p (ls.getD p 0))∧∃ H',r=some (.tuple ⟨[.pointer (some ⟨g,0,none⟩),.agg ⟨ints (ej ls np)⟩,.int .i64 0]⟩,H',n)∧∀ b,b≠b5→H'.get b=H.get b):=by
    rintro hok r rfl
    rcases ih hlt with⟨⟨p,q1,q2,q3⟩,q4⟩ | ⟨q1,q2⟩
    ·exact .inl ⟨⟨p,by omega,q2,q3⟩,q4⟩
    ·refine .inr ⟨fun p p1 p2=>?_,q2⟩
     rcases Nat.eq_or_lt_of_le p1 with z | z
     ·subst z; exact hok p2
     ·exact q1 p z p2
   cases c1:decide ((ej ls np).getD i 0=-1) with
   | true=>
    simp only[Bool.not_true,eJ,jk,dQ,aj,ez,ax (bk hI),hcast]
    refine go (fun hp=>.inl ?_) _ rfl
    rw[← IZ hls hp]; exact of_decide_eq_true c1
   | false=>
    have hip:i<np:=by
     rcases Nat.lt_or_ge i np with q | q
     ·exact q
     ·exact absurd (IK hls q hlt) (of_decide_eq_false c1)
    have hv:=IZ hls hip
    obtain⟨r,hr,hc⟩:=takes_call (ρ:=Value × Hp × Nat) l (n:=n) hf hs hz hn hks hnp hnk hip ((ej ls np).getD i 0)
    rw[hv] at hr c1
    simp only[Bool.not_false,dk,hc]
    cases r with
    | true=>
     simp only[dk,qK,aj,dw,ez,ax (bk hI),hcast]
     exact go (fun _=>.inr (hr.1 rfl)) _ rfl
    | false=>
     simp only[dk,tv,aj,dw,fX]
     have hst:=rV (vs:=ints (List.replicate 8 0)) h5 (by rw[hw5]; rfl) (kJ _)
     rw[qlv,aj,xq zv rfl,hst,aj,res65 _ _ (fY (t:=119) (s:=8) (L:=ints (List.replicate 8 0)) (e:=119) (vec:=none) (by rw[Tr.get_set,if_pos rfl]) Fk zv rfl)]
     refine .inl ⟨⟨i,Nat.le_refl _,hip,?_⟩,_,rfl,fun b hb=>by rw[Tr.get_set,if_neg hb]⟩
     rintro(h | h)
     ·exact of_decide_eq_false c1 h
     ·exact absurd (hr.2 h) (by simp)
  ·have lens:(ints (ej ls np)).length=8:=by rw[bv,l8]
   have hst:=rV (vs:=ints (ej ls np)) h5 (by rw[hw5,lens]) (kJ _)
   rw[if_neg (by omega),ak,aj,fY h9 Fk zv lens,aj,xq zv lens,hst,aj,
    res65 _ _ (fY (t:=119) (s:=8) (L:=ints (ej ls np)) (e:=119) (vec:=none) (by rw[Tr.get_set,if_pos rfl]) Fk zv lens)]
   exact .inr ⟨fun p p1 p2=>by omega,_,rfl,fun b hb=>by rw[Tr.get_set,if_neg hb]⟩
 intro m
 induction m with
 | zero=>intro i h1 h2; exact body _ 0 i h1 (fun h=>by omega)
 | succ m ih=>intro i h1 h2; exact body _ (m+1) i h1 (fun h=>ih (i+1) (by omega) (by omega))
open Classical in
noncomputable def gX(np nj nk nl:Nat)(ps js ks ls:List Int):Int:=if iq np nj nk ps js ks≠0 then iq np nj nk ps js ks else if nl=np∧nQ js ks ls nj np nk then 0 else 2
def NotLaid(r:Res)(n:Nat)(H:Hp)(e:Int):Prop:=∃ H' n',r=some (.tuple ⟨[.pointer none,.agg ⟨ints (List.replicate 8 0)⟩,.int .i64 e]⟩,H',n')∧n≤n'∧Keep n H H'
def IsLaid(r:Res)(n:Nat)(H:Hp)(v:Value)(np nj nk:Nat)(js ks ls:List Int):Prop:=∃(g:Nat) (x y z:Value) (f:Nat→Value) (H':Hp) (n':Nat),r=some (.tuple ⟨[.pointer (some ⟨g,0,none⟩),.agg ⟨ints (ej ls np)⟩,.int .i64 0]⟩,H',n')∧n≤n'∧Keep n H H'∧n≤g∧g<n' ∧
 v=.agg ⟨[x,y,z]⟩∧cZ H' g 859 115 f∧SiteF f x y z js nj∧∀ p kd,p<np→kd<nk→xx f js ks nj np p kd
theorem openLaid_spec(l:Nat){np nj nk nl:Nat}{ps js ks ls:List Int}{H:Hp}{n:Nat}{v w:Value}(hg:kq H n v np nj nk ps js ks)(hw:ListR H n w nl ls)(hnp:np≤1000)(hnj:nj≤1000)(hnk:nk≤1000) :
  (gX np nj nk nl ps js ks ls≠0→NotLaid (C65_0 (cal (l+6)) KK v w H n) n H (gX np nj nk nl ps js ks ls)) ∧
  (gX np nj nk nl ps js ks ls=0→IsLaid (C65_0 (cal (l+6)) KK v w H n) n H v np nj nk js ks ls∧nl=np∧nQ js ks ls nj np nk∧iq np nj nk ps js ks=0):=by
 have hg0:=hg
 obtain⟨x,y,z,rfl,h1,h2,h3⟩:=hg
 unfold C65_0 B65_0
 generalize hS:S65_1 (cal (l+6)) KK KK=S
 rw[dZ,jw Qx]
 simp only[aZ,ptr]
 have hk:Keep n H ((H.set n (some (.cells [x,y,z] 35 false none))).set (n+1) (some (.cells (ints (List.replicate 8 0)) 119 false none))):=((Keep.refl n H).set (Nat.le_refl _) _).set (by omega) _
 have hb:aW ((H.set n (some (.cells [x,y,z] 35 false none))).set (n+1) (some (.cells (ints (List.replicate 8 0)) 119 false none))) n 0 [x,y,z]:=aW.new.set (by omega)
 have hr:((H.set n (some (.cells [x,y,z] 35 false none))).set (n+1) (some (.cells (ints (List.replicate 8 0)) 119 false none))).get (n+1)=some (.cells (ints (List.replicate 8 0)) 119 false none):=by rw[Tr.get_set,if_pos rfl]
 generalize (H.set n (some (.cells [x,y,z] 35 false none))).set (n+1) (some (.cells (ints (List.replicate 8 0)) 119 false none))=H1 at hk hb hr ⊢
 have lg:az P H1 35 ⟨n,0,none⟩=some (.agg ⟨[x,y,z]⟩):=cw (o:=0) (k:=0) hb UZ sz35 (by simp) (by simp [h1.hole.1,h2.hole.1,h3.hole.1])
 obtain⟨o1,o2⟩:=open_spec l (hg0.keep hk (show n≤n+1+1 by omega)) hnp hnj hnk
 rw[ak,aj,lg,aj,open_call]
 have bad:∀(H2:Hp) (n2:Nat) (e:Int),n+1+1≤n2→Keep (n+1+1) H1 H2→NotLaid (aq (bX P 119 (.pointer (some ⟨n+1,0,none⟩)) (.agg ⟨ints (List.replicate 8 0)⟩) H2) fun H_p=>
   aq (resV P (Tr.set (Tr.set (Tr.set Tr.nil 6 (some (.int .i64 e))) 5 (some (.pointer (some ⟨n+1,0,none⟩)))) 4 (some (Value.pointer none))) H_p cQ) fun v_r=>some (oneV v_r,H_p,n2)) n H e:=by
  intro H2 n2 e hn hk2
  have hr2:=(hk2 (n+1) (by omega)).trans hr
  rw[xq zv rfl,rV hr2 rfl (kJ _),aj,res65 _ _ (fY (t:=119) (s:=8) (L:=ints (List.replicate 8 0)) (e:=119) (vec:=none) (by rw[Tr.get_set,if_pos rfl]) Fk zv rfl)]
  exact⟨_,_,rfl,by omega,(hk.trans hk2 (by omega)).set (by omega) _⟩
 by_cases he:iq np nj nk ps js ks=0
 ·have good:=Qw he
  obtain⟨g,x',y',z',f,H2,n2,e1,e2,e3,e4,e5,e6,e7,e8,e9⟩:=o2 he
  simp only[Value.agg.injEq,Array.mk.injEq,List.cons.injEq,and_true] at e6
  obtain⟨rfl,rfl,rfl⟩:=e6
  have t0:tupV (.tuple ⟨[.pointer (some ⟨g,0,none⟩),.int .i64 0]⟩) 0=some (.pointer (some ⟨g,0,none⟩)):=rfl
  have t1:tupV (.tuple ⟨[.pointer (some ⟨g,0,none⟩),.int .i64 0]⟩) 1=some (.int .i64 0):=rfl
  have d0:decide ((0:Int)=0)=true:=rfl
  have lx:az P H2 31 ⟨g,0+0+0,none⟩=some x:=by
   have:=e7.load (P:=P) (k:=0) Fv (by omega)
   rw[e8.x] at this; exact this
  have hlx:lenV P 31 x=some (.int .i64 np):=h1.len_eq Fx
  have hlz:lenV P 33 z=some (.int .i64 nk):=h3.len_eq und33
  have kk:Keep n H H2:=hk.trans e3 (by omega)
  have hw2:=hw.keep kk (show n≤n2 by omega)
  rw[e1,aj,t0,aj,t1,aj,ax iV,d0,Bool.not_true,ez,hw.len_eq,aj,oX,aj,tw,aj,vV,aj,ak,aj,lx,aj,hlx,aj,ax iV]
  unfold gX
  rw[if_neg (fun h=>h he)]
  by_cases hl:nl=np
  ·subst hl
   have dl:decide ((nl:Int)=(nl:Int))=true:=decide_eq_true rfl
   have l8:=Qy hw.1 good.np8
   have lens:(ints (ej ls nl)).length=8:=by rw[bv,l8]
   rw[dl,Bool.not_true,ez,bare_call (l+5)]
   obtain⟨H3,k1,k2,k3⟩:=vk (P:=P) (ρ:=Value × Hp × Nat) (H:=H2) (n:=n2) (L:=ints (List.replicate 8 (-1))) Qx rfl zv rfl (kJ _)
   rw[k3,slice121,aj]
   have hw3:=hw2.keep k1 (show n2≤n2+1 by omega)
   unfold stK
   rw[copy_row hw3 (by have:=good.np1; omega) good.np8 rfl k2,aj]
   dsimp only [bare]
   have hrow:(H3.set n2 (some (.cells (ints (ls++(List.replicate 8 (-1)).drop nl)) 119 false none))).get n2=some (.cells (ints (ej ls nl)) 119 false none):=by
    rw[Tr.get_set,if_pos rfl,List.drop_replicate]; rfl
   have kk3:Keep n2 H2 (H3.set n2 (some (.cells (ints (ls++(List.replicate 8 (-1)).drop nl)) 119 false none))):=k1.set (Nat.le_refl _) _
   generalize H3.set n2 (some (.cells (ints (ls++(List.replicate 8 (-1)).drop nl)) 119 false none))=H4 at hrow kk3 ⊢
   rw[ak,aj,fY hrow Fk zv lens,aj,← hS]
   have hf4:=e7.keep kk3 e5
   have hr4:H4.get (n+1)=some (.cells (ints (List.replicate 8 0)) 119 false none):=by rw[kk3 _ (by omega),e3 _ (by omega)]; exact hr
   rcases openLaid_loop (l+2) KK (n:=n2+1) hf4 e8 hlz e9 good.kinds good.np8 good.nk3 hw.1 ⟨_,hr4,rfl⟩ hrow (by omega) KK 0 (by omega) (by unfold KK; omega) with⟨⟨p,q1,q2,q3⟩,H5,q4,q5⟩ | ⟨q1,H5,q4,q5⟩
   ·have hno:¬ (nl=nl∧nQ js ks ls nj nl nk):=fun h=>q3 (h.2 p q2)
    rw[if_neg hno]
    refine⟨fun _=>⟨H5,n2+1,q4,by omega,fun b hb=>?_⟩,fun h=>by omega⟩
    rw[q5 b (by omega),kk3 b (by omega),kk b hb]
   ·have hyes:nl=nl∧nQ js ks ls nj nl nk:=⟨rfl,fun p hp=>q1 p (Nat.zero_le _) hp⟩
    rw[if_pos hyes]
    refine⟨fun h=>absurd rfl h,fun _=>⟨⟨g,x,y,z,f,H5,n2+1,q4,by omega,fun b hb=>?_,by omega,by omega,rfl,?_,e8,e9⟩,rfl,hyes.2,he⟩⟩
    ·rw[q5 b (by omega),kk3 b (by omega),kk b hb]
    ·obtain⟨c,a1,a2,a3⟩:=hf4
     exact⟨c,by rw[q5 g (by omega)]; exact a1,a2,a3⟩
  ·have dl:decide ((nl:Int)=(np:Int))=false:=decide_eq_false (by omega)
   have hno:¬ (nl=np∧nQ js ks ls nj np nk):=fun h=>hl h.1
   rw[dl,Bool.not_false,fX,if_neg hno,qlv,aj]
   exact⟨fun _=>bad H2 n2 2 e2 e3,fun h=>by omega⟩
 ·obtain⟨H2,n2,e1,e2,e3⟩:=o1 he
  have t0:tupV (.tuple ⟨[.pointer none,.int .i64 (iq np nj nk ps js ks)]⟩) 0=some (.pointer none):=rfl
  have t1:tupV (.tuple ⟨[.pointer none,.int .i64 (iq np nj nk ps js ks)]⟩) 1=some (.int .i64 (iq np nj nk ps js ks)):=rfl
  unfold gX
  rw[if_pos he,e1,aj,t0,aj,t1,aj,ax iV,decide_eq_false he,Bool.not_false,fX,qlv,aj]
  exact⟨fun _=>bad H2 n2 _ e2 e3,fun h=>absurd h he⟩
theorem flat65:iY P 65=false:=by kernel_rfl
theorem call65(l:Nat)(a b:Value)(H:Hp)(n:Nat):(cal (l+1)).call 65 [a,b] H n=C65_0 (cal l) KK a b H n:=by kernel_rfl
theorem openLaid_call(l:Nat)(v w:Value)(H:Hp)(n:Nat)(k:Value→Hp→Nat→Option ρ):aX P (cal (l+7)) 65 [v,w] H n k=aq (C65_0 (cal (l+6)) KK v w H n) fun r=>k r.1 r.2.1 r.2.2:=by
 unfold aX
 rw[flat65,call65]
 rfl
end Go.Proofs.Ytmjbdjnnojfhkaa.spec
end
section
namespace Go.Ev
open Go
variable {P:Program} {ρ:Type}
theorem splice_one{a:Int}:∀ {X:List Int} {o:Nat},o<X.length→ij (ints X) o [.int .i64 a]=some (ints (X.set o a))
 | [],_,h=>by simp at h
 | x::X,0,_=>by
  unfold ij
  cases X <;> simp [ints,ij.over]
 | x::X,o+1,h=>by
  have ih:=splice_one (a:=a) (X:=X) (o:=o) (by simpa using h)
  unfold ij
  simp only[ints,List.map_cons,List.set_cons_succ] at ih ⊢
  rw[ih]
theorem store_one{a:Int}{X:List Int}{o g:Nat}{H:Hp}{e:TypeId}{vec:Option Nat}(h:H.get g=some (.cells (ints X) e false vec))(ho:o<X.length) :
  storeN H ⟨g,o,none⟩ [.int .i64 a]=some (H.set g (some (.cells (ints (X.set o a)) e false vec))):=by
 unfold storeN
 simp only[h,splice_one ho]
 rfl
end Go.Ev
end
section
namespace Go.Proofs.Ytmjbdjnnojfhkaa.spec
open Go Go.Ev Go.Proofs.Ytmjbdjnnojfhkaa.nestFits Go.Proofs.Ytmjbdjnnojfhkaa.G
set_option maxRecDepth 100000
variable {ρ:Type}
theorem flat74:iY P 74=false:=by kernel_rfl
theorem call74(l:Nat)(a b:Value)(H:Hp)(n:Nat):(cal (l+1)).call 74 [a,b] H n=C74_0 (cal l) KK a b H n:=by kernel_rfl
theorem call104(l:Nat)(a b c:Value)(H:Hp)(n:Nat):(cal (l+1)).call 104 [a,b,c] H n=YW (cal l) KK a b c H n:=by kernel_rfl
theorem placed_call(l:Nat)(g:Nat){L:List Int}(H:Hp)(n:Nat)(k:Value→Hp→Nat→Option ρ):aX P (cal (l+1)) 74 [.pointer (some ⟨g,0,none⟩),.agg ⟨ints L⟩] H n k =
  k (.func (.func 104) ⟨[]⟩ ⟨[.pointer (some ⟨n+1,0,none⟩),.pointer (some ⟨n,0,none⟩)]⟩) ((H.set n (some (.cells [.pointer (some ⟨g,0,none⟩)] 103 false none))).set (n+1) (some (.cells (ints L) 119 false none))) (n+2):=by
 unfold aX
 rw[flat74,call74]
 rfl
def zw(L:List Int)(np nk:Nat):Prop:=∀ i,i<8→L.getD i 0=-1∨(i<np∧∃ kd:Nat,kd<nk∧L.getD i 0=kd)
theorem iter104_loop(c:Cal)(k:Nat)(yv:Value)(sb g np nj nk:Nat)(js ks L:List Int)(hL:L.length=8)(hK:zw L np nk)(hnp:np≤8)(hnk:nk≤3)(Inv:Nat→Hp→Nat→Prop)
  (hR:∀ i H n,Inv i H n→az P H 103 ⟨sb,0,none⟩=some (.pointer (some ⟨g,0,none⟩))∧∀ p kd,p<np→kd<nk→∃ B,mV (ks.getD (kd * 5) 0) (shP js ks nj np p kd) B 8∧az P H 111 ⟨g,0+67+p * 99+kd * 33,none⟩=some (.agg ⟨ints (bW (ks.getD (kd * 5) 0) (shP js ks nj np p kd) B)⟩))
  (hY:∀(i:Nat) (H:Hp) (n kd:Nat) (B:List Int),Inv i H n→i<np→kd<nk→L.getD i 0=kd→mV (ks.getD (kd * 5) 0) (shP js ks nj np i kd) B 8 →
   ∃ H' n',(∀ k:Value→Hp→Nat→Res,lQ P c yv [.int .i64 i,.agg ⟨ints (bW (ks.getD (kd * 5) 0) (shP js ks nj np i kd) B)⟩] H n k=k (.bool true) H' n')∧Inv (i+1) H' n')
  (hSkip:∀(i:Nat) (H:Hp) (n:Nat),Inv i H n→L.getD i 0=-1→Inv (i+1) H n):∀(m i:Nat) (H:Hp) (n:Nat),Inv i H n→i≤8→8-i≤m →
  ∃ H' n',S104_1 c k m yv (.pointer (some ⟨sb,0,none⟩)) (.agg ⟨ints L⟩) (.int .i64 i) H n=some (.tuple ⟨[]⟩,H',n')∧Inv 8 H' n':=by
 have body:∀(b1:Value→Value→Value→Value→Hp→Nat→Res) (m i:Nat) (H:Hp) (n:Nat),Inv i H n→i≤8 →
   (∀ H' n',Inv (i+1) H' n'→i<8→∃ H2 n2,b1 yv (.pointer (some ⟨sb,0,none⟩)) (.agg ⟨ints L⟩) (.int .i64 ((i+1:Nat):Int)) H' n'=some (.tuple ⟨[]⟩,H2,n2)∧Inv 8 H2 n2) →
   ∃ H' n',YV c k m b1 yv (.pointer (some ⟨sb,0,none⟩)) (.agg ⟨ints L⟩) (.int .i64 i) H n=some (.tuple ⟨[]⟩,H',n')∧Inv 8 H' n':=by
  intro b1 m i H n hI hi ih
  unfold YV B104_1
  rw[ax cJ,gw]
  by_cases hlt:i<8
  ·have hI1:I64 ((i:Int)+1):=by unfold I64; omega
   have hcast:((i:Int)+1)=((i+1:Nat):Int):=by omega
   rw[if_pos (by omega),index121 hL hlt,aj,ax iV]
   rcases hK i hlt with h | ⟨hip,kd,hkd,h⟩
   ·have hd:decide (L.getD i 0=-1)=true:=decide_eq_true h
    simp only[hd,Bool.not_true,eJ,jk,dQ,aj,ez,ax (bk hI1),hcast]
    exact ih H n (hSkip i H n hI h) hlt
   ·have hd:decide (L.getD i 0=-1)=false:=decide_eq_false (by omega)
    obtain⟨r1,r2⟩:=hR _ _ _ hI
    obtain⟨B,hB,hn⟩:=r2 i kd hip hkd
    obtain⟨H1,n1,e1,e2⟩:=hY i H n kd B hI hip hkd h hB
    rw[hd,h]
    simp only[Bool.not_false,dk,ak,aj,r1,oX,qex,at115 _ _ hlt,at114 _ _ (show kd<3 by omega),hn,e1,qK,dw,ez,ax (bk hI1),hcast]
    exact ih H1 n1 e2 hlt
  ·rw[if_neg (by omega)]
   have hi':i=8:=by omega
   subst hi'
   exact⟨H,n,rfl,hI⟩
 intro m
 induction m with
 | zero=>intro i H n h1 h2 h3; exact body _ 0 i H n h1 h2 (fun _ _ _ h=>by omega)
 | succ m ih=>intro i H n h1 h2 h3; exact body _ (m+1) i H n h1 h2 (fun H' n' q1 q2=>ih (i+1) H' n' q1 (by omega) (by omega))
theorem laid_kinds{js ks ls:List Int}{nj np nk:Nat}(hl:ls.length=np)(hok:nQ js ks ls nj np nk):zw (ej ls np) np nk:=by
 intro i hi
 rcases Nat.lt_or_ge i np with h | h
 ·rw[IZ hl h]
  rcases hok i h with q | ⟨q1,q2,_⟩
  ·exact .inl q
  ·exact .inr ⟨h,(ls.getD i 0).toNat,by omega,by omega⟩
 ·exact .inl (IK hl h hi)
theorem guardD_ff{op:KD ρ→Option ρ}{ex:Extra}{H:Hp}{n:Nat}{k:KD ρ}:dJ (.bool false) false op ex H n k=op k:=rfl
theorem guardD_tf{op:KD ρ→Option ρ}{ex:Extra}{H:Hp}{n:Nat}{k:KD ρ}:dJ (.bool true) false op ex H n k=k undef ex H n:=rfl
theorem guardD_u{w:Bool}{op:KD ρ→Option ρ}{ex:Extra}{H:Hp}{n:Nat}{k:KD ρ}:dJ undef w op ex H n k=k undef ex H n:=rfl
theorem isLayout_loop(l k:Nat){np nj nk:Nat}{ps js ks ls:List Int}(good:Good np nj nk ps js ks)(hjs:js.length=nj * 2)(g:Nat)(x y z w:Value) :
  ∀(m i:Nat) (H:Hp) (n:Nat),g<n→aW H g 0 [x,y,z]→GroveI H n (.agg ⟨[x,y,z]⟩) np nj nk ps js ks→ListR H n w np ls→i≤np→np-i≤m →
  ∃ r,Ret (S58_1 (cal (l+4)) k m w (.pointer (some ⟨g,0,none⟩)) (.int .i64 i) H n) n H (.bool r)∧(r=true↔∀ p,i≤p→p<np→ls.getD p 0=-1∨pj js ks nj np nk p (ls.getD p 0)):=by
 have body:∀(b1:Value→Value→Value→Hp→Nat→Res) (m i:Nat) (H:Hp) (n:Nat),g<n→aW H g 0 [x,y,z]→GroveI H n (.agg ⟨[x,y,z]⟩) np nj nk ps js ks→ListR H n w np ls→i≤np →
   (∀ H' n',n≤n'→Keep n H H'→i<np→∃ r,Ret (b1 w (.pointer (some ⟨g,0,none⟩)) (.int .i64 ((i+1:Nat):Int)) H' n') n' H' (.bool r)∧(r=true↔∀ p,i+1≤p→p<np→ls.getD p 0=-1∨pj js ks nj np nk p (ls.getD p 0))) →
   ∃ r,Ret (C58_1 (cal (l+4)) k m b1 w (.pointer (some ⟨g,0,none⟩)) (.int .i64 i) H n) n H (.bool r)∧(r=true↔∀ p,i≤p→p<np→ls.getD p 0=-1∨pj js ks nj np nk p (ls.getD p 0)):=by
  intro b1 m i H n hgn hb hg hw hi ih
  have np8:=good.np8
  have nk3:=good.nk3
  have nj16:=good.nj16
  unfold C58_1 B58_1
  rw[hw.len_eq,aj,ax cJ,gw]
  by_cases hlt:i<np
  ·obtain⟨rb,o,hix,_,hld⟩:=hw.at_ hlt
   have hI:I64 ((i:Int)+1):=by unfold I64; omega
   have hcast:((i:Int)+1)=((i+1:Nat):Int):=by omega
   have go:(ls.getD i 0=-1∨pj js ks nj np nk i (ls.getD i 0))→∀(H':Hp) (n':Nat),n≤n'→Keep n H H' →
     ∃ r,Ret (b1 w (.pointer (some ⟨g,0,none⟩)) (.int .i64 ((i+1:Nat):Int)) H' n') n H (.bool r)∧(r=true↔∀ p,i≤p→p<np→ls.getD p 0=-1∨pj js ks nj np nk p (ls.getD p 0)):=by
    intro hok H' n' h1 h2
    obtain⟨r,⟨H2,n2,e1,e2,e3⟩,e4⟩:=ih H' n' h1 h2 hlt
    refine⟨r,⟨H2,n2,e1,by omega,h2.trans e3 h1⟩,e4.trans ⟨fun h p q1 q2=>?_,fun h p q1 q2=>h p (by omega) q2⟩⟩
    rcases Nat.eq_or_lt_of_le q1 with q | q
    ·subst q; exact hok
    ·exact h p q q2
   have no:¬ (ls.getD i 0=-1∨pj js ks nj np nk i (ls.getD i 0))→∀(H':Hp) (n':Nat),n≤n'→Keep n H H' →
     ∃ r,Ret (some (Value.bool false,H',n')) n H (.bool r)∧(r=true↔∀ p,i≤p→p<np→ls.getD p 0=-1∨pj js ks nj np nk p (ls.getD p 0)):=
    fun hno H' n' h1 h2=>⟨false,⟨H',n',rfl,h1,h2⟩,⟨fun h=>(by cases h),fun h=>absurd (h i (Nat.le_refl _) hlt) hno⟩⟩
   rw[if_pos (by omega),hix,aj,ak,aj,hld,aj,ax iV]
   cases c1:decide (ls.getD i 0=-1) with
   | true=>
    simp only[Bool.not_true,XY,guardD_u,dQ,aj,ez,ax (bk hI),hcast]
    exact go (.inl (of_decide_eq_true c1)) H n (Nat.le_refl _) (Keep.refl _ _)
   | false=>
    have hg0:=hg
    obtain⟨x',y',z',hxyz,h1,h2,h3⟩:=hg.eq
    cases hxyz
    have lz:az P H 24 ⟨g,0+2,none⟩=some z:=bq hb Mv rfl h3.hole.1 h3.hole.2
    have elz:lenV P 24 z=some (.int .i64 nk):=h3.len_eq IQ
    have hIk:I64 ((nk:Int)-1):=by unfold I64; omega
    have l26:=KV hb h1.hole.1 h2.hole.1 h3.hole.1
    simp only[Bool.not_false,XX,hix,aj,ak,hld,Dq,lz,elz,ax (oW hIk),DJ (l+3)]
    cases c2:decide (0≤ls.getD i 0∧ls.getD i 0≤(nk:Int)-1) with
    | false=>
     simp only[tv,aj,guardD_tf,dw,fX]
     refine no ?_ H n (Nat.le_refl _) (Keep.refl _ _)
     rintro(h | ⟨q1,q2,_⟩)
     ·exact of_decide_eq_false c1 h
     ·exact of_decide_eq_false c2 ⟨q1,by omega⟩
    | true=>
     obtain⟨p1,p2⟩:=of_decide_eq_true c2
     obtain⟨kd,hkd⟩:∃ kd:Nat,ls.getD i 0=kd:=⟨(ls.getD i 0).toNat,by omega⟩
     have hk:kd<nk:=by omega
     obtain⟨r,H2,n2,d1,d2,d3,d4⟩:=fitsR_call (ρ:=Value × Hp × Nat) l (show nj≤KK by unfold KK; omega) (show np≤100 by omega) kd hk (i:Int) good.small hg0
     rw[hkd] at c1
     simp only[qK,aj,guardD_ff,hix,ak,hld,l26,hkd,d2]
     have ag:=fits_agree good hjs hlt hk
     have tk:pj js ks nj np nk i (kd:Int)↔r=true:=by
      unfold pj
      rw[Int.toNat_natCast,ag,d1]
      exact⟨fun h=>h.2.2,fun h=>⟨by omega,by omega,h⟩⟩
     cases r with
     | true=>
      simp only[qK,aj,dw,dQ,ez,ax (bk hI),hcast]
      refine go ?_ H2 n2 d3 d4
      rw[hkd]; exact .inr (tk.2 rfl)
     | false=>
      simp only[tv,aj,dw,dQ,fX]
      refine no ?_ H2 n2 d3 d4
      rw[hkd]
      rintro(h | h)
      ·exact of_decide_eq_false c1 h
      ·exact absurd (tk.1 h) (by simp)
  ·rw[if_neg (by omega)]
   exact⟨true,⟨H,n,rfl,Nat.le_refl _,Keep.refl _ _⟩,⟨fun _ p q1 q2=>by omega,fun _=>rfl⟩⟩
 intro m
 induction m with
 | zero=>
  intro i H n h1 h2 h3 h4 h5 h6
  exact body _ 0 i H n h1 h2 h3 h4 h5 (fun _ _ _ _ h=>by omega)
 | succ m ih=>
  intro i H n h1 h2 h3 h4 h5 h6
  exact body _ (m+1) i H n h1 h2 h3 h4 h5 (fun H' n' q1 q2 q3=>ih (i+1) H' n' (by omega) (h2.keep q2 h1) (h3.keep q2 q1) (h4.keep q2 q1) (by omega) (by omega))
theorem isLayout_spec(l:Nat){np nj nk nl:Nat}{ps js ks ls:List Int}(good:Good np nj nk ps js ks){H:Hp}{n:Nat}{v w:Value}(hg:GroveI H n v np nj nk ps js ks)(hw:ListR H n w nl ls) :
  ∃ r,Ret (C58_0 (cal (l+4)) KK v w H n) n H (.bool r)∧(r=true↔nl=np∧nQ js ks ls nj np nk):=by
 have hg0:=hg
 obtain⟨x,y,z,rfl,h1,h2,h3⟩:=hg.eq
 unfold C58_0 B58_0
 generalize hS:S58_1 (cal (l+4)) KK KK=S
 rw[dZ]
 simp only[aZ,ptr]
 have hk:Keep n H (H.set n (some (.cells [x,y,z] 26 false none))):=(Keep.refl n H).set (Nat.le_refl _) _
 have hb:aW (H.set n (some (.cells [x,y,z] 26 false none))) n 0 [x,y,z]:=aW.new
 generalize H.set n (some (.cells [x,y,z] 26 false none))=H1 at hk hb ⊢
 have lx:az P H1 22 ⟨n,0+0,none⟩=some x:=bq hb Sj rfl h1.hole.1 h1.hole.2
 have elx:lenV P 22 x=some (.int .i64 np):=h1.len_eq Mw
 rw[hw.len_eq,aj,Fq,aj,ak,aj,lx,aj,elx,aj,ax iV]
 cases c1:decide ((nl:Int)=(np:Int)) with
 | false=>
  rw[Bool.not_false,fX]
  exact⟨false,⟨H1,n+1,rfl,by omega,hk⟩,⟨fun h=>(by cases h),fun h=>absurd (by omega) (of_decide_eq_false c1)⟩⟩
 | true=>
  have e:nl=np:=by have:=of_decide_eq_true c1; omega
  subst e
  rw[Bool.not_true,ez,← hS]
  obtain⟨r,⟨H',n',e1,e2,e3⟩,e4⟩:=isLayout_loop l KK good h2.1 n x y z w KK 0 H1 (n+1) (by omega) hb (hg0.keep hk (by omega)) (hw.keep hk (by omega)) (by omega) (by have:=good.np8; unfold KK; omega)
  exact⟨r,⟨H',n',e1,by omega,hk.trans e3 (by omega)⟩,e4.trans ⟨fun h=>⟨rfl,fun p hp=>h p (Nat.zero_le _) hp⟩,fun h p _ hp=>h.2 p hp⟩⟩
theorem call58(l:Nat)(a b:Value)(H:Hp)(n:Nat):(cal (l+1)).call 58 [a,b] H n=C58_0 (cal l) KK a b H n:=by kernel_rfl
theorem isLayout_call(l:Nat){np nj nk nl:Nat}{ps js ks ls:List Int}(good:Good np nj nk ps js ks){H:Hp}{n:Nat}{v w:Value}(hg:GroveI H n v np nj nk ps js ks)(hw:ListR H n w nl ls) :
  ∃(r:Bool) (H':Hp) (n':Nat),(r=true↔nl=np∧nQ js ks ls nj np nk)∧(∀ k:Value→Hp→Nat→Option ρ,aX P (cal (l+5)) 58 [v,w] H n k=k (.bool r) H' n')∧n≤n'∧Keep n H H':=by
 obtain⟨r,H',n',⟨b,rfl,hb⟩,e1,e2,e3⟩:=eZ (ρ:=ρ) (P:=P) (cal:=cal (l+5)) (f:=58) (args:=[v,w]) (H:=H) (n:=n)
  (Pre:=fun H n=>GroveI H n v np nj nk ps js ks∧ListR H n w nl ls) (Q:=fun r=>∃ b:Bool,r=.bool b∧(b=true↔nl=np∧nQ js ks ls nj np nk))
  (fun H n h=>by
   obtain⟨r,h1,h2⟩:=isLayout_spec l good h.1 h.2
   exact⟨.bool r,by rw[call58]; exact h1,r,rfl,h2⟩) (fun r ⟨b,e,_⟩ _=>by subst e; rfl) ⟨hg,hw⟩ (fun hp=>by
    simp only[ck,Bool.and_eq_true] at hp
    exact⟨hg.nil hp.1,hw.nil hp.2.1⟩)
 exact⟨b,H',n',hb,e1,e2,e3⟩
theorem placed_spec(l:Nat){np nj nk nl:Nat}{ps js ks ls:List Int}{H:Hp}{n:Nat}{v w:Value}(hg:GroveI H n v np nj nk ps js ks)(hw:ListR H n w nl ls) :
  Ret (C25_0 (cal (l+5)) KK v w H n) n H (.int .i64 (gX np nj nk nl ps js ks ls)):=by
 have hg0:=hg
 obtain⟨x,y,z,rfl,h1,h2,h3⟩:=hg.eq
 unfold C25_0 B25_0
 rw[dZ]
 simp only[aZ,ptr]
 have hk:Keep n H (H.set n (some (.cells [x,y,z] 26 false none))):=(Keep.refl n H).set (Nat.le_refl _) _
 have hb:aW (H.set n (some (.cells [x,y,z] 26 false none))) n 0 [x,y,z]:=aW.new
 generalize H.set n (some (.cells [x,y,z] 26 false none))=H1 at hk hb ⊢
 have ld:∀ H2,aW H2 n 0 [x,y,z]→az P H2 26 ⟨n,0,none⟩=some (.agg ⟨[x,y,z]⟩):=fun H2 h=>KV h h1.hole.1 h2.hole.1 h3.hole.1
 have hg1:GroveI H1 (n+1) (.agg ⟨[x,y,z]⟩) np nj nk ps js ks:=hg0.keep hk (by omega)
 obtain⟨H2,n2,e1,e2,e3⟩:=lawfault_call (ρ:=Value × Hp × Nat) (l+1) hg1
 have kk:Keep n H H2:=hk.trans e3 (by omega)
 rw[ak,aj,ld H1 hb,aj,e1,ax iV]
 unfold gX
 by_cases he:iq np nj nk ps js ks=0
 ·have d0:decide (iq np nj nk ps js ks=0)=true:=decide_eq_true he
  have good:=Qw he
  obtain⟨r,H3,n3,f1,f2,f3,f4⟩:=isLayout_call (ρ:=Value × Hp × Nat) l good (hg1.keep e3 e2) (hw.keep kk (show n≤n2 by omega))
  rw[d0,Bool.not_true,ez,aj,ld H2 (hb.keep e3 (by omega)),aj,f2,if_neg (fun h=>h he)]
  cases r with
  | true=>
   rw[qK,aj,ez,if_pos (f1.1 rfl)]
   exact⟨H3,n3,rfl,by omega,kk.trans f4 (by omega)⟩
  | false=>
   rw[tv,aj,fX,if_neg (fun h=>absurd (f1.2 h) (by simp))]
   exact⟨H3,n3,rfl,by omega,kk.trans f4 (by omega)⟩
 ·have d0:decide (iq np nj nk ps js ks=0)=false:=decide_eq_false he
  rw[d0,Bool.not_false,fX,if_pos he]
  exact⟨H2,n2,rfl,by omega,kk⟩
theorem call25(l:Nat)(a b:Value)(H:Hp)(n:Nat):(cal (l+1)).call 25 [a,b] H n=C25_0 (cal l) KK a b H n:=by kernel_rfl
theorem placedN_call(l:Nat){np nj nk nl:Nat}{ps js ks ls:List Int}{H:Hp}{n:Nat}{v w:Value}(hg:GroveI H n v np nj nk ps js ks)(hw:ListR H n w nl ls) :
  ∃ H' n',(∀ k:Value→Hp→Nat→Option ρ,aX P (cal (l+6)) 25 [v,w] H n k=k (.int .i64 (gX np nj nk nl ps js ks ls)) H' n')∧n≤n'∧Keep n H H':=by
 obtain⟨r,H',n',rfl,e1,e2,e3⟩:=eZ (ρ:=ρ) (P:=P) (cal:=cal (l+6)) (f:=25) (args:=[v,w]) (H:=H) (n:=n)
  (Pre:=fun H n=>GroveI H n v np nj nk ps js ks∧ListR H n w nl ls) (Q:=fun r=>r=.int .i64 (gX np nj nk nl ps js ks ls))
  (fun H n h=>⟨_,by rw[call25]; exact placed_spec l h.1 h.2,rfl⟩) (fun r e _=>by subst e; rfl) ⟨hg,hw⟩ (fun hp=>by
    simp only[ck,Bool.and_eq_true] at hp
    exact⟨hg.nil hp.1,hw.nil hp.2.1⟩)
 exact⟨H',n',e1,e2,e3⟩
end Go.Proofs.Ytmjbdjnnojfhkaa.spec
end
section
namespace Go.Ev
open Go
variable {P:Program} {t:TypeId} {x y:Operand} {a b:Int} {ρ:Type}
theorem bin_rem(hb:b≠0):binV P .rem t x y (.int .i64 a) (.int .i64 b)=some (.int .i64 (a.tmod b)):=by
 refine Cj (by simp [binOp,Op.intDiv,hb]) rfl ?_
 rintro m n rfl rfl
 exact .inr rfl
theorem rem_small{a n:Nat}(h:n≠0):((a:Int).tmod (n:Int))=((a % n:Nat):Int):=by
 rw[Int.tmod_eq_emod_of_nonneg (by omega)]
 rfl
end Go.Ev
end
section
namespace Go.Proofs.Ytmjbdjnnojfhkaa.spec
open Go Go.Ev Go.Proofs.Ytmjbdjnnojfhkaa.nestFits Go.Proofs.Ytmjbdjnnojfhkaa.G
set_option maxRecDepth 100000
variable {ρ:Type}
theorem list_at(c:Cal)(k:Nat){H:Hp}{n len:Nat}{v:Value}{xs:List Int}(h:ListR H n v len xs)(h0:len≠0)(hlen:len≤1000) :
  ∃ H' n',Oy c k v H n=some (.slice (some ⟨n+1,0,none⟩) len capV,H',n')∧n+1<n'∧Keep n H H'∧H'.get (n+1)=some (.cells (ints xs) 3 false (some 1)):=by
 unfold Oy B23_0 rowK
 rw[row44_0,aj]
 unfold newK
 dsimp only
 have hk:Keep n H (H.set n (some (.cells [] 3 false none))):=(Keep.refl n H).set (Nat.le_refl _) _
 have hg:(H.set n (some (.cells [] 3 false none))).get n=some (.cells [] 3 false none):=by rw[Tr.get_set,if_pos rfl]
 have h1:=h.keep hk (show n≤n+1 by omega)
 generalize H.set n (some (.cells [] 3 false none))=H1 at hk hg h1 ⊢
 have hold:qX H1 ⟨n,0,none⟩ (0 * 1)=some []:=AW (L:=[]) (dv hg) rfl rfl
 have hbig:yV (0+len) 1 8=true:=by unfold yV; simp; omega
 have hb1:Nat.beq (aZ (.int .i64 0)).length 1=true:=rfl
 have c0:Nat.blt 0 capV=true:=by decide +kernel
 have ha:iz P (bare H1 (n+1)) 44 44 (.slice (some ⟨n,0,none⟩) 0 0) v=some (.slice (some ⟨n+1,0,none⟩) len capV,bare (H1.set (n+1) (some (.cells (ints xs) 3 false (some 1)))) (n+1+1)):=by
  unfold iz
  have hs:pX (bare H1 (n+1)).H 1 v=some (ints xs,len):=h1.src
  have hold':qX (bare H1 (n+1)).H ⟨n,0,none⟩ (0 * 1)=some []:=hold
  simp only[sl44,sz3,by3,zero3,hs,hb1,hold',hbig]
  unfold tY
  have c1:Nat.ble len 0=false:=by
   cases len with
   | zero=>exact absurd rfl h0
   | succ m=>rfl
  simp only[c0,c1,TW,bare,vy,List.nil_append,Nat.zero_add]
 unfold stK
 dsimp only
 rw[ha,aj]
 dsimp only [bare]
 exact⟨_,_,rfl,by omega,hk.set (by omega) _,by rw[Tr.get_set,if_pos rfl]⟩
theorem list_own(c:Cal)(k:Nat){H:Hp}{n len:Nat}{v:Value}{xs:List Int}(h:ListR H n v len xs)(h0:len≠0)(hlen:len≤1000) :
  ∃ b cap H' n',Oy c k v H n=some (.slice (some ⟨b,0,none⟩) len cap,H',n')∧n≤b∧b<n'∧Keep n H H'∧H'.get b=some (.cells (ints xs) 3 false (some 1)):=by
 obtain⟨H',n',e,h1,h2,h3⟩:=list_at c k h h0 hlen
 exact⟨n+1,capV,H',n',e,by omega,h1,h2,h3⟩
theorem list_own_call(l:Nat){H:Hp}{n len:Nat}{v:Value}{xs:List Int}(h:ListR H n v len xs)(h0:len≠0)(hlen:len≤1000) :
  ∃ b cap H' n',(∀ k:Value→Hp→Nat→Option ρ,aX P (cal (l+1)) 23 [v] H n k=k (.slice (some ⟨b,0,none⟩) len cap) H' n')∧n≤b∧b<n'∧Keep n H H'∧H'.get b=some (.cells (ints xs) 3 false (some 1)):=by
 obtain⟨b,cap,H',n',e,h1,h2,h3,h4⟩:=list_own (cal l) KK h h0 hlen
 refine⟨b,cap,H',n',fun k=>?_,h1,h2,h3,h4⟩
 unfold aX
 rw[flat23,call23,e]
 rfl
theorem at44L(b len cap:Nat){i:Nat}(hi:i<len):aJ P 44 (.slice (some ⟨b,0,none⟩) len cap) (.int .i64 i)=some (.pointer (some ⟨b,0+i * 1,none⟩)):=by
 unfold aJ
 simp only[und44,HQ hi,sz3]
 rfl
theorem store3(H:Hp)(b o:Nat)(a:Int):bX P 3 (.pointer (some ⟨b,o,none⟩)) (.int .i64 a) H=storeN H ⟨b,o,none⟩ [.int .i64 a]:=by kernel_rfl
theorem agg44:fJ P 44=some false:=by kernel_rfl
theorem sz44:szT P 44=some 1:=by kernel_rfl
theorem getD_set_same{L:List Int}{p:Nat}{a:Int}(h:p<L.length):(L.set p a).getD p 0=a:=by
 rw[List.getD_eq_getElem?_getD,List.getElem?_set,if_pos rfl,if_pos h]
 rfl
theorem getD_set_ne{L:List Int}{p q:Nat}{a:Int}(h:q≠p):(L.set p a).getD q 0=L.getD q 0:=by
 rw[List.getD_eq_getElem?_getD,List.getElem?_set,if_neg (by omega),← List.getD_eq_getElem?_getD]
end Go.Proofs.Ytmjbdjnnojfhkaa.spec
end
section
namespace Go.Proofs.Ytmjbdjnnojfhkaa.spec
open Go Go.Ev Go.Proofs.Ytmjbdjnnojfhkaa.nestFits Go.Proofs.Ytmjbdjnnojfhkaa.G
set_option maxRecDepth 100000
end Go.Proofs.Ytmjbdjnnojfhkaa.spec
end
section
namespace Go.Proofs.Ytmjbdjnnojfhkaa.spec
open Go Go.Ev Go.Proofs.Ytmjbdjnnojfhkaa.nestFits Go.Proofs.Ytmjbdjnnojfhkaa.G
set_option maxRecDepth 100000
variable {ρ:Type}
theorem effK_a{H:Hp}{n id:Nat}{c:List Value}{e:TypeId}{op:Hp→Nat→(Value→Hp→Nat→Option ρ)→Option ρ}{k:Value→Hp→Nat→Option ρ} :
  effK P [.a id c e] H n op k=op (H.set id none) n (fun v H2 n2=>k v (H2.set id (H.get id)) n2):=rfl
theorem jx{H:Hp}{b:Nat}{v:Value}{e t:TypeId}(h:H.get b=some (.cells [v] e false none))(ht:fJ P t=some false)(h1:lJ v=true)(h2:vj v=true):az P H t ⟨b,0,none⟩=some v:=
 bq (o:=0) (k:=0) (dv h) ht rfl h1 h2
theorem und59:P.underlying 59=some (.slice 44):=by kernel_rfl
theorem agg59:fJ P 59=some false:=by kernel_rfl
theorem sz59:szT P 59=some 1:=by kernel_rfl
theorem at59(b k c:Nat){i:Nat}(hi:i<k):aJ P 59 (.slice (some ⟨b,0,none⟩) k c) (.int .i64 i)=some (.pointer (some ⟨b,0+i * 1,none⟩)):=by
 unfold aJ
 simp only[und59,HQ hi,sz44]
 rfl
def Same(H Hm:Hp):Prop:=∀ b o vs,aW H b o vs→aW Hm b o vs
theorem same_list{H Hm:Hp}{n len:Nat}{v:Value}{xs:List Int}(hr:Same H Hm)(h:ListR H n v len xs):ListR Hm n v len xs:=by
 obtain⟨h1,h2,h3⟩:=h
 refine⟨h1,h2,?_⟩
 rcases h3 with h3 | ⟨b,o,cap,e,a,c⟩
 ·exact .inl h3
 ·exact .inr ⟨b,o,cap,e,a,hr _ _ _ c⟩
theorem Vw{H:Hp}{b o:Nat}{vs:List Value}(h:aW H b o vs):(∃ c e ro vec,H.get b=some (.cells c e ro vec))∨∃ c,H.get b=some (.rows c):=by
 obtain⟨B,c,h1,h2,_⟩:=h
 cases B with
 | cells c e ro vec=>exact .inl ⟨_,_,_,_,h1⟩
 | rows c=>exact .inr ⟨_,h1⟩
 | _=>cases h2
theorem effK_read{ex:List Extra}{H:Hp}{n:Nat}{v:Value}{op:Hp→Nat→(Value→Hp→Nat→Option ρ)→Option ρ}
  (hex:∀ y ∈ ex,∃ t a,y=.l t a∧a.block<n∧((∃ c e ro vec,H.get a.block=some (.cells c e ro vec))∨∃ c,H.get a.block=some (.rows c)))
  (hop:∀ Hm,Same H Hm→∃ H2 n2,(∀ k,op Hm n k=k v H2 n2)∧n≤n2∧Keep n Hm H2) :
  ∃ H' n2,(∀ k,effK P ex H n op k=k v H' n2)∧n≤n2∧Keep n H H':=by
 cases ex with
 | nil=>
  obtain⟨H2,n2,h1,h2,h3⟩:=hop H (fun _ _ _ h=>h)
  exact⟨H2,n2,fun k=>by unfold effK; exact h1 k,h2,h3⟩
 | cons y l=>
  have hl:∀ z ∈ y::l,∃ t a,z=.l t a:=fun z hz=>by obtain⟨t,a,e,_⟩:=hex z hz; exact⟨t,a,e⟩
  obtain⟨H1,e1,e2⟩:=Fy (ex:=y::l) (H:=H) fun z hz=>by obtain⟨t,a,e,_,h⟩:=hex z hz; exact .inl ⟨t,a,e,h⟩
  have hnw:∀ b,¬ nwOf (y::l) b:=fun b ⟨id,c,e,h1,_⟩=>by obtain⟨t,a,q⟩:=hl _ h1; cases q
  obtain⟨H2,n2,h1,h2,h3⟩:=hop (sW (y::l) H1) fun b o vs hc=>by
   obtain⟨B,c,g1,g2,g3⟩:=hc
   have em:=(qJ (ex:=y::l) (H:=H1) b).2 (hnw _)
   rcases e2 b with q | ⟨⟨c',e,ro,vec,q1,q2⟩,_⟩
   ·exact⟨B,c,by rw[em,q]; exact g1,g2,g3⟩
   ·rw[q1] at g1
    cases g1
    exact⟨.cells c' e true vec,c,by rw[em]; exact q2,g2,g3⟩
  have hsome:∀ z ∈ y::l,(∃ t a,z=.l t a∧(H2.get a.block).isSome)∨∃ id c e,z=.a id c e:=by
   intro z hz
   obtain⟨t,a,rfl,hb,hc⟩:=hex z hz
   refine .inl ⟨t,a,rfl,?_⟩
   rw[h3 _ hb,(qJ (H:=H1) a.block).2 (hnw _)]
   have hs:(H.get a.block).isSome:=by rcases hc with⟨c,e,ro,vec,hc⟩ | ⟨c,hc⟩ <;> rw[hc] <;> rfl
   rcases e2 a.block with q | ⟨⟨c,e,ro,vec,_,q⟩,_⟩
   ·rw[q]; exact hs
   ·rw[q]; rfl
  obtain⟨H3,f1,f2,f3⟩:=Fz (H0:=H) hsome
  have hck:chkX P (oK (y::l) H H3) (y::l)=true:=Nk fun z hz=>.inl (hl z hz)
  refine⟨oK (y::l) H H3,n2,fun k=>?_,h2,fun b hb=>?_⟩
  ·unfold effK
   simp only[e1,aj,h1,f1,hck]
   rfl
  ·rw[(xw b).2 (hnw b)]
   by_cases q:ldOf (y::l) b
   ·exact f2 b q
   ·rw[f3 b q,h3 b hb,(qJ (H:=H1) b).2 (hnw b)]
    rcases e2 b with z | ⟨_,z⟩
    ·exact z
    ·exact absurd z q
theorem slice121h(b:Nat){np:Nat}(h:np≤8):Kj P 119 (.pointer (some ⟨b,0,none⟩)) none (some (.int .i64 np))=some (.slice (some ⟨b,0,none⟩) np 8):=by
 show Kj P 119 (.pointer (some ⟨b,0,none⟩)) none (some (.int .i64 (.ofNat np)))=_
 unfold Kj
 simp [und121,sz3,Pw,hiV,loV,bndIn,h,capV,addA]
theorem share_two{y:Int}{S B:List Int}(hS:S.length=16)(hB:B.length=16){i:Nat}(hi:i<8):((ints (bW y S B)).drop (1+i * 2)).take 2=[.int .i64 (S.getD (i * 2) 0),.int .i64 (S.getD (i * 2+1) 0)]:=by
 have g:∀ k,k<16→(bW y S B).getD (1+k) 0=S.getD k 0:=fun k hk=>by
  unfold bW
  rw[List.getD_eq_getElem?_getD,List.getD_eq_getElem?_getD,Nat.add_comm 1 k,List.getElem?_cons_succ,List.getElem?_append_left (by omega)]
 rw[SK (by rw[gk hS hB]; omega),g _ (by omega),Nat.add_assoc 1,g _ (by omega)]
def byP(y:Int)(S xs:List Int)(m np:Nat):Prop:=m=np∧(∀ o,o<np→S.getD (o * 2) 0≤xs.getD o 0∧xs.getD o 0≤S.getD (o * 2+1) 0)∧ay (fun o=>xs.getD o 0) np=y
theorem spreadBy_loop(l k:Nat){y:Int}{S B xs:List Int}{np b:Nat}{w:Value}{H:Hp}{n:Nat}(hS:S.length=16)(hB:B.length=16)(hb:iW S)(hy:0≤y∧y≤1000)(hnp:np≤8)(hw:ListR H n w np xs)(hg:H.get b=some (.cells (ints (bW y S B)) 111 false none)):∀(m i:Nat),i≤np→np-i≤m →
  (∀ o,o<i→S.getD (o * 2) 0≤xs.getD o 0∧xs.getD o 0≤S.getD (o * 2+1) 0) →
  ∃ r:Bool,S109_1 (cal (l+1)) k m (.pointer (some ⟨b,0,none⟩)) (.int .i64 (y-ay (fun o=>xs.getD o 0) i)) w (.int .i64 np) (.int .i64 i) H n=some (.bool r,H,n)∧(r=true↔byP y S xs np np):=by
 have lens:(ints (bW y S B)).length=33:=by rw[bv,gk hS hB]
 have body:∀(b1:Value→Value→Value→Value→Value→Hp→Nat→Res) (m i:Nat),i≤np→(∀ o,o<i→S.getD (o * 2) 0≤xs.getD o 0∧xs.getD o 0≤S.getD (o * 2+1) 0) →
   (i<np→(∀ o,o<i+1→S.getD (o * 2) 0≤xs.getD o 0∧xs.getD o 0≤S.getD (o * 2+1) 0)→∃ r:Bool,b1 (.pointer (some ⟨b,0,none⟩)) (.int .i64 (y-ay (fun o=>xs.getD o 0) (i+1))) w (.int .i64 np) (.int .i64 ((i+1:Nat):Int)) H n=some (.bool r,H,n)∧(r=true↔byP y S xs np np)) →
   ∃ r:Bool,Zq (cal (l+1)) k m b1 (.pointer (some ⟨b,0,none⟩)) (.int .i64 (y-ay (fun o=>xs.getD o 0) i)) w (.int .i64 np) (.int .i64 i) H n=some (.bool r,H,n)∧(r=true↔byP y S xs np np):=by
  intro b1 m i hi hin ih
  unfold Zq B109_1
  rw[ax cJ,gw]
  by_cases hlt:i<np
  ·obtain⟨c,o,a1,_,a3⟩:=hw.at_ hlt
   have hI1:I64 ((i:Int)+1):=by unfold I64; omega
   have hcast:((i:Int)+1)=((i+1:Nat):Int):=by omega
   have hld:az P H 53 ⟨b,0+1+i * 2,none⟩=some (.agg ⟨[.int .i64 (S.getD (i * 2) 0),.int .i64 (S.getD (i * 2+1) 0)]⟩):=by
    have:=cw (P:=P) (k:=1+i * 2) (dv hg) UY sz53 (by rw[lens]; omega) (dY _)
    rw[share_two hS hB (by omega),← Nat.add_assoc] at this
    exact this
   rw[if_pos (by omega),a1,aj,ak,aj,a3,aj,UK,aj,at111 b (0+1) (show i<8 by omega),aj,ak,aj,hld,aj,in_range_call l]
   by_cases hr:S.getD (i * 2) 0≤xs.getD i 0∧xs.getD i 0≤S.getD (i * 2+1) 0
   ·have hall:∀ o,o<i+1→S.getD (o * 2) 0≤xs.getD o 0∧xs.getD o 0≤S.getD (o * 2+1) 0:=fun o ho=>by
     by_cases e:o=i
     ·rw[e]; exact hr
     ·exact hin o (by omega)
    have b1':=hb (i * 2)
    have b2':=hb (i * 2+1)
    have hsum:∀ j,j≤i→0≤ay (fun o=>xs.getD o 0) j∧ay (fun o=>xs.getD o 0) j≤j * 1000:=by
     intro j
     induction j with
     | zero=>intro _; simp [ay]
     | succ j ihj=>
      intro hj
      have:=ihj (by omega)
      have h1:=hin j (by omega)
      have h2:=hb (j * 2)
      have h3:=hb (j * 2+1)
      simp only[ay]
      omega
    have hs:=hsum i (Nat.le_refl _)
    have hI2:I64 (y-ay (fun o=>xs.getD o 0) i-xs.getD i 0):=by unfold I64; omega
    have e:y-ay (fun o=>xs.getD o 0) i-xs.getD i 0=y-ay (fun o=>xs.getD o 0) (i+1):=by simp only[ay]; omega
    rw[decide_eq_true hr,qK,aj,ez,ax (oW hI2),ax (bk hI1),hcast,e]
    exact ih hlt hall
   ·rw[decide_eq_false hr,tv,aj,fX]
    exact⟨false,rfl,⟨fun h=>(by cases h),fun h=>absurd (h.2.1 i hlt) hr⟩⟩
  ·have:i=np:=by omega
   subst this
   rw[if_neg (by omega),ax jY]
   refine⟨_,rfl,?_⟩
   rw[decide_eq_true_iff]
   exact⟨fun h=>⟨rfl,hin,by omega⟩,fun h=>by have:=h.2.2; omega⟩
 intro m
 induction m with
 | zero=>intro i h1 h2 h3; exact body _ 0 i h1 h3 (fun h=>by omega)
 | succ m ih=>intro i h1 h2 h3; exact body _ (m+1) i h1 h3 (fun h h'=>ih (i+1) (by omega) (by omega) h')
theorem spreadBy_spec(l:Nat){y:Int}{S B xs:List Int}{np m:Nat}{w:Value}{H:Hp}{n:Nat}(hS:S.length=16)(hB:B.length=16)(hb:iW S)(hy:0≤y∧y≤1000)(hnp:np≤8)(hw:ListR H n w m xs) :
  ∃ r:Bool,Ret (Zv (cal (l+1)) KK (.agg ⟨ints (bW y S B)⟩) w (.int .i64 np) H n) n H (.bool r)∧(r=true↔byP y S xs m np):=by
 have lens:(ints (bW y S B)).length=33:=by rw[bv,gk hS hB]
 unfold Zv B109_0
 rw[dZ]
 simp only[aZ,ptr]
 have hk:Keep n H (H.set n (some (.cells (ints (bW y S B)) 111 false none))):=(Keep.refl n H).set (Nat.le_refl _) _
 have hg:(H.set n (some (.cells (ints (bW y S B)) 111 false none))).get n=some (.cells (ints (bW y S B)) 111 false none):=by rw[Tr.get_set,if_pos rfl]
 generalize H.set n (some (.cells (ints (bW y S B)) 111 false none))=H1 at hk hg ⊢
 rw[hw.len_eq,aj,ax iV]
 by_cases hm:m=np
 ·subst hm
  have ly:az P H1 3 ⟨n,0+0,none⟩=some (.int .i64 y):=bj (o:=0) (k:=0) (dv hg) agg3 rfl
  have hw1:=hw.keep hk (show n≤n+1 by omega)
  obtain⟨r,r1,r2⟩:=spreadBy_loop l KK hS hB hb hy hnp hw1 hg KK 0 (Nat.zero_le _) (by unfold KK; omega) (fun o h=>by omega)
  have e0:y-ay (fun o=>xs.getD o 0) 0=y:=by simp [ay]
  rw[e0] at r1
  have dm:decide ((m:Int)=(m:Int))=true:=decide_eq_true rfl
  rw[dm,Bool.not_true,ez,qez,aj,ak,aj,ly,aj,aj]
  exact⟨r,⟨H1,n+1,r1,by omega,hk⟩,r2⟩
 ·rw[decide_eq_false (by omega),Bool.not_false,fX]
  exact⟨false,⟨H1,n+1,rfl,by omega,hk⟩,⟨fun h=>(by cases h),fun h=>absurd h.1 hm⟩⟩
theorem call109(l:Nat)(a b c:Value)(H:Hp)(n:Nat):(cal (l+1)).call 109 [a,b,c] H n=Zv (cal l) KK a b c H n:=by kernel_rfl
theorem spreadBy_call(l:Nat){y:Int}{S B xs:List Int}{np m:Nat}{w:Value}{H:Hp}{n:Nat}(hS:S.length=16)(hB:B.length=16)(hb:iW S)(hy:0≤y∧y≤1000)(hnp:np≤8)(hw:ListR H n w m xs) :
  ∃(r:Bool) (H':Hp) (n':Nat),(r=true↔byP y S xs m np)∧(∀ k:Value→Hp→Nat→Option ρ,aX P (cal (l+2)) 109 [.agg ⟨ints (bW y S B)⟩,w,.int .i64 np] H n k=k (.bool r) H' n')∧n≤n'∧Keep n H H':=by
 obtain⟨r,H',n',⟨b,rfl,hb'⟩,e1,e2,e3⟩:=eZ (ρ:=ρ) (P:=P) (cal:=cal (l+2)) (f:=109) (args:=[.agg ⟨ints (bW y S B)⟩,w,.int .i64 np]) (H:=H) (n:=n)
  (Pre:=fun H n=>ListR H n w m xs) (Q:=fun r=>∃ b:Bool,r=.bool b∧(b=true↔byP y S xs m np))
  (fun H n hw=>by
   obtain⟨r,e,h⟩:=spreadBy_spec l hS hB hb hy hnp hw
   exact⟨.bool r,by rw[call109]; exact e,r,rfl,h⟩) (fun r ⟨b,e,_⟩ _=>by subst e; rfl) hw (fun hp=>by
    simp only[ck,Bool.and_eq_true] at hp
    exact hw.nil hp.2.1)
 exact⟨b,H',n',hb',e1,e2,e3⟩
theorem und120:P.underlying 118=some (.array 8 3):=by kernel_rfl
theorem zero120:iJ P 118=some (.agg ⟨ints (List.replicate 8 0)⟩):=by kernel_rfl
theorem at120(b:Nat){i:Nat}(hi:i<8):aJ P 118 (.pointer (some ⟨b,0,none⟩)) (.int .i64 i)=some (.pointer (some ⟨b,0+i * 1,none⟩)):=by
 unfold aJ
 have:qY (.int .i64 (i:Int)) 8=some i:=by
  show qY (.int .i64 (.ofNat i)) 8=some i
  simp [qY,hi]
 simp only[und120,this,sz3]
 rfl
def fq(H:Hp)(n:Nat)(v:Value)(len:Nat)(rw_:Nat→Value)(R:Nat→List Int):Prop:=((v=.slice none 0 0∧len=0)∨∃ b o cap,v=.slice (some ⟨b,o,none⟩) len cap∧b<n∧aW H b o ((List.range len).map rw_))∧∀ p,p<len→ListR H n (rw_ p) (R p).length (R p)
theorem fq.keep{H H':Hp}{n m len:Nat}{v:Value}{rw_:Nat→Value}{R:Nat→List Int}(h:fq H n v len rw_ R)(hk:Keep n H H')(hm:n≤m):fq H' m v len rw_ R:=by
 obtain⟨h1,h2⟩:=h
 refine⟨?_,fun p hp=>(h2 p hp).keep hk hm⟩
 rcases h1 with h | ⟨b,o,cap,e,a,c⟩
 ·exact .inl h
 ·exact .inr ⟨b,o,cap,e,by omega,c.keep hk a⟩
theorem fq.len_eq{H:Hp}{n len:Nat}{v:Value}{rw_:Nat→Value}{R:Nat→List Int}(h:fq H n v len rw_ R):lenV P 59 v=some (.int .i64 len):=by
 rcases h.1 with⟨rfl,rfl⟩ | ⟨b,o,cap,rfl,_⟩
 ·unfold lenV; simp only[und59]; rfl
 ·unfold lenV; simp only[und59]; rfl
theorem ListR.holes{H:Hp}{n len:Nat}{v:Value}{xs:List Int}(h:ListR H n v len xs):lJ v=true∧vj v=true:=by
 rcases h.2.2 with⟨rfl,_⟩ | ⟨b,o,cap,rfl,_⟩ <;> exact⟨rfl,rfl⟩
theorem fq.at_{H:Hp}{n len:Nat}{v:Value}{rw_:Nat→Value}{R:Nat→List Int}(h:fq H n v len rw_ R){p:Nat}(hp:p<len) :
  ∃ b o,aJ P 59 v (.int .i64 p)=some (.pointer (some ⟨b,o,none⟩))∧b<n∧az P H 44 ⟨b,o,none⟩=some (rw_ p):=by
 have hl:=h.2 p hp
 rcases h.1 with⟨rfl,rfl⟩ | ⟨b,o,cap,rfl,a,c⟩
 ·omega
 ·refine⟨b,o+p,?_,a,?_⟩
  ·unfold aJ
   simp only[und59,HQ hp,sz44]
   simp [addA]
  ·exact bq c agg44 (by rw[List.getElem?_map,List.getElem?_range hp]; rfl) hl.holes.1 hl.holes.2
theorem fq.of_cells{H:Hp}{n bs len cap:Nat}{rw_:Nat→Value}{R:Nat→List Int}(hb:bs<n)(hc:cZ H bs len 44 rw_)(hr:∀ p,p<len→ListR H n (rw_ p) (R p).length (R p)):fq H n (.slice (some ⟨bs,0,none⟩) len cap) len rw_ R:=
 ⟨.inr ⟨bs,0,cap,rfl,hb,hc.at_⟩,hr⟩
def RowR(H:Hp)(n:Nat)(v:Value)(len:Nat)(xs:List Int):Prop:=ListR H n v len xs∨(xs=[]∧len=0∧∃ a cap,v=.slice (some a) 0 cap)
theorem RowR.keep{H H':Hp}{n m len:Nat}{v:Value}{xs:List Int}(h:RowR H n v len xs)(hk:Keep n H H')(hm:n≤m):RowR H' m v len xs:=h.imp (fun h=>h.keep hk hm) id
theorem RowR.length{H:Hp}{n len:Nat}{v:Value}{xs:List Int}(h:RowR H n v len xs):xs.length=len:=by
 rcases h with h | ⟨rfl,rfl,_⟩
 ·exact h.1
 ·rfl
theorem RowR.i64s{H:Hp}{n len:Nat}{v:Value}{xs:List Int}(h:RowR H n v len xs):∀ x ∈ xs,I64 x:=by
 rcases h with h | ⟨rfl,rfl,_⟩
 ·exact h.2.1
 ·intro x hx; simp at hx
theorem RowR.len_eq{H:Hp}{n len:Nat}{v:Value}{xs:List Int}(h:RowR H n v len xs):lenV P 44 v=some (.int .i64 len):=by
 rcases h with h | ⟨_,rfl,a,cap,rfl⟩
 ·exact h.len_eq
 ·unfold lenV; simp only[und44]; rfl
theorem RowR.at_{H:Hp}{n len:Nat}{v:Value}{xs:List Int}(h:RowR H n v len xs){i:Nat}(hi:i<len) :
  ∃ b o,aJ P 44 v (.int .i64 i)=some (.pointer (some ⟨b,o,none⟩))∧b<n∧az P H 3 ⟨b,o,none⟩=some (.int .i64 (xs.getD i 0)):=by
 rcases h with h | ⟨_,rfl,_⟩
 ·exact h.at_ hi
 ·omega
theorem RowR.holes{H:Hp}{n len:Nat}{v:Value}{xs:List Int}(h:RowR H n v len xs):lJ v=true∧vj v=true:=by
 rcases h with h | ⟨_,_,a,cap,rfl⟩
 ·exact h.holes
 ·exact⟨rfl,rfl⟩
theorem cut_zero{c:List Value}{o:Nat}{l:List Value}(h:cut c o 0=some l):l=[]:=List.length_eq_zero_iff.1 (Dj h).2
theorem RowR.src{H:Hp}{n len:Nat}{v:Value}{xs:List Int}(h:RowR H n v len xs):pX H 1 v=some (ints xs,len):=by
 rcases h with h | ⟨rfl,rfl,a,cap,rfl⟩
 ·exact h.src
 ·have key:qX H a 0=none∨qX H a 0=some []:=by
   unfold qX
   split
   ·exact .inl rfl
   ·split
    ·rename_i c _ _ _ _
     cases hc:cut c a.off 0 with
     | none=>exact .inl rfl
     | some l=>exact .inr (by rw[cut_zero hc])
    ·rename_i c _
     cases hc:cut c a.off 0 with
     | none=>exact .inl rfl
     | some l=>rw[cut_zero hc]; exact .inr rfl
    ·exact .inl rfl
  show(match qX H a (0 * 1) with
   | some l=>some (l,0)
   | none=>match Nat.beq 0 0 with
    | true=>some ([],0)
    | false=>none)=_
  rw[show 0 * 1=0 from rfl]
  rcases key with e | e <;> rw[e] <;> rfl
def SpreadJ(H:Hp)(n:Nat)(v:Value)(len:Nat)(rw_:Nat→Value)(R:Nat→List Int):Prop:=((v=.slice none 0 0∧len=0)∨∃ b o cap,v=.slice (some ⟨b,o,none⟩) len cap∧b<n∧aW H b o ((List.range len).map rw_))∧∀ p,p<len→RowR H n (rw_ p) (R p).length (R p)
theorem fq.toJ{H:Hp}{n len:Nat}{v:Value}{rw_:Nat→Value}{R:Nat→List Int}(h:fq H n v len rw_ R):SpreadJ H n v len rw_ R:=⟨h.1,fun p hp=>.inl (h.2 p hp)⟩
theorem SpreadJ.keep{H H':Hp}{n m len:Nat}{v:Value}{rw_:Nat→Value}{R:Nat→List Int}(h:SpreadJ H n v len rw_ R)(hk:Keep n H H')(hm:n≤m):SpreadJ H' m v len rw_ R:=by
 obtain⟨h1,h2⟩:=h
 refine⟨?_,fun p hp=>(h2 p hp).keep hk hm⟩
 rcases h1 with h | ⟨b,o,cap,e,a,c⟩
 ·exact .inl h
 ·exact .inr ⟨b,o,cap,e,by omega,c.keep hk a⟩
theorem SpreadJ.len_eq{H:Hp}{n len:Nat}{v:Value}{rw_:Nat→Value}{R:Nat→List Int}(h:SpreadJ H n v len rw_ R):lenV P 59 v=some (.int .i64 len):=by
 rcases h.1 with⟨rfl,rfl⟩ | ⟨b,o,cap,rfl,_⟩
 ·unfold lenV; simp only[und59]; rfl
 ·unfold lenV; simp only[und59]; rfl
theorem SpreadJ.at_{H:Hp}{n len:Nat}{v:Value}{rw_:Nat→Value}{R:Nat→List Int}(h:SpreadJ H n v len rw_ R){p:Nat}(hp:p<len) :
  ∃ b o,aJ P 59 v (.int .i64 p)=some (.pointer (some ⟨b,o,none⟩))∧b<n∧az P H 44 ⟨b,o,none⟩=some (rw_ p):=by
 have hl:=h.2 p hp
 rcases h.1 with⟨rfl,rfl⟩ | ⟨b,o,cap,rfl,a,c⟩
 ·omega
 ·refine⟨b,o+p,?_,a,?_⟩
  ·unfold aJ
   simp only[und59,HQ hp,sz44]
   simp [addA]
  ·exact bq c agg44 (by rw[List.getElem?_map,List.getElem?_range hp]; rfl) hl.holes.1 hl.holes.2
theorem SpreadJ.nil{H:Hp}{n len:Nat}{v:Value}{rw_:Nat→Value}{R:Nat→List Int}(h:SpreadJ H n v len rw_ R)(hp:bw v=true):len=0:=by
 rcases h.1 with⟨_,rfl⟩ | ⟨b,o,cap,rfl,_⟩
 ·rfl
 ·simp [bw] at hp
def wx(js ks:List Int)(nj np p:Nat)(kind:Int)(xs:List Int):Prop:=if kind<0 then xs.length=0 else xs.length=np∧(∀ o:Nat,o<np→(cq js ks nj kind.toNat p o).1≤xs.getD o 0∧xs.getD o 0≤(cq js ks nj kind.toNat p o).2)∧ay (fun o=>xs.getD o 0) np=ks.getD (kind.toNat * 5) 0
theorem isSpread_loop3(l k m1:Nat){np nj nk p kd:Nat}{ps js ks ls:List Int}(good:Good np nj nk ps js ks)(g0:Nat)(x y z w v:Value)(rw_:Nat→Value)(R:Nat→List Int)(b1:Value→Value→Value→Value→Hp→Nat→Res)(Rest:Prop)(hp:p<np)(hkd:ls.getD p 0=kd)(hk:kd<nk)(hR:(R p).length=np) :
  ∀(m o:Nat) (sum:Int) (H:Hp) (n:Nat),g0<n→aW H g0 0 [x,y,z]→GroveI H n (.agg ⟨[x,y,z]⟩) np nj nk ps js ks→ListR H n w np ls→SpreadJ H n v np rw_ R→(∀ q,q<o→0≤(R p).getD q 0∧(R p).getD q 0≤1000)→sum=ay (fun q=>(R p).getD q 0) o→o≤np→np-o≤m →
  (∀ H' n',n≤n'→Keep n H H'→∃ r,Ret (b1 w v (.pointer (some ⟨g0,0,none⟩)) (.int .i64 ((p+1:Nat):Int)) H' n') n' H' (.bool r)∧(r=true↔Rest)) →
  ∃ r,Ret (S33_3 (cal (l+2)) k m1 b1 m w v (.pointer (some ⟨g0,0,none⟩)) (.int .i64 p) (.int .i64 sum) (.int .i64 o) H n) n H (.bool r)∧(r=true↔((∀ q:Nat,o≤q→q<np→(cq js ks nj kd p q).1≤(R p).getD q 0∧(R p).getD q 0≤(cq js ks nj kd p q).2)∧ay (fun q=>(R p).getD q 0) np=ks.getD (kd * 5) 0)∧Rest):=by
 have np8:=good.np8
 have body:∀(b3:Value→Value→Value→Value→Value→Value→Hp→Nat→Res) (m o:Nat) (sum:Int) (H:Hp) (n:Nat),g0<n→aW H g0 0 [x,y,z]→GroveI H n (.agg ⟨[x,y,z]⟩) np nj nk ps js ks→ListR H n w np ls→SpreadJ H n v np rw_ R→(∀ q,q<o→0≤(R p).getD q 0∧(R p).getD q 0≤1000)→sum=ay (fun q=>(R p).getD q 0) o→o≤np →
   (∀ H' n',n≤n'→Keep n H H'→∃ r,Ret (b1 w v (.pointer (some ⟨g0,0,none⟩)) (.int .i64 ((p+1:Nat):Int)) H' n') n' H' (.bool r)∧(r=true↔Rest)) →
   (∀ H' n',n≤n'→Keep n H H'→o<np→0≤(R p).getD o 0∧(R p).getD o 0≤1000→∃ r,Ret (b3 w v (.pointer (some ⟨g0,0,none⟩)) (.int .i64 p) (.int .i64 (ay (fun q=>(R p).getD q 0) (o+1))) (.int .i64 ((o+1:Nat):Int)) H' n') n' H' (.bool r)∧(r=true↔((∀ q:Nat,o+1≤q→q<np→(cq js ks nj kd p q).1≤(R p).getD q 0∧(R p).getD q 0≤(cq js ks nj kd p q).2)∧ay (fun q=>(R p).getD q 0) np=ks.getD (kd * 5) 0)∧Rest)) →
   ∃ r,Ret (C33_3 (cal (l+2)) k m1 m b1 b3 w v (.pointer (some ⟨g0,0,none⟩)) (.int .i64 p) (.int .i64 sum) (.int .i64 o) H n) n H (.bool r)∧(r=true↔((∀ q:Nat,o≤q→q<np→(cq js ks nj kd p q).1≤(R p).getD q 0∧(R p).getD q 0≤(cq js ks nj kd p q).2)∧ay (fun q=>(R p).getD q 0) np=ks.getD (kd * 5) 0)∧Rest):=by
  intro b3 m o sum H n hg0 hb hg hw hv hpos hsum ho hb1 ih
  subst hsum
  obtain⟨x',y',z',hxyz,h1,h2,h3⟩:=hg.eq
  cases hxyz
  obtain⟨rb,ro,hix,hrb,hld⟩:=hw.at_ hp
  rw[hkd] at hld
  have ssm:=CV (f:=fun q=>(R p).getD q 0) (c:=1000) (i:=o) (fun q hq=>hpos q hq)
  unfold C33_3 B33_3
  rw[hw.len_eq,aj,ax cJ,gw]
  by_cases hlt:o<np
  ·have hI:I64 ((o:Int)+1):=by unfold I64; omega
   have hcast:((o:Int)+1)=((o+1:Nat):Int):=by omega
   rw[if_pos (by omega),ak,aj,KV hb h1.hole.1 h2.hole.1 h3.hole.1,aj]
   simp only[hix,aj,ak,hld,zero55,newK,effK_a]
   have kA:Keep n H ((H.set n (some (.cells (aZ (.agg #[.int .i64 0,.int .i64 0])) 55 false none))).set n none):=((Keep.refl n H).set (Nat.le_refl _) _).set (Nat.le_refl _) _
   obtain⟨H2,n2,e,e2,e3⟩:=KQ l (ρ:=Value × Hp × Nat) (hg.keep kA (show n≤n+1 by omega)) (show nj≤KK by have:=good.nj16; unfold KK; omega) kd hk (p:Int) (o:Int)
   rw[e]
   have hget:(H2.set n ((H.set n (some (.cells (aZ (.agg #[.int .i64 0,.int .i64 0])) 55 false none))).get n)).get n=some (.cells [.int .i64 0,.int .i64 0] 55 false none):=by
    rw[Tr.get_set,if_pos rfl,Tr.get_set,if_pos rfl]; rfl
   have kB:Keep n H (H2.set n ((H.set n (some (.cells (aZ (.agg #[.int .i64 0,.int .i64 0])) 55 false none))).get n)):=(kA.trans e3 (by omega)).set (Nat.le_refl _) _
   generalize (H2.set n ((H.set n (some (.cells (aZ (.agg #[.int .i64 0,.int .i64 0])) 55 false none))).get n))=H3 at hget kB ⊢
   generalize hlo:(cq js ks nj kd p o).1=lo
   generalize hhi:(cq js ks nj kd p o).2=hi
   obtain⟨rr0,_,rr2⟩:=tK (js:=js) (nj:=nj) good.small hk (p:Int) (o:Int)
   rw[ptr,qdz,lW (c:=[.int .i64 0,.int .i64 0]) (vs:=[.int .i64 lo,.int .i64 hi]) (e:=55) (vec:=none) hget rfl rfl,aj]
   have hnew:aW (H3.set n (some (.cells [.int .i64 lo,.int .i64 hi] 55 false none))) n 0 [.int .i64 lo,.int .i64 hi]:=aW.new
   have k4:Keep n H (H3.set n (some (.cells [.int .i64 lo,.int .i64 hi] 55 false none))):=kB.set (Nat.le_refl _) _
   generalize H3.set n (some (.cells [.int .i64 lo,.int .i64 hi] 55 false none))=H4 at hnew k4 ⊢
   have c0:az P H4 3 ⟨n,0+0,none⟩=some (.int .i64 lo):=bj hnew agg3 rfl
   have c1:az P H4 3 ⟨n,0+1,none⟩=some (.int .i64 hi):=bj hnew agg3 rfl
   obtain⟨sb,so,s1,_,s3⟩:=(hv.keep k4 (show n≤n2 by omega)).at_ hp
   have hrow:=(hv.keep k4 (show n≤n2 by omega)).2 p hp
   rw[hR] at hrow
   obtain⟨tb,to_,t1,_,t3⟩:=hrow.at_ hlt
   simp only[s1,aj,ak,s3,t1,t3,Ny,c0,Nz,c1,DJ (l+1)]
   cases hd:decide (lo≤(R p).getD o 0∧(R p).getD o 0≤hi) with
   | false=>
    rw[tv,aj,fX]
    exact⟨false,⟨H4,n2,rfl,by omega,k4⟩,⟨fun h=>(by cases h),fun h=>absurd (by have:=h.1.1 o (Nat.le_refl _) hlt; rw[hlo,hhi] at this; exact this) (of_decide_eq_false hd)⟩⟩
   | true=>
    obtain⟨d0,d1⟩:=of_decide_eq_true hd
    have hr:0≤(R p).getD o 0∧(R p).getD o 0≤1000:=by omega
    have hIs:I64 (ay (fun q=>(R p).getD q 0) o+(R p).getD o 0):=by unfold I64; omega
    rw[qK,aj,ez,ax (bk hIs),ax (bk hI),hcast]
    obtain⟨r,⟨H5,n5,f1,f2,f3⟩,f4⟩:=ih H4 n2 (by omega) k4 hlt hr
    refine⟨r,⟨H5,n5,f1,by omega,k4.trans f3 (by omega)⟩,f4.trans ⟨fun h=>⟨⟨fun q q1 q2=>?_,h.1.2⟩,h.2⟩,fun h=>⟨⟨fun q q1 q2=>h.1.1 q (by omega) q2,h.1.2⟩,h.2⟩⟩⟩
    rcases Nat.eq_or_lt_of_le q1 with e | e
    ·subst e; rw[hlo,hhi]; exact⟨d0,d1⟩
    ·exact h.1.1 q e q2
  ·have hi':o=np:=by omega
   subst hi'
   have lz:az P H 24 ⟨g0,0+2,none⟩=some z:=bq hb Mv rfl h3.hole.1 h3.hole.2
   obtain⟨zb,zo,z1,_,z3⟩:=h3.at_ IQ sz94 hk
   have hkl:kd * 5<ks.length:=by rw[h3.1]; omega
   have ly:az P H 3 ⟨zb,zo+kd * 5+0,none⟩=some (.int .i64 (ks.getD (kd * 5) 0)):=by
    have:=bj (P:=P) (o:=zo) (k:=kd * 5) z3 agg3 (gQ (getD_some hkl))
    exact this
   rw[if_neg (by omega),Dq,aj,ak,aj,lz,aj,hix,aj,ak,aj,hld,aj,z1,aj,fa94_0,aj,ak,aj,ly,aj,ax iV]
   cases hd:decide (ay (fun q=>(R p).getD q 0) o=ks.getD (kd * 5) 0) with
   | false=>
    rw[Bool.not_false,fX]
    exact⟨false,⟨H,n,rfl,Nat.le_refl _,Keep.refl _ _⟩,⟨fun h=>(by cases h),fun h=>absurd h.1.2 (of_decide_eq_false hd)⟩⟩
   | true=>
    have hI:I64 ((p:Int)+1):=by unfold I64; omega
    have hcast:((p:Int)+1)=((p+1:Nat):Int):=by omega
    rw[Bool.not_true,ez]
    unfold C33_2 B33_2
    rw[ax (bk hI),hcast]
    obtain⟨r,q1,q2⟩:=hb1 H n (Nat.le_refl _) (Keep.refl _ _)
    exact⟨r,q1,q2.trans ⟨fun h=>⟨⟨fun q a b=>by omega,of_decide_eq_true hd⟩,h⟩,fun h=>h.2⟩⟩
 intro m
 induction m with
 | zero=>
  intro o sum H n h1 h2 h3 h4 h5 h6 h7 h8 h9 h10
  exact body _ 0 o sum H n h1 h2 h3 h4 h5 h6 h7 h8 h10 (fun _ _ _ _ h=>by omega)
 | succ m ih=>
  intro o sum H n h1 h2 h3 h4 h5 h6 h7 h8 h9 h10
  exact body _ (m+1) o sum H n h1 h2 h3 h4 h5 h6 h7 h8 h10 (fun H' n' q1 q2 q3 q4=>ih (o+1) _ H' n' (by omega) (h2.keep q2 h1) (h3.keep q2 q1) (h4.keep q2 q1) (h5.keep q2 q1) (fun q hq=>by
   by_cases c:q=o
   ·subst c; exact q4
   ·exact h6 q (by omega)) rfl (by omega) (by omega) (fun H2 n2 z1 z2=>h10 H2 n2 (by omega) (q2.trans z2 q1)))
theorem isSpread_loop1(l k:Nat){np nj nk:Nat}{ps js ks ls:List Int}(good:Good np nj nk ps js ks)(hok:nQ js ks ls nj np nk)(g0:Nat)(x y z w v:Value)(rw_:Nat→Value)(R:Nat→List Int) :
  ∀(m p:Nat) (H:Hp) (n:Nat),g0<n→aW H g0 0 [x,y,z]→GroveI H n (.agg ⟨[x,y,z]⟩) np nj nk ps js ks→ListR H n w np ls→SpreadJ H n v np rw_ R→p≤np→np-p+9≤m →
  ∃ r,Ret (S33_1 (cal (l+2)) k m w v (.pointer (some ⟨g0,0,none⟩)) (.int .i64 p) H n) n H (.bool r)∧(r=true↔∀ q,p≤q→q<np→wx js ks nj np q (ls.getD q 0) (R q)):=by
 have np8:=good.np8
 have body:∀(b1:Value→Value→Value→Value→Hp→Nat→Res) (m p:Nat) (H:Hp) (n:Nat),g0<n→aW H g0 0 [x,y,z]→GroveI H n (.agg ⟨[x,y,z]⟩) np nj nk ps js ks→ListR H n w np ls→SpreadJ H n v np rw_ R→p≤np→9≤m →
   (∀ H' n',n≤n'→Keep n H H'→p<np→∃ r,Ret (b1 w v (.pointer (some ⟨g0,0,none⟩)) (.int .i64 ((p+1:Nat):Int)) H' n') n' H' (.bool r)∧(r=true↔∀ q,p+1≤q→q<np→wx js ks nj np q (ls.getD q 0) (R q))) →
   ∃ r,Ret (C33_1 (cal (l+2)) k m b1 w v (.pointer (some ⟨g0,0,none⟩)) (.int .i64 p) H n) n H (.bool r)∧(r=true↔∀ q,p≤q→q<np→wx js ks nj np q (ls.getD q 0) (R q)):=by
  intro b1 m p H n hg0 hb hg hw hv hp hm ih
  unfold C33_1 B33_1
  generalize hS:S33_3 (cal (l+2)) k m b1 m=S3
  rw[hw.len_eq,aj,ax cJ,gw]
  by_cases hlt:p<np
  ·have hI:I64 ((p:Int)+1):=by unfold I64; omega
   have hcast:((p:Int)+1)=((p+1:Nat):Int):=by omega
   obtain⟨rb,ro,hix,_,hld⟩:=hw.at_ hlt
   obtain⟨sb,so,s1,_,s3⟩:=hv.at_ hlt
   have hrow:=hv.2 p hlt
   have step:∀(c:Prop),(wx js ks nj np p (ls.getD p 0) (R p)↔c)→∀ r:Bool,(r=true↔c∧∀ q,p+1≤q→q<np→wx js ks nj np q (ls.getD q 0) (R q))→(r=true↔∀ q,p≤q→q<np→wx js ks nj np q (ls.getD q 0) (R q)):=by
    intro c hc r hr
    refine hr.trans ⟨fun h q q1 q2=>?_,fun h=>⟨hc.1 (h p (Nat.le_refl _) hlt),fun q q1 q2=>h q (by omega) q2⟩⟩
    rcases Nat.eq_or_lt_of_le q1 with e | e
    ·subst e; exact hc.2 h.1
    ·exact h.2 q e q2
   rw[if_pos (by omega),hix,aj,ak,aj,hld,aj,ax cJ,gw]
   by_cases hneg:ls.getD p 0<0
   ·have hro:wx js ks nj np p (ls.getD p 0) (R p)↔(R p).length=0:=by unfold wx; rw[if_pos hneg]
    rw[if_pos hneg,s1,aj,ak,aj,s3,aj,hrow.len_eq,aj,ax iV]
    cases hd:decide (((R p).length:Int)=0) with
    | false=>
     rw[Bool.not_false,fX]
     exact⟨false,⟨H,n,rfl,Nat.le_refl _,Keep.refl _ _⟩,step _ hro false ⟨fun h=>(by cases h),fun h=>absurd (by omega) (of_decide_eq_false hd)⟩⟩
    | true=>
     have:=of_decide_eq_true hd
     rw[Bool.not_true,ez]
     unfold C33_2 B33_2
     rw[ax (bk hI),hcast]
     obtain⟨r,q1,q2⟩:=ih H n (Nat.le_refl _) (Keep.refl _ _) hlt
     exact⟨r,q1,step _ hro r (q2.trans ⟨fun h=>⟨by omega,h⟩,fun h=>h.2⟩)⟩
   ·obtain⟨kd,hkd⟩:∃ kd:Nat,ls.getD p 0=kd:=⟨(ls.getD p 0).toNat,by omega⟩
    have hk:kd<nk:=by
     rcases hok p hlt with q | ⟨_,q,_⟩
     ·omega
     ·omega
    have hro:wx js ks nj np p (ls.getD p 0) (R p)↔(R p).length=np∧(∀ o:Nat,o<np→(cq js ks nj kd p o).1≤(R p).getD o 0∧(R p).getD o 0≤(cq js ks nj kd p o).2)∧ay (fun o=>(R p).getD o 0) np=ks.getD (kd * 5) 0:=by
     unfold wx
     rw[if_neg hneg,hkd,Int.toNat_natCast]
    rw[if_neg hneg,s1,aj,ak,aj,s3,aj,hrow.len_eq,aj,aj,ax iV]
    cases hd:decide (((R p).length:Int)=(np:Int)) with
    | false=>
     rw[Bool.not_false,fX]
     exact⟨false,⟨H,n,rfl,Nat.le_refl _,Keep.refl _ _⟩,step _ hro false ⟨fun h=>(by cases h),fun h=>absurd (by omega) (of_decide_eq_false hd)⟩⟩
    | true=>
     have hl:=of_decide_eq_true hd
     rw[Bool.not_true,ez,← hS]
     obtain⟨r,q1,q2⟩:=isSpread_loop3 l k m good g0 x y z w v rw_ R b1 (∀ q,p+1≤q→q<np→wx js ks nj np q (ls.getD q 0) (R q)) hlt hkd hk (by omega) m 0 0 H n hg0 hb hg hw hv (fun q h=>absurd h (by omega)) rfl (by omega) (by omega) (fun H' n' z1 z2=>ih H' n' z1 z2 hlt)
     exact⟨r,q1,step _ hro r (q2.trans ⟨fun h=>⟨⟨by omega,fun o ho=>h.1.1 o (Nat.zero_le _) ho,h.1.2⟩,h.2⟩,fun h=>⟨⟨fun o _ ho=>h.1.2.1 o ho,h.1.2.2⟩,h.2⟩⟩)⟩
  ·rw[if_neg (by omega)]
   exact⟨true,⟨H,n,rfl,Nat.le_refl _,Keep.refl _ _⟩,⟨fun _ q q1 q2=>by omega,fun _=>rfl⟩⟩
 intro m
 induction m with
 | zero=>intro p H n h1 h2 h3 h4 h5 h6 h7; omega
 | succ m ih=>
  intro p H n h1 h2 h3 h4 h5 h6 h7
  exact body _ (m+1) p H n h1 h2 h3 h4 h5 h6 (by omega) (fun H' n' q1 q2 q3=>ih (p+1) H' n' (by omega) (h2.keep q2 h1) (h3.keep q2 q1) (h4.keep q2 q1) (h5.keep q2 q1) (by omega) (by omega))
theorem fq.nil{H:Hp}{n len:Nat}{v:Value}{rw_:Nat→Value}{R:Nat→List Int}(h:fq H n v len rw_ R)(hp:bw v=true):len=0:=by
 rcases h.1 with⟨_,rfl⟩ | ⟨b,o,cap,rfl,_⟩
 ·rfl
 ·simp [bw] at hp
theorem call33(l:Nat)(a b c:Value)(H:Hp)(n:Nat):(cal (l+1)).call 33 [a,b,c] H n=C33_0 (cal l) KK a b c H n:=by kernel_rfl
theorem isSpread_callJ(l:Nat){np nj nk nv:Nat}{ps js ks ls:List Int}(good:Good np nj nk ps js ks)(hok:nQ js ks ls nj np nk){H:Hp}{n:Nat}{g w v:Value}{rw_:Nat→Value}{R:Nat→List Int}(hg:GroveI H n g np nj nk ps js ks)(hw:ListR H n w np ls)(hv:SpreadJ H n v nv rw_ R) :
  ∃(r:Bool) (H':Hp) (n':Nat),(r=true↔nv=np∧∀ q,q<np→wx js ks nj np q (ls.getD q 0) (R q))∧(∀ k:Value→Hp→Nat→Option ρ,aX P (cal (l+3)) 33 [g,w,v] H n k=k (.bool r) H' n')∧n≤n'∧Keep n H H':=by
 obtain⟨r,H',n',⟨b,rfl,hb⟩,e1,e2,e3⟩:=eZ (ρ:=ρ) (P:=P) (cal:=cal (l+3)) (f:=33) (args:=[g,w,v]) (H:=H) (n:=n)
  (Pre:=fun H n=>GroveI H n g np nj nk ps js ks∧ListR H n w np ls∧SpreadJ H n v nv rw_ R) (Q:=fun r=>∃ b:Bool,r=.bool b∧(b=true↔nv=np∧∀ q,q<np→wx js ks nj np q (ls.getD q 0) (R q)))
  (fun H n ⟨hg,hw,hv⟩=>by
   have hg0:=hg
   obtain⟨x,y,z,rfl,_⟩:=hg.eq
   rw[call33]
   unfold C33_0 B33_0
   generalize hS:S33_1 (cal (l+2)) KK KK=S1
   rw[dZ]
   simp only[aZ,ptr]
   have hk:Keep n H (H.set n (some (.cells [x,y,z] 26 false none))):=(Keep.refl n H).set (Nat.le_refl _) _
   rw[hv.len_eq,aj,hw.len_eq,aj,ax iV]
   cases hd:decide ((nv:Int)=(np:Int)) with
   | false=>
    rw[Bool.not_false,fX]
    exact⟨.bool false,⟨_,_,rfl,by omega,hk⟩,false,rfl,⟨fun h=>(by cases h),fun h=>absurd (by omega) (of_decide_eq_false hd)⟩⟩
   | true=>
    have e:nv=np:=by have:=of_decide_eq_true hd; omega
    subst e
    rw[Bool.not_true,ez,← hS]
    obtain⟨r,⟨H',n',e1,e2,e3⟩,e4⟩:=isSpread_loop1 l KK good hok n x y z w v rw_ R KK 0 (H.set n (some (.cells [x,y,z] 26 false none))) (n+1) (by omega) aW.new (hg0.keep hk (by omega)) (hw.keep hk (by omega)) (hv.keep hk (by omega)) (by omega) (by have:=good.np8; unfold KK; omega)
    exact⟨.bool r,⟨H',n',e1,by omega,hk.trans e3 (by omega)⟩,r,rfl,e4.trans ⟨fun h=>⟨rfl,fun q hq=>h q (Nat.zero_le _) hq⟩,fun h q _ hq=>h.2 q hq⟩⟩)
  (fun r ⟨b,e,_⟩ _=>by subst e; rfl) ⟨hg,hw,hv⟩ (fun hp=>by
    simp only[ck,Bool.and_eq_true] at hp
    have h0:=hv.nil hp.2.2.1
    subst h0
    refine⟨hg.nil hp.1,hw.nil hp.2.1,?_,fun p h=>absurd h (by omega)⟩
    rcases hv.1 with⟨e,_⟩ | ⟨b,o,cap,e,_⟩
    ·exact .inl ⟨e,rfl⟩
    ·rw[e] at hp; simp [bw] at hp)
 exact⟨b,H',n',hb,e1,e2,e3⟩
theorem young_loop(c:Cal)(k:Nat){np pad:Nat}{H:Hp}{n:Nat}{v:Value}{rw_:Nat→Value}{R:Nat→List Int}(hv:SpreadJ H n v np rw_ R)(hnp:np≤1000)(hR:∀ p,p<np→(R p).length=0∨(pad<(R p).length∧0≤(R p).getD pad 0∧(R p).getD pad 0≤1000000)):∀(m i:Nat),i≤np→np-i≤m →
  S34_1 c k m v (.int .i64 pad) (.int .i64 (ay (fun p=>(R p).getD pad 0) i)) (.int .i64 i) H n=some (.int .i64 (ay (fun p=>(R p).getD pad 0) np),H,n):=by
 have small:∀ i,i≤np→0≤ay (fun p=>(R p).getD pad 0) i∧ay (fun p=>(R p).getD pad 0) i≤1000000 * i:=fun i hi=>CV (c:=1000000) fun p hp=>by
  rcases hR p (by omega) with h | h
  ·have:R p=[]:=List.length_eq_zero_iff.1 h
   rw[this]
   simp
  ·exact h.2
 have body:∀(b1:Value→Value→Value→Value→Hp→Nat→Res) (m i:Nat),i≤np→(i<np→b1 v (.int .i64 pad) (.int .i64 (ay (fun p=>(R p).getD pad 0) (i+1))) (.int .i64 ((i+1:Nat):Int)) H n=some (.int .i64 (ay (fun p=>(R p).getD pad 0) np),H,n)) →
   C34_1 c k m b1 v (.int .i64 pad) (.int .i64 (ay (fun p=>(R p).getD pad 0) i)) (.int .i64 i) H n=some (.int .i64 (ay (fun p=>(R p).getD pad 0) np),H,n):=by
  intro b1 m i hi ih
  unfold C34_1 B34_1
  rw[hv.len_eq,aj,ax cJ,gw]
  by_cases hlt:i<np
  ·have hI:I64 ((i:Int)+1):=by unfold I64; omega
   have hcast:((i:Int)+1)=((i+1:Nat):Int):=by omega
   obtain⟨sb,so,s1,_,s3⟩:=hv.at_ hlt
   have hrow:=hv.2 i hlt
   have hs:=small i hi
   have hs1:=small (i+1) (by omega)
   have hn:ay (fun p=>(R p).getD pad 0) (i+1)=ay (fun p=>(R p).getD pad 0) i+(R i).getD pad 0:=rfl
   rw[if_pos (by omega),s1,aj,ak,aj,s3,aj,hrow.len_eq,aj,ax wX,gw]
   rcases hR i hlt with h | ⟨h,h2,h3⟩
   ·have hnil:R i=[]:=List.length_eq_zero_iff.1 h
    rw[if_neg (by omega)]
    unfold C34_2 B34_2
    rw[ax (bk hI),hcast]
    have:=ih hlt
    rw[hn,show(R i).getD pad 0=0 by rw[hnil]; simp,Int.add_zero] at this
    exact this
   ·obtain⟨tb,to_,t1,_,t3⟩:=hrow.at_ h
    rw[if_pos (by omega),aj,ak,aj,s3,aj,t1,aj,ak,aj,t3,aj,ax (bk (by unfold I64; omega))]
    unfold C34_2 B34_2
    rw[ax (bk hI),hcast]
    have:=ih hlt
    rw[hn] at this
    exact this
  ·have:i=np:=by omega
   subst this
   rw[if_neg (by omega)]
 intro m
 induction m with
 | zero=>intro i h1 h2; exact body _ 0 i h1 (fun h=>by omega)
 | succ m ih=>intro i h1 h2; exact body _ (m+1) i h1 (fun h=>ih (i+1) (by omega) (by omega))
theorem call34(l:Nat)(a b:Value)(H:Hp)(n:Nat):(cal (l+1)).call 34 [a,b] H n=C34_0 (cal l) KK a b H n:=by kernel_rfl
theorem young_callJ(l:Nat){np pad:Nat}{H:Hp}{n:Nat}{v:Value}{rw_:Nat→Value}{R:Nat→List Int}(hv:SpreadJ H n v np rw_ R)(hnp:np≤1000)(hR:∀ p,p<np→(R p).length=0∨(pad<(R p).length∧0≤(R p).getD pad 0∧(R p).getD pad 0≤1000000)) :
  ∃ H' n',(∀ k:Value→Hp→Nat→Option ρ,aX P (cal (l+1)) 34 [v,.int .i64 pad] H n k=k (.int .i64 (ay (fun p=>(R p).getD pad 0) np)) H' n')∧n≤n'∧Keep n H H':=by
 obtain⟨r,H',n',rfl,e1,e2,e3⟩:=eZ (ρ:=ρ) (P:=P) (cal:=cal (l+1)) (f:=34) (args:=[v,.int .i64 pad]) (H:=H) (n:=n)
  (Pre:=fun H n=>SpreadJ H n v np rw_ R) (Q:=fun r=>r=.int .i64 (ay (fun p=>(R p).getD pad 0) np))
  (fun H n hv=>⟨_,⟨H,n,by
   rw[call34]
   unfold C34_0 B34_0
   exact young_loop (cal l) KK hv hnp hR KK 0 (by omega) (by unfold KK; omega),Nat.le_refl _,Keep.refl _ _⟩,rfl⟩) (fun r e _=>by subst e; rfl) hv (fun hp=>by
    simp only[ck,Bool.and_eq_true] at hp
    have h0:=hv.nil hp.1
    subst h0
    refine⟨?_,fun p h=>absurd h (by omega)⟩
    rcases hv.1 with⟨e,_⟩ | ⟨b,o,cap,e,_⟩
    ·exact .inl ⟨e,rfl⟩
    ·rw[e] at hp; simp [bw] at hp)
 exact⟨H',n',e1,e2,e3⟩
def wy(js ks L:List Int)(nj np:Nat)(R:Nat→List Int)(p:Nat):Prop:=if L.getD p 0=-1 then(R p).length=0 else byP (ks.getD ((L.getD p 0).toNat * 5) 0) (shP js ks nj np p (L.getD p 0).toNat) (R p) (R p).length np
theorem spreads_loop(l k:Nat){g b np nj nk:Nat}{f:Nat→Value}{x y z v:Value}{ps js ks L:List Int}{rw_:Nat→Value}{R:Nat→List Int}(hs:SiteF f x y z js nj)(hn:∀ p kd,p<np→kd<nk→xx f js ks nj np p kd)(hks:tx ks nk)(hnp:np≤8)(hnk:nk≤3)(hL:L.length=8)(hK:zw L np nk) :
  ∀(m i:Nat) (H:Hp) (n:Nat),g<n→b<n→cZ H g 859 115 f→eK H n 2 x np ps→H.get b=some (.cells (ints L) 119 false none)→fq H n v np rw_ R→i≤np→np-i≤m →
  ∃ r:Bool,Ret (S79_1 (cal (l+2)) k m (.pointer (some ⟨g,0,none⟩)) v (.slice (some ⟨b,0,none⟩) np 8) (.int .i64 np) (.int .i64 i) H n) n H (.bool r)∧(r=true↔∀ p,i≤p→p<np→wy js ks L nj np R p):=by
 have body:∀(b1:Value→Value→Value→Value→Value→Hp→Nat→Res) (m i:Nat) (H:Hp) (n:Nat),g<n→b<n→cZ H g 859 115 f→eK H n 2 x np ps→H.get b=some (.cells (ints L) 119 false none)→fq H n v np rw_ R→i≤np →
   (∀ H' n',n≤n'→Keep n H H'→i<np→∃ r:Bool,Ret (b1 (.pointer (some ⟨g,0,none⟩)) v (.slice (some ⟨b,0,none⟩) np 8) (.int .i64 np) (.int .i64 ((i+1:Nat):Int)) H' n') n' H' (.bool r)∧(r=true↔∀ p,i+1≤p→p<np→wy js ks L nj np R p)) →
   ∃ r:Bool,Ret (C79_1 (cal (l+2)) k m b1 (.pointer (some ⟨g,0,none⟩)) v (.slice (some ⟨b,0,none⟩) np 8) (.int .i64 np) (.int .i64 i) H n) n H (.bool r)∧(r=true↔∀ p,i≤p→p<np→wy js ks L nj np R p):=by
  intro b1 m i H n hgn hbn hf hx hb hv hi ih
  unfold C79_1 B79_1
  rw[ax cJ,gw]
  by_cases hlt:i<np
  ·have hI:I64 ((i:Int)+1):=by unfold I64; omega
   have hcast:((i:Int)+1)=((i+1:Nat):Int):=by omega
   have hLi:az P H 3 ⟨b,0+i * 1,none⟩=some (.int .i64 (L.getD i 0)):=by
    have:=bj (o:=0) (k:=i) (P:=P) (dv hb) agg3 (gQ (getD_some (by omega)))
    rw[show 0+i * 1=0+i by omega]
    exact this
   obtain⟨c,o,a1,_,a3⟩:=hv.at_ hlt
   have hrow:=hv.2 i hlt
   have split:∀(r:Bool),(r=true↔∀ p,i+1≤p→p<np→wy js ks L nj np R p)→wy js ks L nj np R i→(r=true↔∀ p,i≤p→p<np→wy js ks L nj np R p):=fun r h h0=>h.trans ⟨fun q p q1 q2=>by
    rcases Nat.eq_or_lt_of_le q1 with e | e
    ·subst e; exact h0
    ·exact q p e q2,fun q p q1 q2=>q p (by omega) q2⟩
   rw[if_pos (by omega),at44L b np 8 hlt,aj,ak,aj,hLi,aj,ax jY]
   rcases hK i (by omega) with h | ⟨hip,kd,hkd,h⟩
   ·have d1:decide ((-1:Int)=-1)=true:=rfl
    rw[h,d1]
    have el:lenV P 44 (rw_ i)=some (.int .i64 ((R i).length:Nat)):=hrow.len_eq
    simp only[dk,a1,aj,ak,a3,el,ax wX,dw]
    cases hz:decide ((0:Int)<((R i).length:Nat)) with
    | true=>
     have:=of_decide_eq_true hz
     rw[fX]
     refine⟨false,⟨H,n,rfl,Nat.le_refl _,Keep.refl _ _⟩,⟨fun h=>(by cases h),fun q=>?_⟩⟩
     have:=q i (Nat.le_refl _) hlt
     unfold wy at this
     rw[if_pos h] at this
     omega
    | false=>
     have:=of_decide_eq_false hz
     rw[ez,ax iV,d1]
     simp only[Bool.not_true,XY,dQ,aj,ez,ax (bk hI),hcast]
     obtain⟨r,r1,r2⟩:=ih H n (Nat.le_refl _) (Keep.refl _ _) hlt
     exact⟨r,r1,split r r2 (by unfold wy; rw[if_pos h]; omega)⟩
   ·have hne:¬ L.getD i 0=-1:=by omega
    have d1:decide (L.getD i 0=-1)=false:=decide_eq_false hne
    obtain⟨B,hB,hld⟩:=XZ hf (hn i kd hip hkd) (by omega) (by omega)
    have lx:az P H 31 ⟨g,0+0+0,none⟩=some x:=by
     have:=hf.load (P:=P) (k:=0) Fv (by omega)
     rw[hs.x] at this; exact this
    have hlx:lenV P 31 x=some (.int .i64 np):=hx.len_eq Fx
    obtain⟨y1,_,_⟩:=hks kd hkd
    have hsb:=CX (js:=js) (nj:=nj) hks hkd hnp hip
    obtain⟨r,H1,n1,r0,r1,r2,r3⟩:=spreadBy_call (ρ:=Value × Hp × Nat) l (Vv ..) hB.1 hsb y1 hnp hrow
    rw[d1]
    simp only[eJ,aj,dQ,ez]
    rw[ax iV,d1,Bool.not_false,h]
    simp only[XX,oX,aj,qex,at115 _ _ (show i<8 by omega),at114 _ _ (show kd<3 by omega),ak,hld,a1,a3,tw,vV,lx,hlx,r1]
    have hpad:r=true↔wy js ks L nj np R i:=by
     unfold wy
     rw[if_neg hne,h,Int.toNat_natCast]
     exact r0
    cases r with
    | false=>
     simp only[tv,aj,dw,fX]
     exact⟨false,⟨H1,n1,rfl,r2,r3⟩,⟨fun h=>(by cases h),fun q=>absurd (hpad.2 (q i (Nat.le_refl _) hlt)) (by simp)⟩⟩
    | true=>
     simp only[qK,aj,dw,ez,ax (bk hI),hcast]
     obtain⟨s,⟨H2,n2,s1,s2,s3⟩,s4⟩:=ih H1 n1 r2 r3 hlt
     exact⟨s,⟨H2,n2,s1,by omega,r3.trans s3 r2⟩,split s s4 (hpad.1 rfl)⟩
  ·rw[if_neg (by omega)]
   exact⟨true,⟨H,n,rfl,Nat.le_refl _,Keep.refl _ _⟩,⟨fun _ p h1 h2=>by omega,fun _=>rfl⟩⟩
 intro m
 induction m with
 | zero=>intro i H n h1 h2 h3 h4 h5 h6 h7 h8; exact body _ 0 i H n h1 h2 h3 h4 h5 h6 h7 (fun _ _ _ _ h=>by omega)
 | succ m ih=>intro i H n h1 h2 h3 h4 h5 h6 h7 h8; exact body _ (m+1) i H n h1 h2 h3 h4 h5 h6 h7 (fun H' n' q1 q2 _=>ih (i+1) H' n' (by omega) (by omega) (h3.keep q2 h1) ((h4.keep q2 (Nat.le_refl _)).up q1) ((q2 b h2).trans h5) (h6.keep q2 q1) (by omega) (by omega))
theorem spreads_spec(l:Nat){g np nj nk nv:Nat}{f:Nat→Value}{x y z v:Value}{ps js ks L:List Int}{rw_:Nat→Value}{R:Nat→List Int}{H:Hp}{n:Nat}(hg:g<n)(hf:cZ H g 859 115 f)(hs:SiteF f x y z js nj)(hn:∀ p kd,p<np→kd<nk→xx f js ks nj np p kd)(hks:tx ks nk)(hx:eK H n 2 x np ps)(hnp:np≤8)(hnk:nk≤3)(hL:L.length=8)(hK:zw L np nk)(hv:fq H n v nv rw_ R) :
  ∃ r:Bool,Ret (C79_0 (cal (l+2)) KK (.pointer (some ⟨g,0,none⟩)) (.agg ⟨ints L⟩) v H n) n H (.bool r)∧(r=true↔nv=np∧∀ p,p<np→wy js ks L nj np R p):=by
 have lens:(ints L).length=8:=by rw[bv,hL]
 unfold C79_0 B79_0
 generalize hS:S79_1 (cal (l+2)) KK KK=S
 rw[dZ]
 simp only[aZ,ptr]
 have hk:Keep n H (H.set n (some (.cells (ints L) 119 false none))):=(Keep.refl n H).set (Nat.le_refl _) _
 have hb:(H.set n (some (.cells (ints L) 119 false none))).get n=some (.cells (ints L) 119 false none):=by rw[Tr.get_set,if_pos rfl]
 generalize H.set n (some (.cells (ints L) 119 false none))=H1 at hk hb ⊢
 have f1:=hf.keep hk hg
 have lx:az P H1 31 ⟨g,0+0+0,none⟩=some x:=by
  have:=f1.load (P:=P) (k:=0) Fv (by omega)
  rw[hs.x] at this; exact this
 have hlx:lenV P 31 x=some (.int .i64 np):=hx.len_eq Fx
 have hls:lenV P 44 (.slice (some ⟨n,0,none⟩) np 8)=some (.int .i64 np):=by unfold lenV; simp only[und44]; rfl
 rw[hv.len_eq,aj,oX,aj,tw,aj,vV,aj,ak,aj,lx,aj,hlx,aj,ax iV]
 by_cases hne:nv=np
 ·subst hne
  have dm:decide ((nv:Int)=(nv:Int))=true:=decide_eq_true rfl
  rw[dm,Bool.not_true,ez,aj,tw,aj,vV,aj,ak,aj,lx,aj,hlx,aj,slice121h n hnp,aj,hls,aj,← hS]
  obtain⟨r,⟨H',n',r1,r2,r3⟩,r4⟩:=spreads_loop l KK hs hn hks hnp hnk hL hK KK 0 H1 (n+1) (by omega) (Nat.lt_succ_self n) f1 ((hx.keep hk (Nat.le_refl _)).up (by omega)) hb (hv.keep hk (by omega)) (Nat.zero_le _) (by unfold KK; omega)
  exact⟨r,⟨H',n',r1,by omega,hk.trans r3 (by omega)⟩,r4.trans ⟨fun h=>⟨rfl,fun p hp=>h p (Nat.zero_le _) hp⟩,fun h p _ hp=>h.2 p hp⟩⟩
 ·rw[decide_eq_false (by omega),Bool.not_false,fX]
  exact⟨false,⟨H1,n+1,rfl,by omega,hk⟩,⟨fun h=>(by cases h),fun h=>absurd h.1 hne⟩⟩
theorem call79(l:Nat)(a b c:Value)(H:Hp)(n:Nat):(cal (l+1)).call 79 [a,b,c] H n=C79_0 (cal l) KK a b c H n:=by kernel_rfl
theorem spreads_call(l:Nat){g np nj nk nv:Nat}{f:Nat→Value}{x y z v:Value}{ps js ks L:List Int}{rw_:Nat→Value}{R:Nat→List Int}{H:Hp}{n:Nat}(hg:g<n)(hf:cZ H g 859 115 f)(hs:SiteF f x y z js nj)(hn:∀ p kd,p<np→kd<nk→xx f js ks nj np p kd)(hks:tx ks nk)(hx:eK H n 2 x np ps)(hnp:np≤8)(hnk:nk≤3)(hL:L.length=8)(hK:zw L np nk)(hv:fq H n v nv rw_ R) :
  ∃(r:Bool) (H':Hp) (n':Nat),(r=true↔nv=np∧∀ p,p<np→wy js ks L nj np R p)∧(∀ k:Value→Hp→Nat→Option ρ,aX P (cal (l+3)) 79 [.pointer (some ⟨g,0,none⟩),.agg ⟨ints L⟩,v] H n k=k (.bool r) H' n')∧n≤n'∧Keep n H H':=by
 obtain⟨r,⟨H',n',e1,e2,e3⟩,e4⟩:=spreads_spec l hg hf hs hn hks hx hnp hnk hL hK hv
 refine⟨r,H',n',e4,fun k=>?_,e2,e3⟩
 unfold aX
 have:(iY P 79 && ck [.pointer (some ⟨g,0,none⟩),.agg ⟨ints L⟩,v])=false:=by rw[Bool.and_eq_false_iff]; exact .inr rfl
 rw[this,call79,e1]
 rfl
theorem good_row(c:Cal)(k m1:Nat)(b1:Value→Value→Value→Value→Value→Hp→Nat→Res){b n0 len i:Nat}{u0 u12 u13 row:Value}{xs:List Int}{Y:Nat→Int}{n:Nat}{Goal:Res→Prop}(hlen:len≤8)(hY:∀ q,0≤Y q∧Y q≤10000)(hxs:∀ q,q<len→0≤xs.getD q 0∧xs.getD q 0≤1000)(hi:i≤1000)(hb0:n0≤b){H0:Hp}(hrow:ListR H0 n0 row len xs)
  (cont:∀(Z:List Int) (H:Hp),H.get b=some (.cells (ints Z) 118 false none)→Z.length=8→(∀ q,q<8→Z.getD q 0=Y q+(if q<len then xs.getD q 0 else 0))→(∀ q,q≠b→H.get q=H0.get q)→Goal (b1 u0 (.pointer (some ⟨b,0,none⟩)) u12 u13 (.int .i64 ((i+1:Nat):Int)) H n)) :
  ∀(m o:Nat) (Z:List Int) (H:Hp),H.get b=some (.cells (ints Z) 118 false none)→Z.length=8→(∀ q,q<8→Z.getD q 0=Y q+(if q<o then xs.getD q 0 else 0))→(∀ q,q≠b→H.get q=H0.get q)→o≤len→len-o≤m →
  Goal (S80_2 c k m1 b1 m u0 (.pointer (some ⟨b,0,none⟩)) u12 u13 (.int .i64 i) row (.int .i64 len) (.int .i64 o) H n):=by
 have body:∀(b2:Value→Value→Value→Value→Value→Value→Value→Value→Hp→Nat→Res) (m o:Nat) (Z:List Int) (H:Hp),H.get b=some (.cells (ints Z) 118 false none)→Z.length=8→(∀ q,q<8→Z.getD q 0=Y q+(if q<o then xs.getD q 0 else 0))→(∀ q,q≠b→H.get q=H0.get q)→o≤len →
   (∀(Z:List Int) (H:Hp),H.get b=some (.cells (ints Z) 118 false none)→Z.length=8→(∀ q,q<8→Z.getD q 0=Y q+(if q<o+1 then xs.getD q 0 else 0))→(∀ q,q≠b→H.get q=H0.get q)→o<len→Goal (b2 u0 (.pointer (some ⟨b,0,none⟩)) u12 u13 (.int .i64 i) row (.int .i64 len) (.int .i64 ((o+1:Nat):Int)) H n)) →
   Goal (C80_2 c k m1 m b1 b2 u0 (.pointer (some ⟨b,0,none⟩)) u12 u13 (.int .i64 i) row (.int .i64 len) (.int .i64 o) H n):=by
  intro b2 m o Z H hg hZ hq hk ho ih
  have hI:I64 ((i:Int)+1):=by unfold I64; omega
  have hcast:((i:Int)+1)=((i+1:Nat):Int):=by omega
  unfold C80_2 B80_2
  rw[ax cJ,gw]
  by_cases hlt:o<len
  ·have hI2:I64 ((o:Int)+1):=by unfold I64; omega
   have hc2:((o:Int)+1)=((o+1:Nat):Int):=by omega
   obtain⟨rb,ro,a1,_,a3⟩:=(hrow.keep (H':=H) (fun q hq'=>hk q (by omega)) (Nat.le_refl _)).at_ hlt
   have lz:az P H 3 ⟨b,0+o * 1,none⟩=some (.int .i64 (Z.getD o 0)):=by
    have:=bj (o:=0) (k:=o) (P:=P) (dv hg) agg3 (gQ (getD_some (by omega)))
    rw[show 0+o * 1=0+o by omega]
    exact this
   have hZo:Z.getD o 0=Y o:=by rw[hq o (by omega),if_neg (by omega),Int.add_zero]
   have y1:=hY o
   have x1:=hxs o hlt
   have hI3:I64 (Z.getD o 0+xs.getD o 0):=by rw[hZo]; unfold I64; omega
   have hst:bX P 3 (.pointer (some ⟨b,0+o * 1,none⟩)) (.int .i64 (Z.getD o 0+xs.getD o 0)) H=some (H.set b (some (.cells (ints (Z.set o (Z.getD o 0+xs.getD o 0))) 118 false none))):=by
    rw[store3,show 0+o * 1=o by omega]
    exact store_one hg (by omega)
   rw[if_pos (by omega),a1,aj,ak,aj,a3,aj,at120 b (show o<8 by omega),aj,ak,aj,lz,aj,ax (bk hI3),aj,hst,aj,ax (bk hI2),hc2]
   refine ih (Z.set o (Z.getD o 0+xs.getD o 0)) _ (by rw[Tr.get_set,if_pos rfl]) (by simp [hZ]) (fun q hq8=>?_) (fun q hqb=>by rw[Tr.get_set,if_neg hqb]; exact hk q hqb) hlt
   by_cases e:q=o
   ·subst e
    rw[getD_set_same (by omega),hZo,if_pos (by omega)]
   ·rw[getD_set_ne e,hq q hq8]
    by_cases d:q<o
    ·rw[if_pos d,if_pos (by omega)]
    ·rw[if_neg d,if_neg (by omega)]
  ·have:o=len:=by omega
   subst this
   rw[if_neg (by omega),ax (bk hI),hcast]
   exact cont Z H hg hZ hq hk
 intro m
 induction m with
 | zero=>intro o Z H h1 h2 h3 h4 h5 h6; exact body _ 0 o Z H h1 h2 h3 h4 h5 (fun _ _ _ _ _ _ h=>by omega)
 | succ m ih=>intro o Z H h1 h2 h3 h4 h5 h6; exact body _ (m+1) o Z H h1 h2 h3 h4 h5 (fun Z H q1 q2 q3 q4 _=>ih (o+1) Z H q1 q2 q3 q4 (by omega) (by omega))
theorem good_pads(c:Cal)(k:Nat){b np:Nat}{x:Value}{ps:List Int}{Z:List Int}(hZ:Z.length=8)(hnp:np≤8):∀(m i:Nat) (H:Hp) (n:Nat),b<n→H.get b=some (.cells (ints Z) 118 false none)→eK H n 2 x np ps→i≤np→np-i≤m →
  ∃ r:Bool,Ret (S80_3 c k m (.pointer (some ⟨b,0,none⟩)) x (.int .i64 np) (.int .i64 i) H n) n H (.bool r)∧(r=true↔∀ p,i≤p→p<np→ps.getD (p * 2) 0≤Z.getD p 0∧Z.getD p 0≤ps.getD (p * 2+1) 0):=by
 have body:∀(b3:Value→Value→Value→Value→Hp→Nat→Res) (m i:Nat) (H:Hp) (n:Nat),b<n→H.get b=some (.cells (ints Z) 118 false none)→eK H n 2 x np ps→i≤np →
   (∀ H' n',n≤n'→Keep n H H'→i<np→∃ r:Bool,Ret (b3 (.pointer (some ⟨b,0,none⟩)) x (.int .i64 np) (.int .i64 ((i+1:Nat):Int)) H' n') n' H' (.bool r)∧(r=true↔∀ p,i+1≤p→p<np→ps.getD (p * 2) 0≤Z.getD p 0∧Z.getD p 0≤ps.getD (p * 2+1) 0)) →
   ∃ r:Bool,Ret (C80_3 c k m b3 (.pointer (some ⟨b,0,none⟩)) x (.int .i64 np) (.int .i64 i) H n) n H (.bool r)∧(r=true↔∀ p,i≤p→p<np→ps.getD (p * 2) 0≤Z.getD p 0∧Z.getD p 0≤ps.getD (p * 2+1) 0):=by
  intro b3 m i H n hbn hg hx hi ih
  unfold C80_3 B80_3
  rw[ax cJ,gw]
  by_cases hlt:i<np
  ·have hI:I64 ((i:Int)+1):=by unfold I64; omega
   have hcast:((i:Int)+1)=((i+1:Nat):Int):=by omega
   obtain⟨xb,xo,a1,a2,a3⟩:=hx.at_ Fx sz90 hlt
   have hl2:i * 2+2≤ps.length:=by rw[hx.1]; omega
   have hld:az P H 90 ⟨xb,xo+i * 2,none⟩=some (.agg ⟨[.int .i64 (ps.getD (i * 2) 0),.int .i64 (ps.getD (i * 2+1) 0)]⟩):=by
    rw[cw a3 agg90 sz90 (by rw[bv]; exact hl2) (dY _),SK hl2]
   obtain⟨H1,k1,k2,k3⟩:=vk (P:=P) (ρ:=Value × Hp × Nat) (H:=H) (n:=n) (L:=[.int .i64 (ps.getD (i * 2) 0),.int .i64 (ps.getD (i * 2+1) 0)]) zero90 rfl sz90 rfl rfl
   have l0:az P H1 3 ⟨n,0+0,none⟩=some (.int .i64 (ps.getD (i * 2) 0)):=bj (dv k2) agg3 rfl
   have l1:az P H1 3 ⟨n,0+1,none⟩=some (.int .i64 (ps.getD (i * 2+1) 0)):=bj (dv k2) agg3 rfl
   have lz:az P H1 3 ⟨b,0+i * 1,none⟩=some (.int .i64 (Z.getD i 0)):=by
    have:=bj (o:=0) (k:=i) (P:=P) (dv ((k1 b hbn).trans hg)) agg3 (gQ (getD_some (by omega)))
    rw[show 0+i * 1=0+i by omega]
    exact this
   have split:∀(r:Bool),(r=true↔∀ p,i+1≤p→p<np→ps.getD (p * 2) 0≤Z.getD p 0∧Z.getD p 0≤ps.getD (p * 2+1) 0)→(ps.getD (i * 2) 0≤Z.getD i 0∧Z.getD i 0≤ps.getD (i * 2+1) 0)→(r=true↔∀ p,i≤p→p<np→ps.getD (p * 2) 0≤Z.getD p 0∧Z.getD p 0≤ps.getD (p * 2+1) 0):=fun r h h0=>h.trans ⟨fun q p q1 q2=>by
    rcases Nat.eq_or_lt_of_le q1 with e | e
    ·subst e; exact h0
    ·exact q p e q2,fun q p q1 q2=>q p (by omega) q2⟩
   rw[if_pos (by omega),a1,aj,ak,aj,hld,aj,k3,at120 b (show i<8 by omega),aj,ak,aj,lz,aj,fa90_0,aj,ak,aj,l0,aj,ax cJ]
   cases h1:decide (Z.getD i 0<ps.getD (i * 2) 0) with
   | true=>
    have:=of_decide_eq_true h1
    simp only[guardD_tf,dw,aj,fX]
    exact⟨false,⟨H1,n+1,rfl,by omega,k1⟩,⟨fun h=>(by cases h),fun q=>absurd (q i (Nat.le_refl _) hlt).1 (by omega)⟩⟩
   | false=>
    have g1:=of_decide_eq_false h1
    simp only[guardD_ff,at120 b (show i<8 by omega),aj,ak,lz,fa90_1,l1,ax wX,dQ]
    cases h2:decide (ps.getD (i * 2+1) 0<Z.getD i 0) with
    | true=>
     have:=of_decide_eq_true h2
     rw[fX]
     exact⟨false,⟨H1,n+1,rfl,by omega,k1⟩,⟨fun h=>(by cases h),fun q=>absurd (q i (Nat.le_refl _) hlt).2 (by omega)⟩⟩
    | false=>
     have g2:=of_decide_eq_false h2
     rw[ez,ax (bk hI),hcast]
     obtain⟨r,⟨H2,n2,r1,r2,r3⟩,r4⟩:=ih H1 (n+1) (by omega) k1 hlt
     exact⟨r,⟨H2,n2,r1,by omega,k1.trans r3 (by omega)⟩,split r r4 ⟨by omega,by omega⟩⟩
  ·rw[if_neg (by omega)]
   exact⟨true,⟨H,n,rfl,Nat.le_refl _,Keep.refl _ _⟩,⟨fun _ p h1 h2=>by omega,fun _=>rfl⟩⟩
 intro m
 induction m with
 | zero=>intro i H n h1 h2 h3 h4 h5; exact body _ 0 i H n h1 h2 h3 h4 (fun _ _ _ _ h=>by omega)
 | succ m ih=>intro i H n h1 h2 h3 h4 h5; exact body _ (m+1) i H n h1 h2 h3 h4 (fun H' n' q1 q2 _=>ih (i+1) H' n' (by omega) ((q2 b h1).trans h2) ((h3.keep q2 (Nat.le_refl _)).up q1) (by omega) (by omega))
noncomputable def pw(R:Nat→List Int)(i q:Nat):Int:=ay (fun p=>(R p).getD q 0) i
def RowsOk(R:Nat→List Int)(np:Nat):Prop:=∀ p,p<np→(R p).length≤8∧∀ q,0≤(R p).getD q 0∧(R p).getD q 0≤1000
theorem youngR_range{R:Nat→List Int}{np:Nat}(h:RowsOk R np)(q:Nat):∀ {i:Nat},i≤np→0≤pw R i q∧pw R i q≤i * 1000
 | 0,_=>by simp [pw,ay]
 | i+1,hi=>by
  have ih:=youngR_range h q (i:=i) (by omega)
  have:=(h i (by omega)).2 q
  unfold pw at ih ⊢
  simp only[ay]
  omega
def GJ(ps:List Int)(R:Nat→List Int)(np:Nat):Prop:=∀ p,p<np→ps.getD (p * 2) 0≤pw R np p∧pw R np p≤ps.getD (p * 2+1) 0
theorem good_rows(c:Cal)(k:Nat){g b np nj:Nat}{f:Nat→Value}{x y z v:Value}{ps js:List Int}{rw_:Nat→Value}{R:Nat→List Int}{H0:Hp}(hs:SiteF f x y z js nj)(hf:cZ H0 g 859 115 f)(hx:eK H0 b 2 x np ps)(hv:fq H0 b v np rw_ R)(hR:RowsOk R np)(hnp:np≤8)(hg:g<b)(hkk:20≤k) :
  ∀(m i:Nat) (Z:List Int) (H:Hp) (n:Nat),b<n→H.get b=some (.cells (ints Z) 118 false none)→Z.length=8→(∀ q,q<8→Z.getD q 0=pw R i q)→Keep b H0 H→i≤np→np-i+20≤m →
  ∃ r:Bool,Ret (S80_1 c k m (.pointer (some ⟨g,0,none⟩)) (.pointer (some ⟨b,0,none⟩)) v (.int .i64 np) (.int .i64 i) H n) b H0 (.bool r)∧(r=true↔GJ ps R np):=by
 have body:∀(b1:Value→Value→Value→Value→Value→Hp→Nat→Res) (m i:Nat) (Z:List Int) (H:Hp) (n:Nat),b<n→H.get b=some (.cells (ints Z) 118 false none)→Z.length=8→(∀ q,q<8→Z.getD q 0=pw R i q)→Keep b H0 H→i≤np→20≤m →
   (∀(Z:List Int) (H':Hp),H'.get b=some (.cells (ints Z) 118 false none)→Z.length=8→(∀ q,q<8→Z.getD q 0=pw R (i+1) q)→Keep b H0 H'→i<np→∃ r:Bool,Ret (b1 (.pointer (some ⟨g,0,none⟩)) (.pointer (some ⟨b,0,none⟩)) v (.int .i64 np) (.int .i64 ((i+1:Nat):Int)) H' n) b H0 (.bool r)∧(r=true↔GJ ps R np)) →
   ∃ r:Bool,Ret (C80_1 c k m b1 (.pointer (some ⟨g,0,none⟩)) (.pointer (some ⟨b,0,none⟩)) v (.int .i64 np) (.int .i64 i) H n) b H0 (.bool r)∧(r=true↔GJ ps R np):=by
  intro b1 m i Z H n hbn hgb hZ hq hk hi hm ih
  unfold C80_1
  generalize hS2:S80_2 c k m b1 m=S2
  generalize hS3:S80_3 c k k=S3
  unfold B80_1
  rw[ax cJ,gw]
  have hvH:=hv.keep hk (Nat.le_refl _)
  by_cases hlt:i<np
  ·obtain⟨c1,o,a1,_,a3⟩:=hvH.at_ hlt
   have hrow:=hvH.2 i hlt
   obtain⟨r1,r2⟩:=hR i hlt
   have el:lenV P 44 (rw_ i)=some (.int .i64 ((R i).length:Nat)):=hrow.len_eq
   rw[if_pos (by omega),a1,aj,ak,aj,a3,aj,el,aj,← hS2]
   refine good_row c k m b1 (n0:=b) (xs:=R i) (Y:=pw R i) (Goal:=fun r=>∃ r':Bool,Ret r b H0 (.bool r')∧(r'=true↔GJ ps R np)) r1 (fun q=>?_) (fun q _=>r2 q) (by omega) (Nat.le_refl _) (H0:=H) hrow ?_ m 0 Z H hgb hZ (fun q hq8=>by rw[hq q hq8,if_neg (by omega),Int.add_zero]) (fun _ _=>rfl) (Nat.zero_le _) (by omega)
   ·have:=youngR_range hR q (i:=i) (by omega)
    omega
   ·intro Z' H' g1 g2 g3 g4
    refine ih Z' H' g1 g2 (fun q hq8=>?_) (fun q hqb=>by rw[g4 q (by omega),hk q hqb]) hlt
    rw[g3 q hq8]
    unfold pw
    simp only[ay]
    by_cases d:q<(R i).length
    ·rw[if_pos d]
    ·rw[if_neg d,List.getD_eq_getElem?_getD (l:=R i),List.getElem?_eq_none (by omega)]
     rfl
  ·have:i=np:=by omega
   subst this
   have f1:=hf.keep hk hg
   have lx:az P H 31 ⟨g,0+0+0,none⟩=some x:=by
    have:=f1.load (P:=P) (k:=0) Fv (by omega)
    rw[hs.x] at this; exact this
   have hlx:lenV P 31 x=some (.int .i64 i):=hx.len_eq Fx
   rw[if_neg (by omega),oX,aj,tw,aj,vV,aj,ak,aj,lx,aj,hlx,aj,← hS3]
   obtain⟨r,⟨H',n',r1,r2,r3⟩,r4⟩:=good_pads c k (b:=b) hZ hnp k 0 H n hbn hgb ((hx.keep hk (Nat.le_refl _)).up (by omega)) (Nat.zero_le _) (by omega)
   refine⟨r,⟨H',n',r1,by omega,hk.trans r3 (by omega)⟩,r4.trans ⟨fun h p hp=>?_,fun h p _ hp=>?_⟩⟩
   ·have:=h p (Nat.zero_le _) hp
    rw[hq p (by omega)] at this
    exact this
   ·rw[hq p (by omega)]
    exact h p hp
 intro m
 induction m with
 | zero=>intro i Z H n h1 h2 h3 h4 h5 h6 h7; omega
 | succ m ih=>
  intro i Z H n h1 h2 h3 h4 h5 h6 h7
  refine body _ (m+1) i Z H n h1 h2 h3 h4 h5 h6 (by omega) (fun Z H' q1 q2 q3 q4 q5=>ih (i+1) Z H' n h1 q1 q2 q3 q4 (by omega) (by omega))
theorem good_spec(c:Cal){g np nj:Nat}{f:Nat→Value}{x y z v:Value}{ps js:List Int}{rw_:Nat→Value}{R:Nat→List Int}{H:Hp}{n:Nat}(hs:SiteF f x y z js nj)(hf:cZ H g 859 115 f)(hx:eK H n 2 x np ps)(hv:fq H n v np rw_ R)(hR:RowsOk R np)(hnp:np≤8)(hg:g<n) :
  ∃ r:Bool,Ret (C80_0 c KK (.pointer (some ⟨g,0,none⟩)) v H n) n H (.bool r)∧(r=true↔GJ ps R np):=by
 unfold C80_0 B80_0
 generalize hS:S80_1 c KK KK=S
 rw[jw zero120]
 have c2:aZ (.agg ⟨ints (List.replicate 8 0)⟩)=ints (List.replicate 8 0):=rfl
 simp only[ptr]
 rw[c2,hv.len_eq,aj,← hS]
 have hk:Keep n H (H.set n (some (.cells (ints (List.replicate 8 0)) 118 false none))):=(Keep.refl n H).set (Nat.le_refl _) _
 exact good_rows c KK hs hf hx hv hR hnp hg (by unfold KK; omega) KK 0 (List.replicate 8 0) _ (n+1) (Nat.lt_succ_self n) (by rw[Tr.get_set,if_pos rfl]) rfl (fun q hq=>by
  rw[List.getD_eq_getElem?_getD,List.getElem?_replicate,if_pos hq]
  rfl) hk (Nat.zero_le _) (by unfold KK; omega)
theorem call80(l:Nat)(a b:Value)(H:Hp)(n:Nat):(cal (l+1)).call 80 [a,b] H n=C80_0 (cal l) KK a b H n:=by kernel_rfl
theorem good_call(l:Nat){g np nj:Nat}{f:Nat→Value}{x y z v:Value}{ps js:List Int}{rw_:Nat→Value}{R:Nat→List Int}{H:Hp}{n:Nat}(hs:SiteF f x y z js nj)(hf:cZ H g 859 115 f)(hx:eK H n 2 x np ps)(hv:fq H n v np rw_ R)(hR:RowsOk R np)(hnp:np≤8)(hg:g<n) :
  ∃(r:Bool) (H':Hp) (n':Nat),(r=true↔GJ ps R np)∧(∀ k:Value→Hp→Nat→Option ρ,aX P (cal (l+1)) 80 [.pointer (some ⟨g,0,none⟩),v] H n k=k (.bool r) H' n')∧n≤n'∧Keep n H H':=by
 obtain⟨r,⟨H',n',e1,e2,e3⟩,e4⟩:=good_spec (cal l) hs hf hx hv hR hnp hg
 refine⟨r,H',n',e4,fun k=>?_,e2,e3⟩
 unfold aX
 have:(iY P 80 && ck [.pointer (some ⟨g,0,none⟩),v])=false:=by rw[Bool.and_eq_false_iff]; exact .inr rfl
 rw[this,call80,e1]
 rfl
theorem call38(l:Nat)(a b c:Value)(H:Hp)(n:Nat):(cal (l+1)).call 38 [a,b,c] H n=C38_0 (cal l) KK a b c H n:=by kernel_rfl
theorem padBy_rows{js ks L:List Int}{nj np nk:Nat}{R:Nat→List Int}(hks:tx ks nk)(hnp:np≤8)(hK:zw L np nk)(h:∀ p,p<np→wy js ks L nj np R p):RowsOk R np:=by
 intro p hp
 have:=h p hp
 unfold wy at this
 rcases hK p (by omega) with e | ⟨_,kd,hkd,e⟩
 ·rw[if_pos e] at this
  have:R p=[]:=List.length_eq_zero_iff.1 this
  rw[this]
  exact⟨by simp,fun q=>by simp⟩
 ·rw[if_neg (by omega),e,Int.toNat_natCast] at this
  obtain⟨b1,b2,_⟩:=this
  refine⟨by omega,fun q=>?_⟩
  have hsb:=CX (js:=js) (nj:=nj) hks hkd hnp hp
  by_cases c:q<np
  ·have:=b2 q c
   have h1:=hsb (q * 2)
   have h2:=hsb (q * 2+1)
   omega
  ·rw[List.getD_eq_getElem?_getD,List.getElem?_eq_none (by omega)]
   simp
theorem ProveSpread_spec(l:Nat){np nj nk nl nv:Nat}{ps js ks ls:List Int}{H:Hp}{n:Nat}{v w u:Value}{rw_:Nat→Value}{R:Nat→List Int}(hg:kq H n v np nj nk ps js ks)(hw:ListR H n w nl ls)(hv:fq H n u nv rw_ R)(hnp:np≤1000)(hnj:nj≤1000)(hnk:nk≤1000) :
  ∃ r:Bool,Ret (C38_0 (cal (l+7)) KK v w u H n) n H (.bool r)∧(r=true↔gX np nj nk nl ps js ks ls=0∧nv=np∧(∀ p,p<np→wy js ks (ej ls np) nj np R p)∧GJ ps R np):=by
 have hg0:=hg
 obtain⟨x,y,z,rfl,h1,h2,h3⟩:=hg
 unfold C38_0 B38_0
 rw[dZ]
 simp only[aZ,ptr]
 have hk:Keep n H (H.set n (some (.cells [x,y,z] 35 false none))):=(Keep.refl n H).set (Nat.le_refl _) _
 have hb:aW (H.set n (some (.cells [x,y,z] 35 false none))) n 0 [x,y,z]:=aW.new
 generalize H.set n (some (.cells [x,y,z] 35 false none))=H1 at hk hb ⊢
 have lg:az P H1 35 ⟨n,0,none⟩=some (.agg ⟨[x,y,z]⟩):=cw (o:=0) (k:=0) hb UZ sz35 (by simp) (by simp [h1.hole.1,h2.hole.1,h3.hole.1])
 obtain⟨o1,o2⟩:=openLaid_spec l (hg0.keep hk (show n≤n+1 by omega)) (hw.keep hk (show n≤n+1 by omega)) hnp hnj hnk
 rw[ak,aj,lg,aj,openLaid_call]
 by_cases he:gX np nj nk nl ps js ks ls=0
 ·obtain⟨⟨g,x',y',z',f,H2,n2,e1,e2,e3,e4,e5,e6,e7,e8,e9⟩,hnl,hok,hft⟩:=o2 he
  simp only[Value.agg.injEq,Array.mk.injEq,List.cons.injEq,and_true] at e6
  obtain⟨rfl,rfl,rfl⟩:=e6
  have good:=Qw hft
  subst hnl
  have np8:=good.np8
  have nk3:=good.nk3
  have l8:=Qy hw.1 good.np8
  have hK:zw (ej ls nl) nl nk:=laid_kinds hw.1 hok
  generalize hLL:ej ls nl=L at *
  have lens:(ints L).length=8:=by rw[bv,l8]
  have t0:tupV (.tuple ⟨[.pointer (some ⟨g,0,none⟩),.agg ⟨ints L⟩,.int .i64 0]⟩) 0=some (.pointer (some ⟨g,0,none⟩)):=rfl
  have t1:tupV (.tuple ⟨[.pointer (some ⟨g,0,none⟩),.agg ⟨ints L⟩,.int .i64 0]⟩) 1=some (.agg ⟨ints L⟩):=rfl
  have t2:tupV (.tuple ⟨[.pointer (some ⟨g,0,none⟩),.agg ⟨ints L⟩,.int .i64 0]⟩) 2=some (.int .i64 0):=rfl
  have d0:decide ((0:Int)=0)=true:=rfl
  obtain⟨H3,k1,k2,k3⟩:=vk (P:=P) (ρ:=Value × Hp × Nat) (H:=H2) (n:=n2) (L:=ints L) Qx rfl zv lens (kJ _)
  have kk:Keep (n+1) H1 H3:=e3.trans k1 e2
  have f3:=e7.keep k1 e5
  have kn:Keep n H H3:=fun b hb=>by rw[kk b (by omega),hk b hb]
  have hx3:eK H3 (n2+1) 2 x nl ps:=(h1.keep kn (Nat.le_refl _)).up (by omega)
  have hv3:fq H3 (n2+1) u nv rw_ R:=hv.keep kn (by omega)
  obtain⟨r,H4,n4,b0,b1,b2,b3⟩:=spreads_call (ρ:=Value × Hp × Nat) (l+4) (show g<n2+1 by omega) f3 e8 e9 good.kinds hx3 np8 nk3 l8 hK hv3
  rw[e1,aj,t0,aj,t1,aj,t2,aj]
  dsimp only
  rw[k3,ax jY,d0]
  have lL:az P H3 119 ⟨n2,0,none⟩=some (.agg ⟨ints L⟩):=fY k2 Fk zv lens
  simp only[dk,ak,aj,lL,b1,dw]
  have k4:Keep n H H4:=fun b hb=>by rw[b3 b (by omega),kn b hb]
  cases r with
  | false=>
   simp only[eJ,aj,dQ]
   exact⟨false,⟨H4,n4,rfl,by omega,k4⟩,⟨fun h=>(by cases h),fun h=>absurd (b0.2 ⟨h.2.1,h.2.2.1⟩) (by simp)⟩⟩
  | true=>
   obtain⟨hnv,hpad⟩:=b0.1 rfl
   subst hnv
   obtain⟨s,H5,n5,c0,c1,c2,c3⟩:=good_call (ρ:=Value × Hp × Nat) (l+6) e8 (f3.keep b3 (by omega)) ((hx3.keep b3 (Nat.le_refl _)).up b2) (hv3.keep b3 b2) (padBy_rows good.kinds np8 hK hpad) np8 (show g<n4 by omega)
   simp only[dk,aj,c1,dw]
   exact⟨s,⟨H5,n5,rfl,by omega,fun b hb=>by rw[c3 b (by omega),k4 b hb]⟩,c0.trans ⟨fun h=>⟨he,by trivial,hpad,h⟩,fun h=>h.2.2.2⟩⟩
 ·obtain⟨H2,n2,e1,e2,e3⟩:=o1 he
  have t0:tupV (.tuple ⟨[.pointer none,.agg ⟨ints (List.replicate 8 0)⟩,.int .i64 (gX np nj nk nl ps js ks ls)]⟩) 0=some (.pointer none):=rfl
  have t1:tupV (.tuple ⟨[.pointer none,.agg ⟨ints (List.replicate 8 0)⟩,.int .i64 (gX np nj nk nl ps js ks ls)]⟩) 1=some (.agg ⟨ints (List.replicate 8 0)⟩):=rfl
  have t2:tupV (.tuple ⟨[.pointer none,.agg ⟨ints (List.replicate 8 0)⟩,.int .i64 (gX np nj nk nl ps js ks ls)]⟩) 2=some (.int .i64 (gX np nj nk nl ps js ks ls)):=rfl
  obtain⟨H3,k1,_,k3⟩:=vk (P:=P) (ρ:=Value × Hp × Nat) (H:=H2) (n:=n2) (L:=ints (List.replicate 8 0)) Qx rfl zv rfl (kJ _)
  rw[e1,aj,t0,aj,t1,aj,t2,aj]
  dsimp only
  rw[k3,ax jY,decide_eq_false he]
  simp only[eJ,aj,dQ]
  exact⟨false,⟨H3,n2+1,rfl,by omega,(hk.trans e3 (by omega)).trans k1 (by omega)⟩,⟨fun h=>(by cases h),fun h=>absurd h.1 he⟩⟩
theorem zero44:iJ P 44=some (.slice none 0 0):=by kernel_rfl
theorem zero59:iJ P 59=some (.slice none 0 0):=by kernel_rfl
theorem sl59:jv P 59=some 44:=by kernel_rfl
theorem by44:yQ P 44=some 24:=by kernel_rfl
theorem make59(H:Hp)(n:Nat){np:Nat}(h:np≤1000):rJ P 59 (.int .i64 np) (.int .i64 np) (bare H n)=some (.slice (some ⟨n,0,none⟩) np np,bare (H.set n (some (.cells (List.replicate np (.slice none 0 0)) 44 false none))) (n+1)):=by
 show rJ P 59 (.int .i64 (.ofNat np)) (.int .i64 (.ofNat np)) (bare H n)=_
 unfold rJ
 have hb:Kq np 1 24=true:=by unfold Kq; simp; omega
 simp only[sl59,sz44,by44,zero44]
 rw[if_pos ⟨Nat.le_refl _,hb,rfl⟩]
 have:repl np (aZ (.slice none 0 0))=List.replicate np (.slice none 0 0):=repl_one _ _
 rw[this]
 rfl
theorem qmz{t:TypeId}{z v:Value}(hz:iJ P t=some z)(hcz:aZ z=[z])(hs:szT P t=some 1)(hv:tj v=true)(H:Hp)(n:Nat):∃ H',Keep n H H'∧H'.get n=some (.cells [v] t false none) ∧
  ∀ k:Value→Hp→Nat→Option ρ,(eQ P t H n fun u H n=>aq (bX P t u v H) fun H=>k u H n)=k (.pointer (some ⟨n,0,none⟩)) H' (n+1):=by
 have e1:(H.set n (some (.cells [z] t false none))).get n=some (.cells [z] t false none):=by rw[Tr.get_set,if_pos rfl]
 have e2:Keep n H (H.set n (some (.cells [z] t false none))):=(Keep.refl n H).set (Nat.le_refl _) _
 have s1:=rV (vs:=[v]) e1 rfl (by simp [hv])
 refine⟨_,e2.set (Nat.le_refl _) (some (.cells [v] t false none)),by rw[Tr.get_set,if_pos rfl],fun k=>?_⟩
 rw[jw hz,hcz]
 simp only[ptr]
 rw[rz hs hv,s1,aj]
theorem list_any(l:Nat){H:Hp}{n len:Nat}{v:Value}{xs:List Int}(h:RowR H n v len xs)(hlen:len≤1000) :
  ∃ b cap vec H' n',(∀ k:Value→Hp→Nat→Option ρ,aX P (cal (l+1)) 23 [v] H n k=k (.slice (some ⟨b,0,none⟩) len cap) H' n')∧n≤b∧b<n'∧Keep n H H'∧H'.get b=some (.cells (ints xs) 3 false vec):=by
 by_cases h0:len=0
 ·subst h0
  have hx:xs=[]:=List.length_eq_zero_iff.1 h.length
  subst hx
  have key:∃ H' n',Oy (cal l) KK v H n=some (.slice (some ⟨n,0,none⟩) 0 0,H',n')∧n<n'∧Keep n H H'∧H'.get n=some (.cells [] 3 false none):=by
   unfold Oy B23_0 rowK
   rw[row44_0,aj]
   unfold newK
   dsimp only
   have hk:Keep n H (H.set n (some (.cells [] 3 false none))):=(Keep.refl n H).set (Nat.le_refl _) _
   have hg:(H.set n (some (.cells [] 3 false none))).get n=some (.cells [] 3 false none):=by rw[Tr.get_set,if_pos rfl]
   have h1:=h.keep hk (show n≤n+1 by omega)
   generalize H.set n (some (.cells [] 3 false none))=H1 at hk hg h1 ⊢
   have hold:qX H1 ⟨n,0,none⟩ (0 * 1)=some []:=AW (L:=[]) (dv hg) rfl rfl
   have hbig:yV (0+0) 1 8=true:=by unfold yV; simp
   have hb1:Nat.beq (aZ (.int .i64 0)).length 1=true:=rfl
   have c0:Nat.blt 0 capV=true:=by decide +kernel
   have ha:iz P (bare H1 (n+1)) 44 44 (.slice (some ⟨n,0,none⟩) 0 0) v=some (.slice (some ⟨n,0,none⟩) 0 0,bare (H1.set n (some (.cells [] 3 false none))) (n+1)):=by
    unfold iz
    have hs:pX (bare H1 (n+1)).H 1 v=some ([],0):=h1.src
    have hold':qX (bare H1 (n+1)).H ⟨n,0,none⟩ (0 * 1)=some []:=hold
    simp only[sl44,sz3,by3,zero3,hs,hb1,hold',hbig]
    unfold tY
    have hst:storeN (bare H1 (n+1)).H (addA ⟨n,0,none⟩ (0 * 1)) []=some (H1.set n (some (.cells [] 3 false none))):=by
     unfold storeN
     simp only[addA,bare,hg]
     rfl
    simp only[c0,hst]
    rfl
   unfold stK
   dsimp only
   rw[ha,aj]
   dsimp only [bare]
   exact⟨_,_,rfl,by omega,hk.set (Nat.le_refl _) _,by rw[Tr.get_set,if_pos rfl]⟩
  obtain⟨H',n',e1,e2,e3,e4⟩:=key
  refine⟨n,0,none,H',n',fun k=>?_,Nat.le_refl _,e2,e3,e4⟩
  unfold aX
  rw[flat23,call23,e1]
  rfl
 ·obtain⟨b,cap,H',n',e,h1,h2,h3,h4⟩:=list_own_call (ρ:=ρ) l (h.resolve_right fun q=>h0 q.2.1) h0 hlen
  exact⟨b,cap,some 1,H',n',e,h1,h2,h3,h4⟩
theorem row59(b len cap:Nat):zj P 59 1 [(0,.slice (some ⟨b,0,none⟩) len cap)]=some ([.slice (some ⟨b,0,none⟩) len cap],44):=by kernel_rfl
def OwnAt(H:Hp)(n:Nat)(v:Value)(xs:List Int):Prop:=∃ b cap vec,v=.slice (some ⟨b,0,none⟩) xs.length cap∧b<n∧H.get b=some (.cells (ints xs) 3 false vec)
theorem OwnAt.list{H:Hp}{n:Nat}{v:Value}{xs:List Int}(h:OwnAt H n v xs)(hx:∀ x ∈ xs,I64 x):ListR H n v xs.length xs:=by
 obtain⟨b,cap,vec,e,h1,h2⟩:=h
 exact⟨rfl,hx,.inr ⟨b,0,cap,e,h1,dv h2⟩⟩
theorem rows_loop(l k:Nat){base len:Nat}{v:Value}{rw_:Nat→Value}{R:Nat→List Int}{H0:Hp}(hv:SpreadJ H0 base v len rw_ R)(hlen:len≤1000)(hR:∀ p,p<len→(R p).length≤1000):∀(m i:Nat) (u:Value) (nv:Nat→Value) (H:Hp) (n:Nat),Keep base H0 H→base≤n→VecV H base n 1 44 u i ((List.range i).map nv)→(∀ p,p<i→OwnAt H n (nv p) (R p))→i≤len→len-i≤m →
  ∃ w nv' H' n',S39_1 (cal (l+1)) k m v u (.int .i64 i) H n=some (w,H',n')∧base≤n'∧Keep base H0 H'∧fq H' n' w len nv' R:=by
 have body:∀(b1:Value→Value→Value→Hp→Nat→Res) (m i:Nat) (u:Value) (nv:Nat→Value) (H:Hp) (n:Nat),Keep base H0 H→base≤n→VecV H base n 1 44 u i ((List.range i).map nv)→(∀ p,p<i→OwnAt H n (nv p) (R p))→i≤len →
   (∀(u:Value) (nv:Nat→Value) (H:Hp) (n:Nat),Keep base H0 H→base≤n→VecV H base n 1 44 u (i+1) ((List.range (i+1)).map nv)→(∀ p,p<i+1→OwnAt H n (nv p) (R p))→i<len →
    ∃ w nv' H' n',b1 v u (.int .i64 ((i+1:Nat):Int)) H n=some (w,H',n')∧base≤n'∧Keep base H0 H'∧fq H' n' w len nv' R) →
   ∃ w nv' H' n',C39_1 (cal (l+1)) k m b1 v u (.int .i64 i) H n=some (w,H',n')∧base≤n'∧Keep base H0 H'∧fq H' n' w len nv' R:=by
  intro b1 m i u nv H n hk hbn hvec hown hi ih
  have hvH:=hv.keep hk hbn
  unfold C39_1 B39_1
  rw[hvH.len_eq,aj,ax cJ,gw]
  by_cases hlt:i<len
  ·have hI:I64 ((i:Int)+1):=by unfold I64; omega
   have hcast:((i:Int)+1)=((i+1:Nat):Int):=by omega
   obtain⟨c1,o,a1,_,a3⟩:=hvH.at_ hlt
   obtain⟨b,cap,vec,H1,n1,d1,d2,d3,d4,d5⟩:=list_any (ρ:=Value × Hp × Nat) l (hvH.2 i hlt) (hR i hlt)
   have hrow:aW (H1.set n1 (some (.cells [.slice (some ⟨b,0,none⟩) (R i).length cap] 44 false none))) n1 0 [.slice (some ⟨b,0,none⟩) (R i).length cap]:=aW.new
   have k2:∀ q,q<n1→(H1.set n1 (some (.cells [.slice (some ⟨b,0,none⟩) (R i).length cap] 44 false none))).get q=H1.get q:=fun q hq=>by rw[Tr.get_set,if_neg (by omega)]
   generalize hH2:H1.set n1 (some (.cells [.slice (some ⟨b,0,none⟩) (R i).length cap] 44 false none))=H2 at hrow k2
   have hv2:VecV H2 base (n1+1) 1 44 u i ((List.range i).map nv):=hvec.same (by omega) fun q hq _=>by rw[k2 q (by omega),d4 q hq]
   obtain⟨H3,ea,ev,eo⟩:=append_vecV (P:=P) (t:=59) (t2:=59) (cap2:=1) hv2 sl59 sl59 sz44 by44 zero44 rfl hrow rfl rfl rfl (by omega) (by omega) (by omega) (by omega)
   have low:∀ q,q<n→¬ fj u q→H3.get q=H.get q:=fun q hq hn=>by rw[eo q (by omega) hn,k2 q (by omega),d4 q hq]
   have e3:(List.range (i+1)).map (fun p=>if p=i then .slice (some ⟨b,0,none⟩) (R i).length cap else nv p)=(List.range i).map nv++[.slice (some ⟨b,0,none⟩) (R i).length cap]:=by
    rw[List.range_succ,List.map_append]
    congr 1
    ·refine List.map_congr_left fun p hp=>?_
     have:=List.mem_range.1 hp
     rw[if_neg (by omega)]
    ·simp
   rw[if_pos (by omega),a1,aj,ak,aj,a3,aj,d1]
   unfold rowK
   rw[row59,aj]
   unfold newK stK
   dsimp only
   rw[hH2,ea,aj]
   dsimp only [bare]
   rw[ax (bk hI),hcast]
   refine ih _ (fun p=>if p=i then .slice (some ⟨b,0,none⟩) (R i).length cap else nv p) H3 (n1+1+1) (fun q hq=>?_) (by omega) (by rw[e3]; exact ev) (fun p hp=>?_) hlt
   ·rw[low q (by omega) (fun z=>by have:=(hvec.low z).1; omega),hk q hq]
   ·by_cases e:p=i
    ·subst e
     rw[if_pos rfl]
     refine⟨b,cap,vec,rfl,by omega,?_⟩
     rw[eo b (by omega) (fun z=>by have:=(hvec.low z).2; omega),k2 b d3,d5]
    ·rw[if_neg e]
     obtain⟨c2,cap2,vec2,x1,x2,x3⟩:=hown p (by omega)
     refine⟨c2,cap2,vec2,x1,by omega,?_⟩
     rw[low c2 x2 (fun z=>?_),x3]
     obtain⟨o',l',cp',sp',hz⟩:=z
     rcases hvec.2.2.2 with⟨y1,_⟩ | ⟨b',y1,_,_,_,y4⟩
     ·rw[y1] at hz; cases hz
     ·rw[y1] at hz
      cases hz
      rw[x3] at y4
      simp at y4
  ·have:i=len:=by omega
   subst this
   rw[if_neg (by omega)]
   refine⟨u,nv,H,n,rfl,hbn,hk,?_,fun p hp=>(hown p hp).list (hv.2 p hp).i64s⟩
   rcases hvec.2.2.2 with⟨e1,e2⟩ | ⟨b,e,_,h2,_,h4⟩
   ·exact .inl ⟨e1,e2⟩
   ·exact .inr ⟨b,0,capV,e,h2,dv h4⟩
 intro m
 induction m with
 | zero=>intro i u nv H n h1 h2 h3 h4 h5 h6; exact body _ 0 i u nv H n h1 h2 h3 h4 h5 (fun _ _ _ _ _ _ _ _ h=>by omega)
 | succ m ih=>intro i u nv H n h1 h2 h3 h4 h5 h6; exact body _ (m+1) i u nv H n h1 h2 h3 h4 h5 (fun u nv H n q1 q2 q3 q4 _=>ih (i+1) u nv H n q1 q2 q3 q4 (by omega) (by omega))
theorem flat39:iY P 39=false:=by kernel_rfl
theorem call39(l:Nat)(a:Value)(H:Hp)(n:Nat):(cal (l+1)).call 39 [a] H n=C39_0 (cal l) KK a H n:=by kernel_rfl
theorem rows_callJ(l:Nat){len n:Nat}{v:Value}{rw_:Nat→Value}{R:Nat→List Int}{H:Hp}(hv:SpreadJ H n v len rw_ R)(hlen:len≤1000)(hR:∀ p,p<len→(R p).length≤1000) :
  ∃ w nv H' n',(∀ k:Value→Hp→Nat→Option ρ,aX P (cal (l+2)) 39 [v] H n k=k w H' n')∧n≤n'∧Keep n H H'∧fq H' n' w len nv R:=by
 obtain⟨w,nv,H',n',e1,e2,e3,e4⟩:=rows_loop l KK hv hlen hR KK 0 (.slice none 0 0) (fun _=>.slice none 0 0) H n (Keep.refl _ _) (Nat.le_refl _) ⟨rfl,rfl,rfl,.inl ⟨rfl,rfl⟩⟩ (fun p hp=>absurd hp (by omega)) (Nat.zero_le _) (by unfold KK; omega)
 refine⟨w,nv,H',n',fun k=>?_,e2,e3,e4⟩
 have e:C39_0 (cal (l+1)) KK v H n=some (w,H',n'):=e1
 unfold aX
 rw[flat39,call39,e]
 rfl
theorem reach_new(l:Nat){np nj nk kd:Nat}{ps js ks:List Int}(good:Good np nj nk ps js ks){H:Hp}{n:Nat}{v:Value}(hg:GroveI H n v np nj nk ps js ks)(hk:kd<nk)(p q:Int) :
  ∃ H' n',n<n'∧Keep n H H'∧aW H' n 0 [.int .i64 (cq js ks nj kd p q).1,.int .i64 (cq js ks nj kd p q).2] ∧
   ∀ K:Hp→Nat→Res,(aq (iJ P 55) fun z=>newK (aZ z) 55 H n fun H1 n1=>effK P [.a n (aZ z) 55] H1 n1 (fun H n k=>aX P (cal (l+2)) 77 [v,.int .i64 kd,.int .i64 p,.int .i64 q] H n fun v H n=>k v H n) fun r H2 n2=>aq (bX P 55 (ptr n) r H2) fun H3=>K H3 n2)=K H' n':=by
 have kA:Keep n H ((H.set n (some (.cells (aZ (.agg #[.int .i64 0,.int .i64 0])) 55 false none))).set n none):=((Keep.refl n H).set (Nat.le_refl _) _).set (Nat.le_refl _) _
 obtain⟨H2,n2,e,e2,e3⟩:=KQ l (ρ:=Value × Hp × Nat) (hg.keep kA (show n≤n+1 by omega)) (show nj≤KK by have:=good.nj16; unfold KK; omega) kd hk p q
 have hget:(H2.set n ((H.set n (some (.cells (aZ (.agg #[.int .i64 0,.int .i64 0])) 55 false none))).get n)).get n=some (.cells [.int .i64 0,.int .i64 0] 55 false none):=by
  rw[Tr.get_set,if_pos rfl,Tr.get_set,if_pos rfl]; rfl
 have kB:Keep n H (H2.set n ((H.set n (some (.cells (aZ (.agg #[.int .i64 0,.int .i64 0])) 55 false none))).get n)):=(kA.trans e3 (by omega)).set (Nat.le_refl _) _
 refine⟨(H2.set n ((H.set n (some (.cells (aZ (.agg #[.int .i64 0,.int .i64 0])) 55 false none))).get n)).set n (some (.cells [.int .i64 (cq js ks nj kd p q).1,.int .i64 (cq js ks nj kd p q).2] 55 false none)),n2,by omega,kB.set (Nat.le_refl _) _,aW.new,fun K=>?_⟩
 simp only[aj,zero55,newK,effK_a]
 rw[e]
 generalize (H2.set n ((H.set n (some (.cells (aZ (.agg #[.int .i64 0,.int .i64 0])) 55 false none))).get n))=H3 at hget ⊢
 rw[ptr,qdz,lW (c:=[.int .i64 0,.int .i64 0]) (vs:=[.int .i64 (cq js ks nj kd p q).1,.int .i64 (cq js ks nj kd p q).2]) (e:=55) (vec:=none) hget rfl rfl,aj]
theorem rq{f:Nat→Int}{c:Int}:∀ {i:Nat},(∀ k,k<i→0≤f k∧f k≤c)→0≤ay f i∧ay f i≤i * c
 | 0,_=>by simp [ay]
 | i+1,h=>by
  have ih:=rq (i:=i) fun k hk=>h k (by omega)
  have:=h i (by omega)
  simp only[ay]
  rw[Int.natCast_add,Int.add_mul]
  omega
end Go.Proofs.Ytmjbdjnnojfhkaa.spec
end
section
namespace Go.Ev
open Go
variable {P:Program} {t:TypeId} {x y:Operand} {a:Int} {ρ:Type}
theorem bin_shr{kd:IntKind}{b:Nat}(hb:b<64):binV P .shr t x y (.int .i64 a) (.int kd (b:Int))=some (.int .i64 (a.fdiv (2 ^ b))):=by
 have hq:yW .shr (.int .i64 a) (.int kd (b:Int))=none:=by
  unfold yW
  cases a <;> cases kd <;> rfl
 have h0:(bw (.int .i64 a) && bw (.int kd (b:Int)))=true:=rfl
 have h1:EQ P .shr t (.int .i64 a) (.int kd (b:Int))=none:=by unfold EQ; rfl
 have h2:binOp .shr t (.int .i64 a) (.int kd (b:Int))=pure (.int .i64 (a.fdiv (2 ^ b))):=by
  have hn:¬ ((b:Int)<0):=by omega
  have hm:min b 64=b:=by omega
  show Op.shift .shr .i64 a kd (b:Int)=_
  unfold Op.shift
  rw[if_neg hn]
  show(pure (.int .i64 (a.fdiv (2 ^ min (b:Int).toNat IntKind.i64.bits))):Sem Value)=_
  rw[Int.toNat_natCast,show IntKind.i64.bits=64 from rfl,hm]
 unfold binV
 rw[hq]
 unfold Gy
 rw[h0]
 simp only[h1,HJ KJ h2]
 rfl
theorem fdiv_pow(m b:Nat):((m:Int).fdiv (2 ^ b))=((m >>> b:Nat):Int):=by
 rw[Int.fdiv_eq_ediv_of_nonneg _ (by exact Int.pow_nonneg (by omega)),Nat.shiftRight_eq_div_pow]
 simp
theorem bin_shl{kd:IntKind}{b:Nat}(hb:b<64)(h:I64 (a * 2 ^ b)):binV P .shl t x y (.int .i64 a) (.int kd (b:Int))=some (.int .i64 (a * 2 ^ b)):=by
 have hq:yW .shl (.int .i64 a) (.int kd (b:Int))=none:=by
  unfold yW
  cases a <;> cases kd <;> rfl
 have h0:(bw (.int .i64 a) && bw (.int kd (b:Int)))=true:=rfl
 have h1:EQ P .shl t (.int .i64 a) (.int kd (b:Int))=none:=by unfold EQ; rfl
 have h2:binOp .shl t (.int .i64 a) (.int kd (b:Int))=pure (.int .i64 (a * 2 ^ b)):=by
  have hn:¬ ((b:Int)<0):=by omega
  have hm:min b 64=b:=by omega
  have hw:=UJ h
  show Op.shift .shl .i64 a kd (b:Int)=_
  unfold Op.shift
  rw[if_neg hn]
  show(pure (.int .i64 (IntKind.i64.wrap (a * 2 ^ min (b:Int).toNat IntKind.i64.bits))):Sem Value)=_
  rw[Int.toNat_natCast,show IntKind.i64.bits=64 from rfl,hm,hw]
 unfold binV
 rw[hq]
 unfold Gy
 rw[h0]
 simp only[h1,HJ KJ h2]
 rfl
end Go.Ev
end
section
namespace Go.Proofs.Ytmjbdjnnojfhkaa.spec
open Go Go.Ev Go.Proofs.Ytmjbdjnnojfhkaa.nestFits Go.Proofs.Ytmjbdjnnojfhkaa.G
set_option maxRecDepth 100000
def bI(m i:Nat):Int:=((m >>> i % 2:Nat):Int)
theorem bI01(m i:Nat):bI m i=0∨bI m i=1:=by unfold bI; omega
theorem conv3u{a:Nat}(ha:a<1000):dX P (.int .i64 (a:Int)) (convert 3 136 (.int .i64 (a:Int)))=some (.int .u64 (a:Int)):=by
 have h:cY P (convert 3 136 (.int .i64 (a:Int)))=some (.int .u64 (IntKind.u64.wrap (a:Int))):=by kernel_rfl
 have hw:IntKind.u64.wrap (a:Int)=(a:Int):=by
  show((a:Int) % ((2:Int) ^ 64))=a
  omega
 rw[hw] at h
 unfold dX
 exact h
theorem bit_k{m i:Nat}(hi:i<64){x y a b:Operand}(K:Value→Res) :
  (aq (dX P (.int .i64 (i:Int)) (convert 3 136 (.int .i64 (i:Int)))) fun v=>binK P .shr 3 x y (.int .i64 (m:Int)) v fun w=>binK P .rem 3 a b w (.int .i64 2) K)=K (.int .i64 (bI m i)):=by
 rw[conv3u (by omega),aj,ax (bin_shr hi),fdiv_pow,show(2:Int)=((2:Nat):Int) from rfl,ax (bin_rem (by decide)),rem_small (by decide)]
 rfl
noncomputable def muI(js ks:List Int)(nj np kd mask p q:Nat):Int:=(cq js ks nj kd (p:Int) (q:Int)).1 * bI mask p * (1-bI mask (np+q))
noncomputable def caI(js ks:List Int)(nj np kd mask p q:Nat):Int:=(cq js ks nj kd (p:Int) (q:Int)).2 * (1-bI mask p) * bI mask (np+q)
theorem mc_bd{js ks:List Int}{nj np nk kd:Nat}(h:IV ks nk)(hk:kd<nk)(mask p q:Nat):(0≤muI js ks nj np kd mask p q∧muI js ks nj np kd mask p q≤1000)∧(0≤caI js ks nj np kd mask p q∧caI js ks nj np kd mask p q≤1000) ∧
  (cq js ks nj kd (p:Int) (q:Int)).1 * bI mask p≤1000∧0≤(cq js ks nj kd (p:Int) (q:Int)).1 * bI mask p∧(cq js ks nj kd (p:Int) (q:Int)).2 * (1-bI mask p)≤1000∧0≤(cq js ks nj kd (p:Int) (q:Int)).2 * (1-bI mask p):=by
 obtain⟨r0,r1,r2⟩:=tK (js:=js) (nj:=nj) h hk (p:Int) (q:Int)
 unfold muI caI
 rcases bI01 mask p with a | a <;> rcases bI01 mask (np+q) with b | b <;> rw[a,b] <;> simp <;> omega
theorem cut5(l k m1 m2:Nat){np nj nk p kd g0:Nat}{ps js ks ls:List Int}{x y z u1 u7 u8:Value}(good:Good np nj nk ps js ks)(hp:p<np)(hkd:ls.getD p 0=kd)(hk:kd<nk)(mask:Nat)
  (b1:Value→Value→Value→Value→Hp→Nat→Res) (b3:Value→Value→Value→Value→Value→Value→Value→Value→Value→Hp→Nat→Res) {must can:Int} (hB:0≤must∧must≤1000000∧0≤can∧can≤1000000) {H0:Hp} {n0:Nat} (hg0n:g0<n0)
  (hb0:aW H0 g0 0 [x,y,z]) (hg0:GroveI H0 n0 (.agg ⟨[x,y,z]⟩) np nj nk ps js ks) (hw0:ListR H0 n0 u1 np ls) :
  ∀(m q:Nat) (H:Hp) (n:Nat),n0≤n→Keep n0 H0 H→q≤np→np-q≤m→∃ H' n',n≤n'∧Keep n0 H0 H' ∧
   S41_5 (cal (l+2)) k m1 m2 b1 b3 m u1 (.pointer (some ⟨g0,0,none⟩)) (.int .i64 np) (.int .i64 mask) u7 u8 (.int .i64 (must+ay (muI js ks nj np kd mask p) q)) (.int .i64 (can+ay (caI js ks nj np kd mask p) q)) (.int .i64 p) (.int .i64 (bI mask p)) (.int .i64 q) H n
    = Mz (cal (l+2)) k m1 m2 b1 b3 u1 (.pointer (some ⟨g0,0,none⟩)) (.int .i64 np) (.int .i64 mask) u7 u8 (.int .i64 (must+ay (muI js ks nj np kd mask p) np)) (.int .i64 (can+ay (caI js ks nj np kd mask p) np)) (.int .i64 p) H' n':=by
 have np8:=good.np8
 obtain⟨x',y',z',hxyz,h1,h2,h3⟩:=hg0.eq
 cases hxyz
 generalize hM:muI js ks nj np kd mask p=M
 generalize hC:caI js ks nj np kd mask p=C
 have hbd:∀ q,(0≤M q∧M q≤1000)∧(0≤C q∧C q≤1000):=fun q=>by
  have:=mc_bd (js:=js) (nj:=nj) (np:=np) good.small hk mask p q
  rw[hM,hC] at this
  exact⟨this.1,this.2.1⟩
 have sM:∀ i,0≤ay M i∧ay M i≤i * 1000:=fun i=>rq fun k _=>(hbd k).1
 have sC:∀ i,0≤ay C i∧ay C i≤i * 1000:=fun i=>rq fun k _=>(hbd k).2
 have body:∀(b5:Value→Value→Value→Value→Value→Value→Value→Value→Value→Value→Value→Hp→Nat→Res) (m q:Nat) (H:Hp) (n:Nat),n0≤n→Keep n0 H0 H→q≤np →
   (∀(H:Hp) (n:Nat),n0≤n→Keep n0 H0 H→q<np→∃ H' n',n≤n'∧Keep n0 H0 H' ∧
    b5 u1 (.pointer (some ⟨g0,0,none⟩)) (.int .i64 np) (.int .i64 mask) u7 u8 (.int .i64 (must+ay M (q+1))) (.int .i64 (can+ay C (q+1))) (.int .i64 p) (.int .i64 (bI mask p)) (.int .i64 ((q+1:Nat):Int)) H n
     = Mz (cal (l+2)) k m1 m2 b1 b3 u1 (.pointer (some ⟨g0,0,none⟩)) (.int .i64 np) (.int .i64 mask) u7 u8 (.int .i64 (must+ay M np)) (.int .i64 (can+ay C np)) (.int .i64 p) H' n') →
   ∃ H' n',n≤n'∧Keep n0 H0 H' ∧
   C41_5 (cal (l+2)) k m1 m2 m b1 b3 b5 u1 (.pointer (some ⟨g0,0,none⟩)) (.int .i64 np) (.int .i64 mask) u7 u8 (.int .i64 (must+ay M q)) (.int .i64 (can+ay C q)) (.int .i64 p) (.int .i64 (bI mask p)) (.int .i64 q) H n
    = Mz (cal (l+2)) k m1 m2 b1 b3 u1 (.pointer (some ⟨g0,0,none⟩)) (.int .i64 np) (.int .i64 mask) u7 u8 (.int .i64 (must+ay M np)) (.int .i64 (can+ay C np)) (.int .i64 p) H' n':=by
  intro b5 m q H n hn hkp hq ih
  unfold C41_5
  generalize Mz (cal (l+2)) k m1 m2 b1 b3=J at ih ⊢
  unfold B41_5
  have hw:=hw0.keep hkp hn
  have hbx:=hb0.keep hkp hg0n
  obtain⟨rb,ro,hix,_,hld⟩:=hw.at_ hp
  rw[hkd] at hld
  rw[ax cJ,gw]
  by_cases hlt:q<np
  ·have hI:I64 ((q:Int)+1):=by unfold I64; omega
   have hcast:((q:Int)+1)=((q+1:Nat):Int):=by omega
   have hI2:I64 ((np:Int)+(q:Int)):=by unfold I64; omega
   have hcast2:((np:Int)+(q:Int))=((np+q:Nat):Int):=by omega
   obtain⟨H1,n1,a1,a2,a3,a4⟩:=reach_new l good (hg0.keep hkp hn) hk (p:Int) (q:Int)
   have c0:az P H1 3 ⟨n,0+0,none⟩=some (.int .i64 (cq js ks nj kd p (q:Nat)).1):=bj a3 agg3 rfl
   have c1:az P H1 3 ⟨n,0+1,none⟩=some (.int .i64 (cq js ks nj kd p (q:Nat)).2):=bj a3 agg3 rfl
   obtain⟨d1,d2,d3,d4,d5,d6⟩:=mc_bd (js:=js) (nj:=nj) (np:=np) good.small hk mask p q
   have hb1:=bI01 mask p
   have hb2:=bI01 mask (np+q)
   have eM:(cq js ks nj kd (p:Int) (q:Int)).1 * bI mask p * (1-bI mask (np+q))=M q:=by rw[← hM]; rfl
   have eC:(cq js ks nj kd (p:Int) (q:Int)).2 * (1-bI mask p) * bI mask (np+q)=C q:=by rw[← hC]; rfl
   have i1:I64 ((cq js ks nj kd (p:Int) (q:Int)).1 * bI mask p):=by unfold I64; omega
   have i2:I64 (1-bI mask (np+q)):=by unfold I64; omega
   have i3:I64 ((cq js ks nj kd (p:Int) (q:Int)).1 * bI mask p * (1-bI mask (np+q))):=by rw[eM]; have:=hbd q; unfold I64; omega
   have i4:I64 (1-bI mask p):=by unfold I64; omega
   have i5:I64 ((cq js ks nj kd (p:Int) (q:Int)).2 * (1-bI mask p)):=by unfold I64; omega
   have i6:I64 ((cq js ks nj kd (p:Int) (q:Int)).2 * (1-bI mask p) * bI mask (np+q)):=by rw[eC]; have:=hbd q; unfold I64; omega
   have s1:=sM q
   have s2:=sC q
   have s3:=hbd q
   have i7:I64 (must+ay M q+M q):=by unfold I64; omega
   have i8:I64 (can+ay C q+C q):=by unfold I64; omega
   have x1:must+ay M q+M q=must+ay M (q+1):=by simp only[ay]; omega
   have x2:can+ay C q+C q=can+ay C (q+1):=by simp only[ay]; omega
   rw[if_pos (by omega),ak,aj,KV hbx h1.hole.1 h2.hole.1 h3.hole.1,aj,hix,aj,ak,aj,hld,aj,ax (bk hI2),hcast2,bit_k (by omega),a4]
   simp only[ptr]
   rw[Ny,aj,ak,aj,c0,aj,ax (rQ i1),ax (oW i2),ax (rQ i3),eM,ax (bk i7),Nz,aj,ak,aj,c1,aj,ax (oW i4),ax (rQ i5),ax (rQ i6),eC,ax (bk i8),ax (bk hI),hcast,x1,x2]
   obtain⟨H2,n2,e1,e2,e3⟩:=ih H1 n1 (by omega) (hkp.trans a2 hn) hlt
   exact⟨H2,n2,by omega,e2,e3⟩
  ·have:q=np:=by omega
   subst this
   rw[if_neg (by omega)]
   exact⟨H,n,Nat.le_refl _,hkp,rfl⟩
 intro m
 induction m with
 | zero=>
  intro q H n h1 h2 h3 h4
  exact body _ 0 q H n h1 h2 h3 (fun _ _ _ _ h=>absurd h (by omega))
 | succ m ih=>
  intro q H n h1 h2 h3 h4
  exact body _ (m+1) q H n h1 h2 h3 (fun H n q1 q2 q3=>ih (q+1) H n q1 q2 (by omega) (by omega))
theorem Good.pads{np nj nk p:Nat}{ps js ks:List Int}(good:Good np nj nk ps js ks)(hp:p<np):0≤ps.getD (p * 2) 0∧ps.getD (p * 2) 0≤ps.getD (p * 2+1) 0∧ps.getD (p * 2+1) 0≤1000000:=by
 refine Classical.byContradiction fun h=>good.ok (.inl ⟨p,hp,fun hb=>h ?_⟩)
 have h1:=hb.1
 have h2:=hb.2
 omega
noncomputable def nI(ps:List Int)(np mask:Nat)(e:Int)(q:Nat):Int:=ps.getD (q * 2) 0 * bI mask (np+q) * (1-e)
noncomputable def rI(ps:List Int)(np mask:Nat)(e:Int)(q:Nat):Int:=ps.getD (q * 2+1) 0 * (1-bI mask (np+q)) * e
theorem nr_bd{np nj nk q:Nat}{ps js ks:List Int}(good:Good np nj nk ps js ks)(hq:q<np){e:Int}(he:e=0∨e=1)(mask:Nat):(0≤nI ps np mask e q∧nI ps np mask e q≤1000000)∧(0≤rI ps np mask e q∧rI ps np mask e q≤1000000) ∧
  ps.getD (q * 2) 0 * bI mask (np+q)≤1000000∧0≤ps.getD (q * 2) 0 * bI mask (np+q)∧ps.getD (q * 2+1) 0 * (1-bI mask (np+q))≤1000000∧0≤ps.getD (q * 2+1) 0 * (1-bI mask (np+q)):=by
 obtain⟨r0,r1,r2⟩:=good.pads hq
 unfold nI rI
 generalize ps.getD (q * 2) 0=A at r0 r1 ⊢
 generalize ps.getD (q * 2+1) 0=B at r1 r2 ⊢
 rcases he with a | a <;> rcases bI01 mask (np+q) with b | b <;> rw[a,b] <;> simp <;> omega
theorem cut6(l k m1:Nat){np nj nk g0:Nat}{ps js ks:List Int}{x y z u1:Value}(good:Good np nj nk ps js ks)(mask:Nat){e:Int}(he:e=0∨e=1)
  (b1:Value→Value→Value→Value→Hp→Nat→Res) {must can:Int} (hB:0≤must∧must≤1000000∧0≤can∧can≤1000000) {H:Hp} {n n0:Nat}
  (hb:aW H g0 0 [x,y,z]) (hg:GroveI H n0 (.agg ⟨[x,y,z]⟩) np nj nk ps js ks) :
  ∀(m q:Nat),q≤np→np-q≤m →
   VW (cal l) k m1 b1 m u1 (.pointer (some ⟨g0,0,none⟩)) (.int .i64 np) (.int .i64 mask) (.int .i64 e) (.int .i64 (must+ay (nI ps np mask e) q)) (.int .i64 (can+ay (rI ps np mask e) q)) (.int .i64 q) H n
    = if can+ay (rI ps np mask e) np<must+ay (nI ps np mask e) np then some (.bool false,H,n) else My (cal l) k m1 b1 u1 (.pointer (some ⟨g0,0,none⟩)) (.int .i64 np) (.int .i64 mask) H n:=by
 have np8:=good.np8
 obtain⟨x',y',z',hxyz,h1,h2,h3⟩:=hg.eq
 cases hxyz
 have hbd:=fun q (hq:q<np)=>nr_bd good hq he mask
 generalize hM:nI ps np mask e=M at hbd ⊢
 generalize hC:rI ps np mask e=C at hbd ⊢
 have sM:∀ i,i≤np→0≤ay M i∧ay M i≤i * 1000000:=fun i hi=>rq fun k hk=>(hbd k (by omega)).1
 have sC:∀ i,i≤np→0≤ay C i∧ay C i≤i * 1000000:=fun i hi=>rq fun k hk=>(hbd k (by omega)).2.1
 have body:∀(b6:Value→Value→Value→Value→Value→Value→Value→Value→Hp→Nat→Res) (m q:Nat),q≤np →
   (q<np→b6 u1 (.pointer (some ⟨g0,0,none⟩)) (.int .i64 np) (.int .i64 mask) (.int .i64 e) (.int .i64 (must+ay M (q+1))) (.int .i64 (can+ay C (q+1))) (.int .i64 ((q+1:Nat):Int)) H n
     = if can+ay C np<must+ay M np then some (.bool false,H,n) else My (cal l) k m1 b1 u1 (.pointer (some ⟨g0,0,none⟩)) (.int .i64 np) (.int .i64 mask) H n) →
   C41_6 (cal l) k m1 m b1 b6 u1 (.pointer (some ⟨g0,0,none⟩)) (.int .i64 np) (.int .i64 mask) (.int .i64 e) (.int .i64 (must+ay M q)) (.int .i64 (can+ay C q)) (.int .i64 q) H n
    = if can+ay C np<must+ay M np then some (.bool false,H,n) else My (cal l) k m1 b1 u1 (.pointer (some ⟨g0,0,none⟩)) (.int .i64 np) (.int .i64 mask) H n:=by
  intro b6 m q hq ih
  unfold C41_6
  generalize My (cal l) k m1 b1=J at ih ⊢
  unfold B41_6
  rw[ax cJ,gw]
  by_cases hlt:q<np
  ·have hI:I64 ((q:Int)+1):=by unfold I64; omega
   have hcast:((q:Int)+1)=((q+1:Nat):Int):=by omega
   have hI2:I64 ((np:Int)+(q:Int)):=by unfold I64; omega
   have hcast2:((np:Int)+(q:Int))=((np+q:Nat):Int):=by omega
   have lx:az P H 22 ⟨g0,0+0,none⟩=some x:=bq (k:=0) hb Sj rfl h1.hole.1 h1.hole.2
   obtain⟨pb,po,hix,_,hc⟩:=h1.at_ Mw sz95 hlt
   have gA:ps[q * 2]?=some (ps.getD (q * 2) 0):=getD_some (by rw[h1.1]; omega)
   have gB:ps[q * 2+1]?=some (ps.getD (q * 2+1) 0):=getD_some (by rw[h1.1]; omega)
   have lA:az P H 3 ⟨pb,po+q * 2+0,none⟩=some (.int .i64 (ps.getD (q * 2) 0)):=bj (k:=q * 2) hc agg3 (gQ gA)
   have lB:az P H 3 ⟨pb,po+q * 2+1,none⟩=some (.int .i64 (ps.getD (q * 2+1) 0)):=by
    have:=bj (P:=P) (k:=q * 2+1) hc agg3 (gQ gB)
    rw[show po+(q * 2+1)=po+q * 2+1 by omega] at this
    exact this
   obtain⟨d1,d2,d3,d4,d5,d6⟩:=nr_bd good hlt he mask
   rw[hM] at d1
   rw[hC] at d2
   have hb2:=bI01 mask (np+q)
   have eM:ps.getD (q * 2) 0 * bI mask (np+q) * (1-e)=M q:=by rw[← hM]; rfl
   have eC:ps.getD (q * 2+1) 0 * (1-bI mask (np+q)) * e=C q:=by rw[← hC]; rfl
   have i1:I64 (ps.getD (q * 2) 0 * bI mask (np+q)):=by unfold I64; omega
   have i2:I64 (1-e):=by unfold I64; omega
   have i3:I64 (ps.getD (q * 2) 0 * bI mask (np+q) * (1-e)):=by rw[eM]; unfold I64; omega
   have i4:I64 (1-bI mask (np+q)):=by unfold I64; omega
   have i5:I64 (ps.getD (q * 2+1) 0 * (1-bI mask (np+q))):=by unfold I64; omega
   have i6:I64 (ps.getD (q * 2+1) 0 * (1-bI mask (np+q)) * e):=by rw[eC]; unfold I64; omega
   have s1:=sM q hq
   have s2:=sC q hq
   have i7:I64 (must+ay M q+M q):=by unfold I64; omega
   have i8:I64 (can+ay C q+C q):=by unfold I64; omega
   have x1:must+ay M q+M q=must+ay M (q+1):=by simp only[ay]; omega
   have x2:can+ay C q+C q=can+ay C (q+1):=by simp only[ay]; omega
   rw[if_pos (by omega),ax (bk hI2),hcast2,bit_k (by omega)]
   rw[Fq,aj,ak,aj,lx,aj,hix,aj,fa95_0,aj,ak,aj,lA,aj,ax (rQ i1),ax (oW i2),ax (rQ i3),eM,ax (bk i7)]
   rw[aj,ak,aj,lx,aj,hix,aj,fa95_1,aj,ak,aj,lB,aj,ax (oW i4),ax (rQ i5),ax (rQ i6),eC,ax (bk i8),ax (bk hI),hcast,x1,x2]
   exact ih hlt
  ·have:q=np:=by omega
   subst this
   rw[if_neg (by omega),ax wX,gw]
 intro m
 induction m with
 | zero=>
  intro q h3 h4
  exact body _ 0 q h3 (fun h=>absurd h (by omega))
 | succ m ih=>
  intro q h3 h4
  exact body _ (m+1) q h3 (fun q3=>ih (q+1) (by omega) (by omega))
noncomputable def mI(js ks ls:List Int)(nj np mask:Nat)(b:Int)(p:Nat):Int:=if ls.getD p 0<0 then 0 else ks.getD ((ls.getD p 0).toNat * 5) 0 * b * (1-bI mask p)+ay (muI js ks nj np (ls.getD p 0).toNat mask p) np
noncomputable def cI(js ks ls:List Int)(nj np mask:Nat)(b:Int)(p:Nat):Int:=if ls.getD p 0<0 then 0 else ks.getD ((ls.getD p 0).toNat * 5) 0 * (1-b) * bI mask p+ay (caI js ks nj np (ls.getD p 0).toNat mask p) np
theorem y_bd{nk kd:Nat}{ks:List Int}(h:IV ks nk)(hk:kd<nk)(mask p:Nat){b:Int}(hb:b=0∨b=1) :
  (0≤ks.getD (kd * 5) 0 * b∧ks.getD (kd * 5) 0 * b≤1000)∧(0≤ks.getD (kd * 5) 0 * b * (1-bI mask p)∧ks.getD (kd * 5) 0 * b * (1-bI mask p)≤1000) ∧
  (0≤ks.getD (kd * 5) 0 * (1-b)∧ks.getD (kd * 5) 0 * (1-b)≤1000)∧(0≤ks.getD (kd * 5) 0 * (1-b) * bI mask p∧ks.getD (kd * 5) 0 * (1-b) * bI mask p≤1000):=by
 obtain⟨r0,r1,_⟩:=h kd hk
 generalize ks.getD (kd * 5) 0=A at r0 r1 ⊢
 rcases hb with a | a <;> rcases bI01 mask p with b | b <;> rw[a,b] <;> simp <;> omega
theorem cut3(l k m1:Nat){np nj nk g0:Nat}{ps js ks ls:List Int}{x y z u1:Value}(good:Good np nj nk ps js ks)(hok:nQ js ks ls nj np nk)(mask:Nat){b e:Int}(hb:b=0∨b=1)
  (b1:Value→Value→Value→Value→Hp→Nat→Res) {H0:Hp} {n0:Nat} (hg0n:g0<n0)
  (hb0:aW H0 g0 0 [x,y,z]) (hg0:GroveI H0 n0 (.agg ⟨[x,y,z]⟩) np nj nk ps js ks) (hw0:ListR H0 n0 u1 np ls) :
  ∀(m p:Nat) (H:Hp) (n:Nat),n0≤n→Keep n0 H0 H→p≤np→np-p+8≤m→∃ H' n',n≤n'∧Keep n0 H0 H' ∧
   S41_3 (cal (l+2)) k m1 b1 m u1 (.pointer (some ⟨g0,0,none⟩)) (.int .i64 np) (.int .i64 mask) (.int .i64 b) (.int .i64 e) (.int .i64 (ay (mI js ks ls nj np mask b) p)) (.int .i64 (ay (cI js ks ls nj np mask b) p)) (.int .i64 p) H n
    = VW (cal (l+2)) k m1 b1 m1 u1 (.pointer (some ⟨g0,0,none⟩)) (.int .i64 np) (.int .i64 mask) (.int .i64 e) (.int .i64 (ay (mI js ks ls nj np mask b) np)) (.int .i64 (ay (cI js ks ls nj np mask b) np)) (.int .i64 (0:Nat)) H' n':=by
 have np8:=good.np8
 obtain⟨x',y',z',hxyz,h1,h2,h3⟩:=hg0.eq
 cases hxyz
 have hkd:∀ p,p<np→¬ ls.getD p 0<0→∃ kd:Nat,ls.getD p 0=kd∧kd<nk:=fun p hp hneg=>by
  obtain⟨kd,hkd⟩:∃ kd:Nat,ls.getD p 0=kd:=⟨(ls.getD p 0).toNat,by omega⟩
  refine⟨kd,hkd,?_⟩
  rcases hok p hp with q | ⟨_,q,_⟩
  ·omega
  ·omega
 have hval:∀ p kd:Nat,ls.getD p 0=(kd:Int)→mI js ks ls nj np mask b p=ks.getD (kd * 5) 0 * b * (1-bI mask p)+ay (muI js ks nj np kd mask p) np∧cI js ks ls nj np mask b p=ks.getD (kd * 5) 0 * (1-b) * bI mask p+ay (caI js ks nj np kd mask p) np:=fun p kd hk=>by
  unfold mI cI
  rw[if_neg (by omega),if_neg (by omega),hk,Int.toNat_natCast]
  exact⟨rfl,rfl⟩
 have hneg0:∀ p,ls.getD p 0<0→mI js ks ls nj np mask b p=0∧cI js ks ls nj np mask b p=0:=fun p hp=>by
  unfold mI cI
  rw[if_pos hp,if_pos hp]
  exact⟨rfl,rfl⟩
 generalize hM:mI js ks ls nj np mask b=M at hval hneg0 ⊢
 generalize hC:cI js ks ls nj np mask b=C at hval hneg0 ⊢
 have hbd:∀ p,p<np→(0≤M p∧M p≤9000)∧(0≤C p∧C p≤9000):=fun p hp=>by
  by_cases hneg:ls.getD p 0<0
  ·obtain⟨a,c⟩:=hneg0 p hneg
   omega
  ·obtain⟨kd,hk1,hk2⟩:=hkd p hp hneg
   obtain⟨a,c⟩:=hval p kd hk1
   have t1:0≤ay (muI js ks nj np kd mask p) np∧ay (muI js ks nj np kd mask p) np≤np * 1000:=rq fun q _=>(mc_bd (np:=np) good.small hk2 mask p q).1
   have t2:0≤ay (caI js ks nj np kd mask p) np∧ay (caI js ks nj np kd mask p) np≤np * 1000:=rq fun q _=>(mc_bd (np:=np) good.small hk2 mask p q).2.1
   obtain⟨y1,y2,y3,y4⟩:=y_bd good.small hk2 mask p hb
   omega
 have sM:∀ i,i≤np→0≤ay M i∧ay M i≤i * 9000:=fun i hi=>rq fun k hk=>(hbd k (by omega)).1
 have sC:∀ i,i≤np→0≤ay C i∧ay C i≤i * 9000:=fun i hi=>rq fun k hk=>(hbd k (by omega)).2
 have body:∀(b3:Value→Value→Value→Value→Value→Value→Value→Value→Value→Hp→Nat→Res) (m p:Nat) (H:Hp) (n:Nat),n0≤n→Keep n0 H0 H→p≤np→8≤m →
   (∀(H:Hp) (n:Nat),n0≤n→Keep n0 H0 H→p<np→∃ H' n',n≤n'∧Keep n0 H0 H' ∧
    b3 u1 (.pointer (some ⟨g0,0,none⟩)) (.int .i64 np) (.int .i64 mask) (.int .i64 b) (.int .i64 e) (.int .i64 (ay M (p+1))) (.int .i64 (ay C (p+1))) (.int .i64 ((p+1:Nat):Int)) H n
     = VW (cal (l+2)) k m1 b1 m1 u1 (.pointer (some ⟨g0,0,none⟩)) (.int .i64 np) (.int .i64 mask) (.int .i64 e) (.int .i64 (ay M np)) (.int .i64 (ay C np)) (.int .i64 (0:Nat)) H' n') →
   ∃ H' n',n≤n'∧Keep n0 H0 H' ∧
   C41_3 (cal (l+2)) k m1 m b1 b3 u1 (.pointer (some ⟨g0,0,none⟩)) (.int .i64 np) (.int .i64 mask) (.int .i64 b) (.int .i64 e) (.int .i64 (ay M p)) (.int .i64 (ay C p)) (.int .i64 p) H n
    = VW (cal (l+2)) k m1 b1 m1 u1 (.pointer (some ⟨g0,0,none⟩)) (.int .i64 np) (.int .i64 mask) (.int .i64 e) (.int .i64 (ay M np)) (.int .i64 (ay C np)) (.int .i64 (0:Nat)) H' n':=by
  intro b3 m p H n hn hkp hp hm ih
  unfold C41_3
  generalize hS6:VW (cal (l+2)) k m1 b1 m1=S6 at ih ⊢
  generalize hS5:S41_5 (cal (l+2)) k m1 m b1 b3 m=S5
  have hw:=hw0.keep hkp hn
  have hbx:=hb0.keep hkp hg0n
  have s1:=sM p hp
  have s2:=sC p hp
  unfold B41_3
  rw[ax cJ,gw]
  by_cases hlt:p<np
  ·have hI:I64 ((p:Int)+1):=by unfold I64; omega
   have hcast:((p:Int)+1)=((p+1:Nat):Int):=by omega
   obtain⟨rb,ro,hix,_,hld⟩:=hw.at_ hlt
   rw[if_pos (by omega),hix,aj,ak,aj,hld,aj,ax cJ,gw]
   by_cases hneg:ls.getD p 0<0
   ·obtain⟨a,c⟩:=hneg0 p hneg
    have x1:ay M (p+1)=ay M p:=by simp only[ay]; omega
    have x2:ay C (p+1)=ay C p:=by simp only[ay]; omega
    rw[if_pos hneg]
    unfold Mz B41_4
    rw[ax (bk hI),hcast]
    obtain⟨H2,n2,e1,e2,e3⟩:=ih H n hn hkp hlt
    rw[x1,x2] at e3
    exact⟨H2,n2,e1,e2,e3⟩
   ·obtain⟨kd,hk1,hk2⟩:=hkd p hlt hneg
    obtain⟨a,c⟩:=hval p kd hk1
    obtain⟨y1,y2,y3,y4⟩:=y_bd good.small hk2 mask p hb
    have lz:az P H 24 ⟨g0,0+2,none⟩=some z:=bq hbx Mv rfl h3.hole.1 h3.hole.2
    obtain⟨zb,zo,z1,_,z3⟩:=((h3.keep hkp (Nat.le_refl _)).up hn).at_ IQ sz94 hk2
    have hkl:kd * 5<ks.length:=by rw[h3.1]; omega
    have ly:az P H 3 ⟨zb,zo+kd * 5+0,none⟩=some (.int .i64 (ks.getD (kd * 5) 0)):=by
     have:=bj (P:=P) (o:=zo) (k:=kd * 5) z3 agg3 (gQ (getD_some hkl))
     exact this
    have hb2:=bI01 mask p
    have i1:I64 (ks.getD (kd * 5) 0 * b):=by unfold I64; omega
    have i2:I64 (1-bI mask p):=by unfold I64; omega
    have i3:I64 (ks.getD (kd * 5) 0 * b * (1-bI mask p)):=by unfold I64; omega
    have i4:I64 (ay M p+ks.getD (kd * 5) 0 * b * (1-bI mask p)):=by unfold I64; omega
    have i5:I64 (1-b):=by unfold I64; omega
    have i6:I64 (ks.getD (kd * 5) 0 * (1-b)):=by unfold I64; omega
    have i7:I64 (ks.getD (kd * 5) 0 * (1-b) * bI mask p):=by unfold I64; omega
    have i8:I64 (ay C p+ks.getD (kd * 5) 0 * (1-b) * bI mask p):=by unfold I64; omega
    rw[hk1] at hld
    rw[if_neg hneg,bit_k (by omega),Dq,aj,ak,aj,lz,aj,aj,ak,aj,hld,aj,z1,aj,fa94_0,aj,ak,aj,ly,aj,ax (rQ i1),ax (oW i2),ax (rQ i3),ax (bk i4),ax (oW i5),ax (rQ i6),ax (rQ i7),ax (bk i8),← hS5]
    obtain⟨H2,n2,e1,e2,e3⟩:=cut5 l k m1 m (u7:=.int .i64 b) (u8:=.int .i64 e) good hlt hk1 hk2 mask b1 b3 (must:=ay M p+ks.getD (kd * 5) 0 * b * (1-bI mask p)) (can:=ay C p+ks.getD (kd * 5) 0 * (1-b) * bI mask p) (by omega) hg0n hb0 hg0 hw0 m 0 H n hn hkp (by omega) (by omega)
    simp only[ay,Int.add_zero] at e3
    obtain⟨H3,n3,f1,f2,f3⟩:=ih H2 n2 (by omega) e2 hlt
    have x1:ay M p+ks.getD (kd * 5) 0 * b * (1-bI mask p)+ay (muI js ks nj np kd mask p) np=ay M (p+1):=by simp only[ay]; omega
    have x2:ay C p+ks.getD (kd * 5) 0 * (1-b) * bI mask p+ay (caI js ks nj np kd mask p) np=ay C (p+1):=by simp only[ay]; omega
    refine⟨H3,n3,by omega,f2,Eq.trans e3 ?_⟩
    unfold Mz B41_4
    rw[ax (bk hI),hcast,x1,x2]
    exact f3
  ·have:p=np:=by omega
   subst this
   rw[if_neg (by omega)]
   exact⟨H,n,Nat.le_refl _,hkp,rfl⟩
 intro m
 induction m with
 | zero=>
  intro p H n h1 h2 h3 h4
  omega
 | succ m ih=>
  intro p H n h1 h2 h3 h4
  exact body _ (m+1) p H n h1 h2 h3 (by omega) (fun H n q1 q2 q3=>ih (p+1) H n q1 q2 (by omega) (by omega))
end Go.Proofs.Ytmjbdjnnojfhkaa.spec
end
section
namespace Go.Proofs.Ytmjbdjnnojfhkaa.spec
open Go Go.Ev Go.Proofs.Ytmjbdjnnojfhkaa.nestFits Go.Proofs.Ytmjbdjnnojfhkaa.G
set_option maxRecDepth 100000
variable {ρ:Type}
noncomputable def mustI(js ks ps ls:List Int)(nj np mask:Nat):Int:=ay (mI js ks ls nj np mask (bI mask (2 * np))) np+ay (nI ps np mask (bI mask (2 * np+1))) np
noncomputable def canI(js ks ps ls:List Int)(nj np mask:Nat):Int:=ay (cI js ks ls nj np mask (bI mask (2 * np))) np+ay (rI ps np mask (bI mask (2 * np+1))) np
def NW(js ks ps ls:List Int)(nj np mask:Nat):Prop:=¬ (bI mask (2 * np)=1∧bI mask (2 * np+1)=0)→mustI js ks ps ls nj np mask≤canI js ks ps ls nj np mask
theorem mc3_bd{np nj nk:Nat}{ps js ks ls:List Int}(good:Good np nj nk ps js ks)(hok:nQ js ks ls nj np nk)(mask:Nat){b:Int}(hb:b=0∨b=1) :
  (0≤ay (mI js ks ls nj np mask b) np∧ay (mI js ks ls nj np mask b) np≤1000000)∧(0≤ay (cI js ks ls nj np mask b) np∧ay (cI js ks ls nj np mask b) np≤1000000):=by
 have np8:=good.np8
 have hbd:∀ p,p<np→(0≤mI js ks ls nj np mask b p∧mI js ks ls nj np mask b p≤9000)∧(0≤cI js ks ls nj np mask b p∧cI js ks ls nj np mask b p≤9000):=fun p hp=>by
  unfold mI cI
  by_cases hneg:ls.getD p 0<0
  ·rw[if_pos hneg,if_pos hneg]; omega
  ·rw[if_neg hneg,if_neg hneg]
   have hk:(ls.getD p 0).toNat<nk:=by
    rcases hok p hp with q | ⟨_,q,_⟩
    ·omega
    ·omega
   have t1:0≤ay (muI js ks nj np (ls.getD p 0).toNat mask p) np∧ay (muI js ks nj np (ls.getD p 0).toNat mask p) np≤np * 1000:=rq fun q _=>(mc_bd (np:=np) good.small hk mask p q).1
   have t2:0≤ay (caI js ks nj np (ls.getD p 0).toNat mask p) np∧ay (caI js ks nj np (ls.getD p 0).toNat mask p) np≤np * 1000:=rq fun q _=>(mc_bd (np:=np) good.small hk mask p q).2.1
   obtain⟨y1,y2,y3,y4⟩:=y_bd good.small hk mask p hb
   omega
 have a:=rq (i:=np) (fun k hk=>(hbd k hk).1)
 have c:=rq (i:=np) (fun k hk=>(hbd k hk).2)
 omega
theorem cut1(l k:Nat){np nj nk g0:Nat}{ps js ks ls:List Int}{x y z u1:Value}(good:Good np nj nk ps js ks)(np6:np≤6)(hok:nQ js ks ls nj np nk){H0:Hp}{n0:Nat}(hg0n:g0<n0)
  (hb0:aW H0 g0 0 [x,y,z]) (hg0:GroveI H0 n0 (.agg ⟨[x,y,z]⟩) np nj nk ps js ks) (hw0:ListR H0 n0 u1 np ls) :
  ∀(m i:Nat) (H:Hp) (n:Nat),n0≤n→Keep n0 H0 H→i≤2 ^ (2 * np+2)→2 ^ (2 * np+2)-i+20≤m→∃(r:Bool) (H':Hp) (n':Nat),n≤n'∧Keep n0 H0 H' ∧
   S41_1 (cal (l+2)) k m u1 (.pointer (some ⟨g0,0,none⟩)) (.int .i64 np) (.int .i64 i) H n=some (.bool r,H',n')∧(r=true↔∀ j,i≤j→j<2 ^ (2 * np+2)→NW js ks ps ls nj np j):=by
 have np8:=good.np8
 have hN:(1:Int) * 2 ^ (2 * np+2)=((2 ^ (2 * np+2):Nat):Int):=by simp
 have hN2:2 ^ (2 * np+2)≤16384:=Nat.le_trans (Nat.pow_le_pow_right (by omega) (show 2 * np+2≤14 by omega)) (by decide)
 generalize 2 ^ (2 * np+2)=N at hN hN2 ⊢
 have body:∀(b1:Value→Value→Value→Value→Hp→Nat→Res) (m i:Nat) (H:Hp) (n:Nat),n0≤n→Keep n0 H0 H→i≤N→20≤m →
   (∀(H:Hp) (n:Nat),n0≤n→Keep n0 H0 H→i<N→∃(r:Bool) (H':Hp) (n':Nat),n≤n'∧Keep n0 H0 H' ∧
    b1 u1 (.pointer (some ⟨g0,0,none⟩)) (.int .i64 np) (.int .i64 ((i+1:Nat):Int)) H n=some (.bool r,H',n')∧(r=true↔∀ j,i+1≤j→j<N→NW js ks ps ls nj np j)) →
   ∃(r:Bool) (H':Hp) (n':Nat),n≤n'∧Keep n0 H0 H' ∧
   C41_1 (cal (l+2)) k m b1 u1 (.pointer (some ⟨g0,0,none⟩)) (.int .i64 np) (.int .i64 i) H n=some (.bool r,H',n')∧(r=true↔∀ j,i≤j→j<N→NW js ks ps ls nj np j):=by
  intro b1 m i H n hn hkp hi hm ih
  unfold C41_1
  generalize hS3:S41_3 (cal (l+2)) k m b1 m=S3
  have c1:(2:Int) * (np:Int)=((2 * np:Nat):Int):=by omega
  have c2:((2 * np:Nat):Int)+2=((2 * np+2:Nat):Int):=by omega
  have c3:((2 * np:Nat):Int)+1=((2 * np+1:Nat):Int):=by omega
  have i1:I64 ((2:Int) * (np:Int)):=by unfold I64; omega
  have i2:I64 (((2 * np:Nat):Int)+2):=by unfold I64; omega
  have i3:I64 (((2 * np:Nat):Int)+1):=by unfold I64; omega
  have i4:I64 ((1:Int) * 2 ^ (2 * np+2)):=by rw[hN]; unfold I64; omega
  have hI:I64 ((i:Int)+1):=by unfold I64; omega
  have hcast:((i:Int)+1)=((i+1:Nat):Int):=by omega
  unfold B41_1
  rw[ax (rQ i1),c1,ax (bk i2),c2,conv3u (by omega),aj,ax (bin_shl (by omega) i4),hN,ax cJ,gw]
  by_cases hlt:i<N
  ·rw[if_pos (by omega),ax (rQ i1),c1,bit_k (by omega),ax (rQ i1),c1,ax (bk i3),c3,bit_k (by omega),ax jY]
   have hb:=bI01 i (2 * np)
   have he:=bI01 i (2 * np+1)
   have step:∀ r:Bool,(r=true↔NW js ks ps ls nj np i∧∀ j,i+1≤j→j<N→NW js ks ps ls nj np j)→(r=true↔∀ j,i≤j→j<N→NW js ks ps ls nj np j):=fun r hr=>by
    refine hr.trans ⟨fun h j q1 q2=>?_,fun h=>⟨h i (Nat.le_refl _) hlt,fun j q1 q2=>h j (by omega) q2⟩⟩
    rcases Nat.eq_or_lt_of_le q1 with e | e
    ·subst e; exact h.1
    ·exact h.2 j e q2
   have next:∀(H:Hp) (n:Nat),n0≤n→Keep n0 H0 H→NW js ks ps ls nj np i→∃(r:Bool) (H':Hp) (n':Nat),n≤n'∧Keep n0 H0 H'∧My (cal (l+2)) k m b1 u1 (.pointer (some ⟨g0,0,none⟩)) (.int .i64 np) (.int .i64 i) H n=some (.bool r,H',n')∧(r=true↔∀ j,i≤j→j<N→NW js ks ps ls nj np j):=fun H n hn hkp hc=>by
    unfold My B41_2
    rw[ax (bk hI),hcast]
    obtain⟨r,H',n',f1,f2,f3,f4⟩:=ih H n hn hkp hlt
    exact⟨r,H',n',f1,f2,f3,step r (f4.trans ⟨fun h=>⟨hc,h⟩,fun h=>h.2⟩)⟩
   have go:¬ (bI i (2 * np)=1∧bI i (2 * np+1)=0)→∃(r:Bool) (H':Hp) (n':Nat),n≤n'∧Keep n0 H0 H' ∧
     S3 u1 (.pointer (some ⟨g0,0,none⟩)) (.int .i64 np) (.int .i64 i) (.int .i64 (bI i (2 * np))) (.int .i64 (bI i (2 * np+1))) (.int .i64 0) (.int .i64 0) (.int .i64 0) H n=some (.bool r,H',n')∧(r=true↔∀ j,i≤j→j<N→NW js ks ps ls nj np j):=fun hc=>by
    obtain⟨H2,n2,e1,e2,e3⟩:=cut3 l k m (e:=bI i (2 * np+1)) good hok i hb b1 hg0n hb0 hg0 hw0 m 0 H n hn hkp (Nat.zero_le _) (by omega)
    obtain⟨z1,z2⟩:=mc3_bd good hok i hb
    have e4:=cut6 (l+2) k m (u1:=u1) (H:=H2) (n:=n2) good i he b1 (must:=ay (mI js ks ls nj np i (bI i (2 * np))) np) (can:=ay (cI js ks ls nj np i (bI i (2 * np))) np) (by omega) (hb0.keep e2 hg0n) (hg0.keep e2 (Nat.le_refl _)) m 0 (Nat.zero_le _) (by omega)
    simp only[ay,Int.add_zero] at e3 e4
    have e5:=e3.trans e4
    rw[← hS3]
    by_cases hd:ay (cI js ks ls nj np i (bI i (2 * np))) np+ay (rI ps np i (bI i (2 * np+1))) np<ay (mI js ks ls nj np i (bI i (2 * np))) np+ay (nI ps np i (bI i (2 * np+1))) np
    ·rw[if_pos hd] at e5
     refine⟨false,H2,n2,e1,e2,e5,step false ⟨fun h=>(by cases h),fun h=>absurd (h.1 hc) (by unfold mustI canI; omega)⟩⟩
    ·rw[if_neg hd] at e5
     obtain⟨r,H',n',f1,f2,f3,f4⟩:=next H2 n2 (by omega) e2 (fun _=>by unfold mustI canI; omega)
     exact⟨r,H',n',by omega,f2,e5.trans f3,f4⟩
   cases hd:decide (bI i (2 * np)=1) with
   | false=>
    have hd:=of_decide_eq_false hd
    rw[eJ,eJ,dQ,aj,ez]
    exact go (fun h=>hd h.1)
   | true=>
    have hd:=of_decide_eq_true hd
    rw[dk]
    dsimp only
    rw[dk,ax jY]
    dsimp only
    rw[dw,aj,gw]
    by_cases h0:bI i (2 * np+1)=0
    ·rw[if_pos h0]
     exact next H n hn hkp (fun h=>absurd ⟨hd,h0⟩ h)
    ·rw[if_neg h0]
     exact go (fun h=>h0 h.2)
  ·rw[if_neg (by omega)]
   exact⟨true,H,n,Nat.le_refl _,hkp,rfl,⟨fun _ j q1 q2=>absurd q1 (by omega),fun _=>rfl⟩⟩
 intro m
 induction m with
 | zero=>
  intro i H n h1 h2 h3 h4
  omega
 | succ m ih=>
  intro i H n h1 h2 h3 h4
  exact body _ (m+1) i H n h1 h2 h3 (by omega) (fun H n q1 q2 q3=>ih (i+1) H n q1 q2 (by omega) (by omega))
theorem call41(l:Nat)(a b:Value)(H:Hp)(n:Nat):(cal (l+1)).call 41 [a,b] H n=C41_0 (cal l) KK a b H n:=by kernel_rfl
theorem canBeGood_call(l:Nat){np nj nk:Nat}{ps js ks ls:List Int}(good:Good np nj nk ps js ks)(np6:np≤6)(hok:nQ js ks ls nj np nk){H:Hp}{n:Nat}{g w:Value}(hg:GroveI H n g np nj nk ps js ks)(hw:ListR H n w np ls) :
  ∃(r:Bool) (H':Hp) (n':Nat),(r=true↔∀ j,j<2 ^ (2 * np+2)→NW js ks ps ls nj np j)∧(∀ k:Value→Hp→Nat→Option ρ,aX P (cal (l+3)) 41 [g,w] H n k=k (.bool r) H' n')∧n≤n'∧Keep n H H':=by
 have np8:=good.np8
 obtain⟨x,y,z,rfl,h1,h2,h3⟩:=hg.eq
 have hk:Keep n H (H.set n (some (.cells [x,y,z] 26 false none))):=(Keep.refl n H).set (Nat.le_refl _) _
 have hb:aW (H.set n (some (.cells [x,y,z] 26 false none))) n 0 [x,y,z]:=aW.new
 have hN2:2 ^ (2 * np+2)≤16384:=Nat.le_trans (Nat.pow_le_pow_right (by omega) (show 2 * np+2≤14 by omega)) (by decide)
 obtain⟨r,H',n',e1,e2,e3,e4⟩:=cut1 l KK good np6 hok (show n<n+1 by omega) hb (hg.keep hk (show n≤n+1 by omega)) (hw.keep hk (show n≤n+1 by omega)) KK 0 _ (n+1) (Nat.le_refl _) (Keep.refl _ _) (Nat.zero_le _) (by unfold KK; omega)
 refine⟨r,H',n',e4.trans ⟨fun h j hj=>h j (Nat.zero_le _) hj,fun h j _ hj=>h j hj⟩,fun k=>?_,by omega,hk.trans (e2.le (by omega)) (Nat.le_refl _)⟩
 unfold aX
 have hne:bw w=false:=by
  rcases hw.2.2 with⟨rfl,h⟩ | ⟨b,o,cap,rfl,_⟩
  ·exact absurd h good.np1
  ·rfl
 have:(iY P 41 && ck [.agg ⟨[x,y,z]⟩,w])=false:=by rw[Bool.and_eq_false_iff]; exact .inr (by simp [ck,hne])
 rw[this,show l+3=(l+2)+1 by omega,call41]
 unfold C41_0 B41_0
 rw[dZ]
 simp only[aZ,ptr]
 rw[hw.len_eq,aj]
 exact congrArg (fun o=>aq o fun r=>k r.1 r.2.1 r.2.2) e3
end Go.Proofs.Ytmjbdjnnojfhkaa.spec
end
