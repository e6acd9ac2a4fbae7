/- Texts S75 to F2. -/
import Derived.Test.YtekajfobmnedjaaB2
section
namespace Go.Proofs.Ytekajfobmnedjaa.spec
open Go Go.Ev Go.Proofs.Ytekajfobmnedjaa.nestFits Go.Proofs.Ytekajfobmnedjaa.G
set_option maxRecDepth 100000
variable {ρ:Type}
theorem agg4':fx P 4=some false:=by kernel_rfl
theorem sz4':szT P 4=some 1:=by kernel_rfl
theorem zero4':iZ P 4=some (.bool false):=by kernel_rfl
def Oq (T:Tm) (b1 b2 b4 b5:Nat) (v16 v17:Value):Prop:=(∃ o,T=TB o (.pointer (some ⟨b1,0,none⟩)) (.pointer (some ⟨b2,0,none⟩)) (.pointer (some ⟨b4,0,none⟩)) (.pointer (some ⟨b5,0,none⟩)) v16 v17)∨∃ o,T=TC o (.pointer (some ⟨b1,0,none⟩)) (.pointer (some ⟨b2,0,none⟩)) (.pointer (some ⟨b4,0,none⟩)) (.pointer (some ⟨b5,0,none⟩)) v16 v17
theorem asg_of (l lp:Nat) {T:Tm} {b1 b2 b4 b5:Nat} {v16 v17:Value} (hT:Oq T b1 b2 b4 b5 v16 v17) (p q:Value) (H:Hp) (n:Nat) :
  (cal (l+1)).body lp 81 lJ { T:=(T.set 23 (some p)).set 24 (some q),H,n,D:=[] } =
   (cQ P 121 H n fun v7 H n=>aq (bx P 121 v7 p H) fun H=>cQ P 111 H n fun v8 H n=>aq (bx P 111 v8 q H) fun H=>some (.norm,{ T:=(((T.set 23 (some p)).set 24 (some q)).set 7 (some v7)).set 8 (some v8),H,n,D:=[] })):=by
 rcases hT with⟨o,rfl⟩ | ⟨o,rfl⟩
 ·exact asg81_B ..
 ·exact asg81_C ..
theorem bod_of (l lp:Nat) {T:Tm} {b1 b2 b4 b5:Nat} {v16 v17:Value} (hT:Oq T b1 b2 b4 b5 v16 v17) (p q v7 v8:Value) (H:Hp) (n:Nat):∃ U V:Value→Value→Value→Value→Tm,
  (cal (l+1)).body lp 81 lW { T:=(((T.set 23 (some p)).set 24 (some q)).set 7 (some v7)).set 8 (some v8),H,n,D:=[] } =
   (aq (aX (.pointer (some ⟨b1,0,none⟩))) fun a=>aq (ak P H 105 a) fun v25=>aq (aX v8) fun a=>aq (ak P H 111 a) fun v26=>aW P (cal l) 83 [v25,v26] H n fun v27 H n=>ifK v27
    (aq (aX v7) fun a=>aq (ak P H 121 a) fun v28=>aq (bx P 121 (.pointer (some ⟨b4,0,none⟩)) v28 H) fun H=>aq (bx P 4 (.pointer (some ⟨b5,0,none⟩)) (.bool true) H) fun H=>
     some (.exit 0,{ T:=U v25 v26 v27 v28,H,n,D:=[] }))
    (some (.norm,{ T:=V v25 v26 v27 v27,H,n,D:=[] }))):=by
 rcases hT with⟨o,rfl⟩ | ⟨o,rfl⟩
 ·exact⟨fun v25 v26 v27 v28=>_,fun v25 v26 v27 _=>_,bod81_B ..⟩
 ·exact⟨fun v25 v26 v27 v28=>_,fun v25 v26 v27 _=>_,bod81_C ..⟩
theorem yield81 (l:Nat) {T:Tm} {H:Hp} {n lb b1 b2 b4 b5 g d np nj:Nat} {f:Nat→Value} {x y z v16 v17:Value} {ps js ks L X:List Int} (hT:Oq T b1 b2 b4 b5 v16 v17)
  (hl:H.get lb=some (.loop .ready none 81 T (ntm P 81) #[23,24] lJ lW d)) (h1:H.get b1=some (.cells [.pointer (some ⟨g,0,none⟩)] 105 false none)) (h4:∃ w,H.get b4=some (.cells w 121 false none)∧w.length=8) (h5:∃ w,H.get b5=some (.cells [w] 4 false none))
  (hf:bV H g 859 117 f) (hs:SiteF f x y z js nj) (hx:cV H n 2 x np ps) (hnp:np≤8) (hL:L.length=8) (hX:xV X js ks L nj np 8)
  (hlb:lb<n) (hb1:b1<n) (hb4:b4<n) (hb5:b5<n) (hg:g<n) (e1:b1≠lb) (e4:b4≠lb) (e5:b5≠lb) (eg:g≠lb) (e45:b4≠b5) (hxl:∀ H':Hp,(∀ b,b≠lb→H'.get b=H.get b)→cV H' n 2 x np ps) :
  ∃ H' n',n≤n'∧(∀ b,b<n→b≠lb→b≠b4→b≠b5→H'.get b=H.get b) ∧
   ((nK js ks ps nj np L=true∧(∀ k:Value→Hp→Nat→Option ρ,ew P (cal (l+5)) (.func (.yield lb) #[] #[]) [.agg ⟨ints L⟩,.agg ⟨ints X⟩] H n k=k (.bool false) H' n')∧H'.get b4=some (.cells (ints L) 121 false none)∧H'.get b5=some (.cells [.bool true] 4 false none)∧H'.get lb=some (.loop .done (some (.exit 0)) 81 T (ntm P 81) #[23,24] lJ lW d)) ∨
    (nK js ks ps nj np L=false∧(∀ k:Value→Hp→Nat→Option ρ,ew P (cal (l+5)) (.func (.yield lb) #[] #[]) [.agg ⟨ints L⟩,.agg ⟨ints X⟩] H n k=k (.bool true) H' n')∧H'.get b4=H.get b4∧H'.get b5=H.get b5∧H'.get lb=H.get lb)):=by
 have lLi:(ints L).length=8:=by rw[bj,hL]
 have lXi:(ints X).length=16:=by rw[bj,hX.1]
 have hpar:sJ T (ntm P 81) (#[23,24]:Array Tmp).toList [.agg ⟨ints L⟩,.agg ⟨ints X⟩]=some ((T.set 23 (some (.agg ⟨ints L⟩))).set 24 (some (.agg ⟨ints X⟩))):=by
  rw[ntm81]; rfl
 obtain⟨H1,k1,k2,k3⟩:=vX (P:=P) (ρ:=Ex × St) (H:=H) (n:=n) (L:=ints L) wQ rfl kK lLi (eV _)
 obtain⟨H2,k4,k5,k6⟩:=vX (P:=P) (ρ:=Ex × St) (H:=H1) (n:=n+1) (L:=ints X) Yq rfl qW lXi (eV _)
 have kk:Keep n H H2:=k1.trans k4 (by omega)
 have hasg:(cal (l+5)).body lb 81 lJ { T:=(T.set 23 (some (.agg ⟨ints L⟩))).set 24 (some (.agg ⟨ints X⟩)),H,n,D:=[] }=some (.norm,{ T:=(((T.set 23 (some (.agg ⟨ints L⟩))).set 24 (some (.agg ⟨ints X⟩))).set 7 (some (.pointer (some ⟨n,0,none⟩)))).set 8 (some (.pointer (some ⟨n+1,0,none⟩))),H:=H2,n:=n+1+1,D:=[] }):=by
  rw[asg_of (l+4) lb hT,k3,k6]
 have hl2:=(kk lb hlb).trans hl
 have hrdy:pW H2 lb=true:=by unfold pW; rw[hl2]
 have hpen:kv H2 lb=none:=by unfold kv; rw[hl2]
 have hbusy:fJ H2 lb .busy none=some (H2.set lb (some (.loop .busy none 81 T (ntm P 81) #[23,24] lJ lW d))):=by unfold fJ; rw[hl2]
 have ho:∀ b,b≠lb→(H2.set lb (some (.loop .busy none 81 T (ntm P 81) #[23,24] lJ lW d))).get b=H2.get b:=fun b hb=>by rw[Tr.get_set,if_neg hb]
 have gl:(H2.set lb (some (.loop .busy none 81 T (ntm P 81) #[23,24] lJ lW d))).get lb=some (.loop .busy none 81 T (ntm P 81) #[23,24] lJ lW d):=by rw[Tr.get_set,if_pos rfl]
 have hx3:cV (H2.set lb (some (.loop .busy none 81 T (ntm P 81) #[23,24] lJ lW d))) (n+1+1) 2 x np ps:=by
  have:=(hxl (H.set lb (some (.loop .busy none 81 T (ntm P 81) #[23,24] lJ lW d))) fun b hb=>by rw[Tr.get_set,if_neg hb])
  refine(this.keep (m:=n) (fun b hb=>?_) (Nat.le_refl _)).up (by omega)
  rw[Tr.get_set,Tr.get_set]
  split
  ·rfl
  ·exact kk b hb
 generalize H2.set lb (some (.loop .busy none 81 T (ntm P 81) #[23,24] lJ lW d))=H3 at hbusy ho gl hx3
 have low:∀ b,b<n→b≠lb→H3.get b=H.get b:=fun b hb hne=>(ho b hne).trans (kk b hb)
 have g7:H3.get n=some (.cells (ints L) 121 false none):=by rw[ho n (by omega),k4 n (by omega)]; exact k2
 have g8:H3.get (n+1)=some (.cells (ints X) 111 false none):=by rw[ho _ (by omega)]; exact k5
 have hf3:bV H3 g 859 117 f:=by
  obtain⟨c,a1,a2,a3⟩:=hf
  exact⟨c,(low g hg eg).trans a1,a2,a3⟩
 obtain⟨r,H4,n4,r0,r1,r2,r3⟩:=Px (ρ:=Ex × St) l (show g<n+1+1 by omega) hf3 hs hx3 hnp hX.1
 have hr:r=true↔nK js ks ps nj np L=true:=by rw[r0,Uq hX hnp,yz]
 have o4:∀ b,b<n→b≠lb→H4.get b=H.get b:=fun b hb hne=>(r3 b (by omega)).trans (low b hb hne)
 have gl4:H4.get lb=some (.loop .busy none 81 T (ntm P 81) #[23,24] lJ lW d):=(r3 lb (by omega)).trans gl
 have l1:ak P H3 105 ⟨b1,0,none⟩=some (.pointer (some ⟨g,0,none⟩)):=fQ ((low b1 hb1 e1).trans h1) pK rfl rfl
 obtain⟨U,V,hbd⟩:=bod_of (l+4) lb hT (.agg ⟨ints L⟩) (.agg ⟨ints X⟩) (.pointer (some ⟨n,0,none⟩)) (.pointer (some ⟨n+1,0,none⟩)) H3 (n+1+1)
 rw[aQ,aj,l1,aj,aQ,aj,bZ g8 pw qW lXi,aj,r1] at hbd
 have out:∀(j:Bool) (H':Hp) (n':Nat),(∀ k:Value→Hp→Nat→Option ρ,kW (fun | some l'=>(cal (l+5)).body l' | none=>fun _ _ _=>none) P lb [.agg ⟨ints L⟩,.agg ⟨ints X⟩] (bare H n)=some (.bool j,{ bare H n with H:=H',n:=n' })→ew P (cal (l+5)) (.func (.yield lb) #[] #[]) [.agg ⟨ints L⟩,.agg ⟨ints X⟩] H n k=k (.bool j) H' n'):=by
  intro j H' n' k hy
  show stK (kW (fun | some l'=>(cal (l+5)).body l' | none=>fun _ _ _=>none) P lb [.agg ⟨ints L⟩,.agg ⟨ints X⟩] (bare H n)) k=_
  rw[hy]
  rfl
 have hb:Nat.beq (ntm P 81) (ntm P 81)=true:=Nat.beq_refl _
 cases r with
 | false=>
  have hRf:nK js ks ps nj np L=false:=by
   cases c:nK js ks ps nj np L with
   | false=>rfl
   | true=>exact absurd (hr.2 c) (by simp)
  rw[dX] at hbd
  have hend:fJ H4 lb .ready none=some (H4.set lb (some (.loop .ready none 81 T (ntm P 81) #[23,24] lJ lW d))):=by unfold fJ; rw[gl4]
  refine⟨H4.set lb (some (.loop .ready none 81 T (ntm P 81) #[23,24] lJ lW d)),n4,by omega,fun b hbn h1 _ _=>by rw[Tr.get_set,if_neg h1]; exact o4 b hbn h1,.inr ⟨hRf,fun k=>out true _ _ k ?_,by rw[Tr.get_set,if_neg e4]; exact o4 b4 hb4 e4,by rw[Tr.get_set,if_neg e5]; exact o4 b5 hb5 e5,by rw[Tr.get_set,if_pos rfl,hl]⟩⟩
  unfold kW
  have hx:Az .norm=some none:=rfl
  simp only[bare,hl,hb,hpar,hasg,hrdy,hpen,hbusy,hbd,hx,Option.isNone_none,if_true,hend]
 | true=>
  obtain⟨w4,w41,w42⟩:=h4
  obtain⟨w5,w51⟩:=h5
  have g4:=(o4 b4 hb4 e4).trans w41
  have hst:=dZ (vs:=ints L) g4 (by rw[lLi,w42]) (eV _)
  have g5:(H4.set b4 (some (.cells (ints L) 121 false none))).get b5=some (.cells [w5] 4 false none):=by rw[Tr.get_set,if_neg (Ne.symm e45)]; exact(o4 b5 hb5 e5).trans w51
  have hst5:=dZ (vs:=[.bool true]) g5 rfl rfl
  have l7:=bZ ((r3 n (by omega)).trans g7) nX kK lLi
  rw[eZ,aQ,aj,l7,aj,jX kK lLi,hst,aj,gX sz4' rfl,hst5,aj] at hbd
  have q1:((H4.set b4 (some (.cells (ints L) 121 false none))).set b5 (some (.cells [.bool true] 4 false none))).get b4=some (.cells (ints L) 121 false none):=by rw[Tr.get_set,if_neg e45,Tr.get_set,if_pos rfl]
  have q2:((H4.set b4 (some (.cells (ints L) 121 false none))).set b5 (some (.cells [.bool true] 4 false none))).get b5=some (.cells [.bool true] 4 false none):=by rw[Tr.get_set,if_pos rfl]
  have q3:∀ b,b≠b4→b≠b5→((H4.set b4 (some (.cells (ints L) 121 false none))).set b5 (some (.cells [.bool true] 4 false none))).get b=H4.get b:=fun b h1 h2=>by rw[Tr.get_set,if_neg h2,Tr.get_set,if_neg h1]
  generalize (H4.set b4 (some (.cells (ints L) 121 false none))).set b5 (some (.cells [.bool true] 4 false none))=H5 at hbd q1 q2 q3
  have hend:fJ H5 lb .done (some (.exit 0))=some (H5.set lb (some (.loop .done (some (.exit 0)) 81 T (ntm P 81) #[23,24] lJ lW d))):=by unfold fJ; rw[q3 lb (Ne.symm e4) (Ne.symm e5),gl4]
  refine⟨H5.set lb (some (.loop .done (some (.exit 0)) 81 T (ntm P 81) #[23,24] lJ lW d)),n4,by omega,fun b hbn h1 h2 h3=>by rw[Tr.get_set,if_neg h1,q3 b h2 h3]; exact o4 b hbn h1,.inl ⟨hr.1 rfl,fun k=>out false _ _ k ?_,by rw[Tr.get_set,if_neg e4]; exact q1,by rw[Tr.get_set,if_neg e5]; exact q2,by rw[Tr.get_set,if_pos rfl]⟩⟩
  unfold kW
  have hx:Az (.exit 0)=some (some (.exit 0)):=rfl
  have hn:(some (Code.exit 0)).isNone=false:=rfl
  have hff:¬ (false=true):=by simp
  simp only[bare,hl,hb,hpar,hasg,hrdy,hpen,hbusy,hbd,hx,hn,if_neg hff,hend]
end Go.Proofs.Ytekajfobmnedjaa.spec
end
section
namespace Go.Proofs.Ytekajfobmnedjaa.spec
open Go Go.Ev Go.Proofs.Ytekajfobmnedjaa.nestFits Go.Proofs.Ytekajfobmnedjaa.G
set_option maxRecDepth 100000
variable {ρ:Type}
end Go.Proofs.Ytekajfobmnedjaa.spec
end
section
namespace Go.Proofs.Ytekajfobmnedjaa.spec
open Go Go.Ev Go.Proofs.Ytekajfobmnedjaa.nestFits Go.Proofs.Ytekajfobmnedjaa.G
set_option maxRecDepth 100000
variable {ρ:Type}
end Go.Proofs.Ytekajfobmnedjaa.spec
end
section
namespace Go.Proofs.Ytekajfobmnedjaa.spec
open Go Go.Ev Go.Proofs.Ytekajfobmnedjaa.nestFits Go.Proofs.Ytekajfobmnedjaa.G
set_option maxRecDepth 100000
variable {ρ:Type}
end Go.Proofs.Ytekajfobmnedjaa.spec
end
section
namespace Go.Proofs.Ytekajfobmnedjaa.spec
open Go Go.Ev Go.Proofs.Ytekajfobmnedjaa.nestFits Go.Proofs.Ytekajfobmnedjaa.G
set_option maxRecDepth 100000
variable {ρ:Type}
def RowAt (H:Hp) (base n:Nat) (v:Value) (xs:List Int):Prop:=(v=.slice none 0 0∧xs=[])∨∃ b cap,v=.slice (some ⟨b,0,none⟩) xs.length cap∧base≤b∧b<n∧H.get b=some (.cells (ints xs) 3 false (some 1))
theorem RowAt.list {H:Hp} {base n:Nat} {v:Value} {xs:List Int} (h:RowAt H base n v xs) (hx:∀ x ∈ xs,I64 x):ListR H n v xs.length xs:=by
 refine⟨rfl,hx,?_⟩
 rcases h with⟨h1,h2⟩ | ⟨b,cap,e,h1,h2,h3⟩
 ·exact .inl ⟨h1,by rw[h2]; rfl⟩
 ·exact .inr ⟨b,0,cap,e,h2,ej h3⟩
theorem eq44 (p q:Operand) (b o l c:Nat):binV P .eql 44 p q (.slice (some ⟨b,o,none⟩) l c) (.slice none 0 0)=some (.bool false):=by kernel_rfl
theorem flat76:fj P 76=false:=by kernel_rfl
theorem call76 (l:Nat) (a:Value) (H:Hp) (n:Nat):(cal (l+1)).call 76 [a] H n=Oz (cal l) KK a H n:=by kernel_rfl
theorem clone76_at (l:Nat) {H:Hp} {n len:Nat} {v:Value} {xs:List Int} (h:ListR H n v len xs) (h0:len≠0) (hlen:len≤1000) :
  ∃ H' n',(∀ k:Value→Hp→Nat→Option ρ,aW P (cal (l+1)) 76 [v] H n k=k (.slice (some ⟨n+1,0,none⟩) len capV) H' n')∧n+1<n'∧Keep n H H'∧H'.get (n+1)=some (.cells (ints xs) 3 false (some 1)):=by
 obtain⟨H',n',e,h1,h2,h3⟩:=list_at (cal l) KK h h0 hlen
 have e':Oz (cal l) KK v H n=KX (cal l) KK v H n:=by
  rcases h.2.2 with⟨_,z⟩ | ⟨b,o,cap,rfl,_⟩
  ·exact absurd z h0
  ·unfold Oz B76_0 KX B23_0
   rw[aJ (eq44 ..),dX]
 refine⟨H',n',fun k=>?_,h1,h2,h3⟩
 unfold aW
 rw[flat76,call76,e',e]
 rfl
theorem ints_take_list {H:Hp} {b n k:Nat} {xs:List Int} {e:TypeId} {vec:Option Nat} (h:H.get b=some (.cells (ints xs) e false vec)) (hb:b<n) (hk:k≤xs.length) (hx:∀ x ∈ xs,I64 x) {cap:Nat}:ListR H n (.slice (some ⟨b,0,none⟩) k cap) k (xs.take k):=by
 refine⟨by simp; omega,fun x hx'=>hx x (List.mem_of_mem_take hx'),.inr ⟨b,0,cap,rfl,hb,_,ints xs,h,rfl,fun q v hv=>?_⟩⟩
 have:(ints (xs.take k))[q]?=if q<k then(ints xs)[q]? else none:=by
  unfold ints
  rw[List.map_take,List.getElem?_take]
 rw[this] at hv
 split at hv
 ·rw[Nat.zero_add]; exact hv
 ·cases hv
end Go.Proofs.Ytekajfobmnedjaa.spec
end
section
namespace Go.Proofs.Ytekajfobmnedjaa.spec
open Go Go.Ev Go.Proofs.Ytekajfobmnedjaa.nestFits Go.Proofs.Ytekajfobmnedjaa.G
set_option maxRecDepth 100000
variable {ρ:Type}
theorem zero44:iZ P 44=some (.slice none 0 0):=by kernel_rfl
end Go.Proofs.Ytekajfobmnedjaa.spec
end
section
namespace Go.Proofs.Ytekajfobmnedjaa.spec
open Go Go.Ev Go.Proofs.Ytekajfobmnedjaa.nestFits Go.Proofs.Ytekajfobmnedjaa.G
set_option maxRecDepth 100000
variable {ρ:Type}
theorem zero176:iZ P 176=some .nilFunc:=by kernel_rfl
theorem sz176:szT P 176=some 1:=by kernel_rfl
theorem build111':iW P 111 []=some (.agg ⟨ints (List.replicate 16 0)⟩):=by kernel_rfl
def noL:List Int:=List.replicate 8 (-1)
theorem noL_get {q:Nat} (h:q<8):noL.getD q 0=-1:=by
 rw[List.getD_eq_getElem?_getD,noL,List.getElem?_replicate,if_pos h]; rfl
theorem RJ:Open noL 0:=⟨rfl,fun _ _ h=>noL_get h⟩
theorem noL_kinds (np nk:Nat):nQ noL np nk:=fun _ hi=>.inl (noL_get hi)
theorem noL_row (js ks:List Int) (nj np:Nat):xV (List.replicate 16 0) js ks noL nj np 8:=by
 refine⟨rfl,fun q hq=>?_⟩
 have z:∀ k,(List.replicate 16 (0:Int)).getD k 0=0:=fun k=>by
  rw[List.getD_eq_getElem?_getD,List.getElem?_replicate]; split <;> rfl
 have s:∀ e,bsum js ks noL nj np 8 e q=0:=fun e=>by
  unfold bsum
  have:∀ i,i≤8→dY (fun p=>if noL.getD p 0=-1 then 0 else ext (ks.getD ((noL.getD p 0).toNat * 5) 0) (shP js ks nj np p (noL.getD p 0).toNat) e q) i=0:=by
   intro i
   induction i with
   | zero=>intro _; rfl
   | succ i ih=>
    intro hi
    simp only[dY]
    rw[ih (by omega),if_pos (noL_get (by omega))]
    rfl
  exact this 8 (Nat.le_refl _)
 rw[z,z,s,s]
 exact⟨rfl,rfl⟩
def LayOut (H:Hp) (n lb b4 b5:Nat) (T:Tm) (d:Nat) (o:Option (List Int)) (H':Hp):Prop:=match o with
 | some M=>(∀ b,b<n→b≠lb→b≠b4→b≠b5→H'.get b=H.get b)∧H'.get b4=some (.cells (ints M) 121 false none)∧H'.get b5=some (.cells [.bool true] 4 false none)∧H'.get lb=some (.loop .done (some (.exit 0)) 81 T (ntm P 81) #[23,24] lJ lW d)
 | none=>∀ b,b<n→H'.get b=H.get b
theorem layouts_spec (l:Nat) {T:Tm} {H:Hp} {n lb b1 b2 b4 b5 sb nb g d np nj nk nests m0:Nat} {f:Nat→Value} {x y z v16 v17:Value} {ps js ks:List Int} (hT:Oq T b1 b2 b4 b5 v16 v17)
  (hl:H.get lb=some (.loop .ready none 81 T (ntm P 81) #[23,24] lJ lW d)) (h1:H.get b1=some (.cells [.pointer (some ⟨g,0,none⟩)] 105 false none)) (h4:∃ w,H.get b4=some (.cells w 121 false none)∧w.length=8) (h5:∃ w,H.get b5=some (.cells [w] 4 false none))
  (hsb:H.get sb=some (.cells [.pointer (some ⟨g,0,none⟩)] 105 false none)) (hnb:H.get nb=some (.cells [.int .i64 nests] 3 false none))
  (hf:bV H g 859 117 f) (hs:SiteF f x y z js nj) (hz:lenV P 33 z=some (.int .i64 nk)) (hn:∀ p kd,p<np→kd<nk→qj f js ks nj np p kd) (hks:jV ks nk) (hx:cV H m0 2 x np ps) (hnp:np≤8) (hnk:nk≤3) (hnests:nests≤8)
  (hm0:m0≤lb) (hlb:lb<n) (hb1:b1<n) (hb4:b4<n) (hb5:b5<n) (hsbn:sb<n) (hnbn:nb<n) (hg:g<n) (e1:b1≠lb) (e4:b4≠lb) (e5:b5≠lb) (eg:g≠lb) (e45:b4≠b5) :
  ∃ H' n',n≤n'∧Qv (cal (l+5+np+1)) KK (.func (.yield lb) #[] #[]) (.pointer (some ⟨sb,0,none⟩)) (.pointer (some ⟨nb,0,none⟩)) H n=some (.tuple ⟨[]⟩,H',n') ∧
   LayOut H n lb b4 b5 T d (nV (nK js ks ps nj np) (nZ js ks ps nj np) (fitD js ks nj np) np nk np noL nests) H':=by
 unfold Qv B117_0
 rw[cY,dV zero176]
 simp only[bq,ptr]
 have g0:((H.set n (some (.cells [.func (.yield lb) #[] #[]] 175 false none))).set (n+1) (some (.cells [.nilFunc] 176 false none))).get (n+1)=some (.cells [.nilFunc] 176 false none):=by rw[Tr.get_set,if_pos rfl]
 have hst:=dZ (vs:=[Hy sb n (n+1)]) g0 rfl rfl
 have hst':bx P 176 (.pointer (some ⟨n+1,0,none⟩)) (.func (.func 118) ⟨[]⟩ ⟨[.pointer (some ⟨sb,0,none⟩),.pointer (some ⟨n,0,none⟩),.pointer (some ⟨n+1,0,none⟩)]⟩) ((H.set n (some (.cells [.func (.yield lb) #[] #[]] 175 false none))).set (n+1) (some (.cells [.nilFunc] 176 false none)))=_:=(gX sz176 rfl).trans hst
 rw[hst',aj]
 have q1:(((H.set n (some (.cells [.func (.yield lb) #[] #[]] 175 false none))).set (n+1) (some (.cells [.nilFunc] 176 false none))).set (n+1) (some (.cells [Hy sb n (n+1)] 176 false none))).get n=some (.cells [.func (.yield lb) #[] #[]] 175 false none):=by rw[Tr.get_set,if_neg (by omega),Tr.get_set,if_neg (by omega),Tr.get_set,if_pos rfl]
 have q2:(((H.set n (some (.cells [.func (.yield lb) #[] #[]] 175 false none))).set (n+1) (some (.cells [.nilFunc] 176 false none))).set (n+1) (some (.cells [Hy sb n (n+1)] 176 false none))).get (n+1)=some (.cells [Hy sb n (n+1)] 176 false none):=by rw[Tr.get_set,if_pos rfl]
 have q3:Keep n H (((H.set n (some (.cells [.func (.yield lb) #[] #[]] 175 false none))).set (n+1) (some (.cells [.nilFunc] 176 false none))).set (n+1) (some (.cells [Hy sb n (n+1)] 176 false none))):=(((Keep.refl n H).set (Nat.le_refl _) _).set (by omega) _).set (by omega) _
 generalize ((H.set n (some (.cells [.func (.yield lb) #[] #[]] 175 false none))).set (n+1) (some (.cells [.nilFunc] 176 false none))).set (n+1) (some (.cells [Hy sb n (n+1)] 176 false none))=H2 at q1 q2 q3 ⊢
 have l1:=fQ q2 agg176 rfl rfl
 have l2:ak P H2 3 ⟨nb,0,none⟩=some (.int .i64 nests):=bJ (o:=0) (k:=0) (ej ((q3 nb hnbn).trans hnb)) agg3 rfl
 rw[aQ,aj,l1,aj,build111',aj,aQ,aj,l2,aj]
 obtain⟨H3,s3,c3⟩:=uX (P:=P) (ρ:=Value×Hp×Nat) (ex:=[.l 3 ⟨nb,0,none⟩,.l 176 ⟨n+1,0,none⟩]) (H:=H2) (n:=n+1+1) (v:=.agg ⟨ints noL⟩)
  (op:=fun H n k=>aW P (cal (l+5+np+1)) 101 [] H n fun v H n=>k v H n)
  ⟨fun q hq=>.inl (by
   simp only[List.mem_cons,List.not_mem_nil,or_false] at hq
   rcases hq with rfl | rfl
   ·exact⟨_,_,rfl,.inl ⟨_,_,_,_,(q3 nb hnbn).trans hnb⟩⟩
   ·exact⟨_,_,rfl,.inl ⟨_,_,_,_,q2⟩⟩),fun t a id c e h1 h2=>by simp at h2⟩ (fun H k=>Uj (l+5+np) H _ _)
 rw[c3]
 have low:∀ b,b<n→H3.get b=H.get b:=fun b hb=>by rw[s3,q3 b hb]
 have ar:Around (fun H' n'=>n+2≤n'∧∀ b,b<n+2→H'.get b=H3.get b) (n+2) sb n (n+1) g np f x (.func (.yield lb) #[] #[]) ps:=by
  refine⟨fun H' n' ⟨hn',hk'⟩=>⟨hn',by rw[hk' _ (by omega),low _ hsbn]; exact hsb,by rw[hk' _ (by omega),s3]; exact q1,by rw[hk' _ (by omega),s3]; exact q2,?_,?_⟩,fun H1 n1 H' n' ⟨_,hk1⟩ hn' hk'=>⟨hn',fun b hb=>(hk' b hb).trans (hk1 b hb)⟩,⟨by omega,by omega,by omega,by omega⟩,rfl,rfl⟩
  ·obtain⟨c,a1,a2,a3⟩:=hf
   exact⟨c,by rw[hk' g (by omega),low g hg]; exact a1,a2,a3⟩
  ·exact(hx.keep (m:=m0) (fun b hb=>by rw[hk' b (by omega),low b (by omega)]) (Nat.le_refl _)).up (by omega)
 have hY:Yields (fun H' n'=>n+2≤n'∧∀ b,b<n+2→H'.get b=H3.get b) (fun M H' n'=>LayOut H n lb b4 b5 T d (some M) H') (n+2) np nj js ks ps (.func (.yield lb) #[] #[]):=by
  intro lv L X Hc nc ⟨hnc,hkc⟩ hL hX
  have lowc:∀ b,b<n→Hc.get b=H.get b:=fun b hb=>(hkc b (by omega)).trans (low b hb)
  obtain⟨H',n',r1,r2,r3⟩:=yield81 (ρ:=Value×Hp×Nat) lv (H:=Hc) (n:=nc) (lb:=lb) (g:=g) (d:=d) (x:=x) (y:=y) (z:=z) (f:=f) (js:=js) (ks:=ks) (ps:=ps) (L:=L) (X:=X) (np:=np) (nj:=nj) hT ((lowc lb hlb).trans hl) ((lowc b1 hb1).trans h1)
   (by obtain⟨w,w1,w2⟩:=h4; exact⟨w,(lowc b4 hb4).trans w1,w2⟩) (by obtain⟨w,w1⟩:=h5; exact⟨w,(lowc b5 hb5).trans w1⟩)
   (by
    obtain⟨c,a1,a2,a3⟩:=hf
    exact⟨c,by rw[lowc g hg]; exact a1,a2,a3⟩) hs ((hx.keep (m:=m0) (fun b hb=>lowc b (by omega)) (Nat.le_refl _)).up (by omega)) hnp hL hX (by omega) (by omega) (by omega) (by omega) (by omega) e1 e4 e5 eg e45
   (fun H' hk=>(hx.keep (m:=m0) (fun b hb=>by rw[hk b (by omega),lowc b (by omega)]) (Nat.le_refl _)).up (by omega))
  refine⟨H',n',r1,fun b hb hbn=>r2 b hbn (by omega) (by omega) (by omega),?_⟩
  rcases r3 with⟨z1,z2,z3,z4,z5⟩ | ⟨z1,z2,z3,z4,z5⟩
  ·exact .inl ⟨z1,z2,fun b hb i1 i2 i3=>by rw[r2 b (by omega) i1 i2 i3,lowc b hb],z3,z4,z5⟩
  ·refine .inr ⟨z1,z2,by omega,fun b hb=>?_⟩
   by_cases i1:b=lb
   ·rw[i1,z5,hkc lb (by omega)]
   ·by_cases i2:b=b4
    ·rw[i2,z3,hkc b4 (by omega)]
    ·by_cases i3:b=b5
     ·rw[i3,z4,hkc b5 (by omega)]
     ·rw[r2 b (by omega) i1 i2 i3,hkc b hb]
 have hp:=place_spec l ar hs hz hn hks hnp hnk hY np noL (List.replicate 16 0) nests 0 H3 (n+1+1) (by omega) RJ (noL_kinds np nk) (noL_row ..) hnests ⟨by omega,fun _ _=>rfl⟩
 have epl:=KJ (ρ:=Value×Hp×Nat) (l+5+np) (.agg ⟨ints noL⟩) (.agg ⟨ints (List.replicate 16 0)⟩) (.int .i64 ((0:Nat):Int)) (.int .i64 nests) sb n (n+1)
 have ez:(Value.int IntKind.i64 0)=.int .i64 ((0:Nat):Int):=rfl
 rw[ez,epl]
 obtain⟨H4,n4,y1,_,y3⟩:=hp
 refine⟨H4,n4,by omega,?_,?_⟩
 ·cases hfd:nV (nK js ks ps nj np) (nZ js ks ps nj np) (fitD js ks nj np) np nk np noL nests with
  | some M=>rw[hfd] at y3; rw[y3.1]; rfl
  | none=>rw[hfd] at y3; rw[y3.1]; rfl
 ·cases hfd:nV (nK js ks ps nj np) (nZ js ks ps nj np) (fitD js ks nj np) np nk np noL nests with
  | some M=>rw[hfd] at y3; exact y3.2
  | none=>
   rw[hfd] at y3
   exact fun b hb=>by rw[y3.2.2 b (by omega),low b hb]
end Go.Proofs.Ytekajfobmnedjaa.spec
end
section
namespace Go.Proofs.Ytekajfobmnedjaa.spec
open Go Go.Ev Go.Proofs.Ytekajfobmnedjaa.nestFits Go.Proofs.Ytekajfobmnedjaa.G
set_option maxRecDepth 100000
variable {ρ:Type}
theorem flat110:fj P 110=false:=by kernel_rfl
theorem call110 (l:Nat) (a b:Value) (H:Hp) (n:Nat):(cal (l+1)).call 110 [a,b] H n=C110_0 (cal l) KK a b H n:=by kernel_rfl
theorem call117 (l:Nat) (a b c:Value) (H:Hp) (n:Nat):(cal (l+1)).call 117 [a,b,c] H n=Qv (cal l) KK a b c H n:=by kernel_rfl
theorem layouts_call (l:Nat) (g:Nat) (i:Int) (H:Hp) (n:Nat) (k:Value→Hp→Nat→Option ρ):aW P (cal (l+1)) 110 [.pointer (some ⟨g,0,none⟩),.int .i64 i] H n k =
  k (.func (.func 117) ⟨[]⟩ ⟨[.pointer (some ⟨n,0,none⟩),.pointer (some ⟨n+1,0,none⟩)]⟩) ((H.set n (some (.cells [.pointer (some ⟨g,0,none⟩)] 105 false none))).set (n+1) (some (.cells [.int .i64 i] 3 false none))) (n+2):=by
 unfold aW
 rw[flat110,call110]
 rfl
theorem layouts_range (l:Nat) (a b c:Value) (H:Hp) (n:Nat) (k:Value→Hp→Nat→Option ρ) (hb:bz b=false):aW P (cal (l+1)) 117 [a,b,c] H n k=aq (Qv (cal l) KK a b c H n) fun r=>k r.1 r.2.1 r.2.2:=by
 unfold aW
 have:(fj P 117 && bY [a,b,c])=false:=by simp [bY,hb]
 rw[this,call117]
theorem range81 (c:Cal) (a b:Value) (K:KC (Value×Hp×Nat)) (X:XC (Value×Hp×Nat)) (Kr:KC (Value×Hp×Nat)) (T:Tm) (H:Hp) (n:Nat) (D:List Nat) :
  nW P c none 81 (.func (.func 117) ⟨[]⟩ ⟨[a,b]⟩) #[23,24] lJ lW K X Kr T H n D =
   aW P c 117 [.func (.yield (n+1)) #[] #[],a,b] ((H.set n (some .deferred)).set (n+1) (some (.loop .ready none 81 T (ntm P 81) #[23,24] lJ lW n))) (n+2) fun _ H n'=>fin K X Kr (fX (n+1) { T:=T,H,n:=n',D:=n::D }):=rfl
theorem qex:∀(D:List Nat) (H:Hp),D.Nodup→(∀ d,d ∈ D→H.get d=some .deferred)→∃ H',lk H D=some H'∧∀ b,b ∉ D→H'.get b=H.get b
 | [],H,_,_=>⟨H,rfl,fun _ _=>rfl⟩
 | d::D,H,hD,h=>by
  obtain⟨h1,h2⟩:=List.nodup_cons.1 hD
  obtain⟨H',q1,q2⟩:=qex D (H.set d none) h2 fun e he=>by
   have:e≠d:=fun c=>h1 (c ▸ he)
   rw[Tr.get_set,if_neg this]
   exact h e (List.mem_cons_of_mem _ he)
  refine⟨H',?_,fun b hb=>?_⟩
  ·unfold lk
   simp only[h d (List.mem_cons_self ..),q1]
  ·have hb1:b≠d:=fun c=>hb (c ▸ List.mem_cons_self ..)
   rw[q2 b fun c=>hb (List.mem_cons_of_mem _ c),Tr.get_set,if_neg hb1]
theorem res81 (b2:Nat) (v:Value) (M:List Int) (H:Hp) (hM:M.length=8) (h:H.get b2=some (.cells (ints M) 121 false none)):resV P (((Tr.nil:Tm).set 3 (some v)).set 2 (some (.pointer (some ⟨b2,0,none⟩)))) H kY=some [.agg ⟨ints M⟩,v]:=by
 rw[results81_eq]
 have t2:(((Tr.nil:Tm).set 3 (some v)).set 2 (some (.pointer (some ⟨b2,0,none⟩)))).get 2=some (.pointer (some ⟨b2,0,none⟩)):=by rw[Tr.get_set,if_pos rfl]
 have t3:(((Tr.nil:Tm).set 3 (some v)).set 2 (some (.pointer (some ⟨b2,0,none⟩)))).get 3=some v:=by rw[Tr.get_set,if_neg (by omega),Tr.get_set,if_pos rfl]
 simp only[resV,t2,t3,bZ h nX kK (by rw[bj,hM])]
theorem Uw {t:TypeId} {a:Addr} (b:Nat):ldOf [.l t a] b↔b=a.block:=by
 constructor
 ·rintro⟨t',a',h1,h2⟩
  simp only[List.mem_cons,List.not_mem_nil,or_false,Extra.l.injEq] at h1
  obtain⟨_,rfl⟩:=h1
  exact h2.symm
 ·rintro rfl
  exact⟨t,a,by simp,rfl⟩
theorem end81 (c:Cal) (k:Nat) {T:Tm} {b1 b2 b4 b5:Nat} {v16 v17:Value} (hT:Oq T b1 b2 b4 b5 v16 v17) {H:Hp} {n:Nat} {D:List Nat} {M:List Int} {r:Bool} (hM:M.length=8) (h2:∃ w,H.get b2=some (.cells w 121 false none)∧w.length=8) (h4:H.get b4=some (.cells (ints M) 121 false none)) (h5:H.get b5=some (.cells [.bool r] 4 false none)) (e2:b2≠b5) (hD:D.Nodup) (hd:∀ d,d ∈ D→H.get d=some .deferred) :
  ∃ H',KE c k T H n D=some (.tuple ⟨[.agg ⟨ints M⟩,.bool r]⟩,H',n)∧∀ b,b ∉ D→b≠b2→H'.get b=H.get b:=by
 obtain⟨w,w1,w2⟩:=h2
 have lM:(ints M).length=8:=by rw[bj,hM]
 have l4:=bZ h4 nX kK lM
 have l5:ak P H 4 ⟨b5,0,none⟩=some (.bool r):=bw (o:=0) (k:=0) (ej h5) agg4' rfl rfl rfl
 have hb5D:b5 ∉ D:=fun h=>by have:=hd b5 h; rw[h5] at this; cases this
 have hb2D:b2 ∉ D:=fun h=>by have:=hd b2 h; rw[w1] at this; cases this
 obtain⟨H1,H2,n2,q1,⟨rfl,q2,q3⟩,q4,q5⟩:=qdv (P:=P) (ρ:=Value×Hp×Nat) (ex:=[.l 4 ⟨b5,0,none⟩]) (H:=H) (n:=n) (v:=undef)
  (op:=fun H n k=>aq (bx P 121 (.pointer (some ⟨b2,0,none⟩)) (.agg ⟨ints M⟩) H) fun H=>k undef H n)
  (R:=fun H' n'=>n'=n∧H'.get b2=some (.cells (ints M) 121 false none)∧∀ b,b≠b2→b≠b5→H'.get b=H.get b)
  (fun q hq=>by
   simp only[List.mem_cons,List.not_mem_nil,or_false] at hq
   subst hq
   exact⟨_,_,rfl,.inl ⟨_,_,_,_,h5⟩⟩)
  (fun Hm hm=>by
   have g2:Hm.get b2=some (.cells w 121 false none):=by rw[hm b2 (fun h=>e2 ((Uw b2).1 h))]; exact w1
   have hst:=dZ (vs:=ints M) g2 (by rw[lM,w2]) (eV _)
   refine⟨Hm.set b2 (some (.cells (ints M) 121 false none)),n,fun k=>by rw[jX kK lM,hst,aj],fun b hb=>?_,rfl,by rw[Tr.get_set,if_pos rfl],fun b hb hb'=>?_⟩
   ·have:=(Uw b).1 hb
    rw[Tr.get_set,if_neg (by intro h; exact e2 (h.symm.trans this))]
   ·rw[Tr.get_set,if_neg hb,hm b (fun h=>hb' ((Uw b).1 h))])
 have g5:H1.get b5=H.get b5:=q4 b5 ((Uw b5).2 rfl)
 have g2:H1.get b2=some (.cells (ints M) 121 false none):=by rw[q5 b2 (fun h=>e2 ((Uw b2).1 h))]; exact q2
 have go:∀ b,b≠b2→H1.get b=H.get b:=fun b hb=>by
  by_cases c:b=b5
  ·rw[c,g5]
  ·rw[q5 b (fun h=>c ((Uw b).1 h)),q3 b hb c]
 obtain⟨H3,t1,t2⟩:=qex D H1 hD fun d h=>by rw[go d (fun c=>hb2D (c ▸ h))]; exact hd d h
 refine⟨H3,?_,fun b hb hb2=>by rw[t2 b hb,go b hb2]⟩
 have key:(aq (aX (.pointer (some ⟨b4,0,none⟩))) fun a=>aq (ak P H 121 a) fun v30=>aq (aX (.pointer (some ⟨b5,0,none⟩))) fun a5=>aq (ak P H 4 a5) fun v31=>effK P [.l 4 a5] H n2 (fun H n k=>aq (bx P 121 (.pointer (some ⟨b2,0,none⟩)) v30 H) fun H=>k undef H n) fun _ H n=>
   getK (lk H D) fun H=>aq (resV P (((Tr.nil:Tm).set 3 (some v31)).set 2 (some (.pointer (some ⟨b2,0,none⟩)))) H kY) fun vs=>some (oneV vs,H,n))=some (.tuple ⟨[.agg ⟨ints M⟩,.bool r]⟩,H3,n2):=by
  rw[aQ,aj,l4,aj,aQ,aj,l5,aj,q1,t1]
  show(aq (resV P (((Tr.nil:Tm).set 3 (some (.bool r))).set 2 (some (.pointer (some ⟨b2,0,none⟩)))) H3 kY) fun vs=>some (oneV vs,H3,n2))=_
  rw[res81 b2 _ M H3 hM ((t2 b2 hb2D).trans g2)]
  rfl
 rcases hT with⟨o,rfl⟩ | ⟨o,rfl⟩
 ·rw[post81_B]; exact key
 ·rw[post81_C]; exact key
def IsL81 (T:Tm) (b1 b2 b4 b5:Nat) (v16:Value) (i:Nat):Prop:=(i=0∧∃ o,T=TA o (.pointer (some ⟨b1,0,none⟩)) (.pointer (some ⟨b2,0,none⟩)) (.pointer (some ⟨b4,0,none⟩)) (.pointer (some ⟨b5,0,none⟩)) v16 (.int .i64 i))∨∃ o,T=TC o (.pointer (some ⟨b1,0,none⟩)) (.pointer (some ⟨b2,0,none⟩)) (.pointer (some ⟨b4,0,none⟩)) (.pointer (some ⟨b5,0,none⟩)) v16 (.int .i64 i)
theorem head81 (c:Cal) (k m:Nat) {T:Tm} {b1 b2 b4 b5 g N i:Nat} (hT:IsL81 T b1 b2 b4 b5 (.int .i64 N) i) (hi:i<N):∃ TT:Value→Tm,(∀ v,Oq (TT v) b1 b2 b4 b5 (.int .i64 N) (.int .i64 i))∧∀(H:Hp) (n:Nat) (D:List Nat),ak P H 105 ⟨b1,0,none⟩=some (.pointer (some ⟨g,0,none⟩)) →
  LP c k (m+1) T H n D=aW P c 110 [.pointer (some ⟨g,0,none⟩),.int .i64 i] H n fun v22 H n=>nW P c none 81 v22 #[23,24] lJ lW (KN c k m) (upX 2 (KN c k m) (upX 1 (KN c k m) (upX 0 (KE c k) X0))) (aw P kY) (TT v22) H n D:=by
 rcases hT with⟨_,o,rfl⟩ | ⟨o,rfl⟩
 ·refine⟨fun v22=>TB (upd (upd (upd (upd (upd (upd o 18 (.bool (decide ((i:Int)<(N:Int))))) 19 (.int .i64 i)) 6 (.int .i64 i)) 20 (.pointer (some ⟨g,0,none⟩))) 21 (.int .i64 i)) 22 v22) (.pointer (some ⟨b1,0,none⟩)) (.pointer (some ⟨b2,0,none⟩)) (.pointer (some ⟨b4,0,none⟩)) (.pointer (some ⟨b5,0,none⟩)) (.int .i64 N) (.int .i64 i),fun v=>.inl ⟨_,rfl⟩,fun H n D hl=>?_⟩
  rw[loop81_A,aJ cX,ij,if_pos (by omega),aQ,aj,hl,aj]
 ·refine⟨fun v22=>TC (upd (upd (upd (upd (upd (upd o 18 (.bool (decide ((i:Int)<(N:Int))))) 19 (.int .i64 i)) 6 (.int .i64 i)) 20 (.pointer (some ⟨g,0,none⟩))) 21 (.int .i64 i)) 22 v22) (.pointer (some ⟨b1,0,none⟩)) (.pointer (some ⟨b2,0,none⟩)) (.pointer (some ⟨b4,0,none⟩)) (.pointer (some ⟨b5,0,none⟩)) (.int .i64 N) (.int .i64 i),fun v=>.inr ⟨_,rfl⟩,fun H n D hl=>?_⟩
  rw[loop81_C,aJ cX,ij,if_pos (by omega),aQ,aj,hl,aj]
theorem last81 (c:Cal) (k m:Nat) {T:Tm} {b1 b2 b4 b5 N:Nat} (hT:IsL81 T b1 b2 b4 b5 (.int .i64 N) N) (hN:N≠0):∃ T',Oq T' b1 b2 b4 b5 (.int .i64 N) (.int .i64 N)∧∀(H:Hp) (n:Nat) (D:List Nat),LP c k (m+1) T H n D=KE c k T' H n D:=by
 rcases hT with⟨h,_⟩ | ⟨o,rfl⟩
 ·exact absurd h hN
 ·refine⟨(TC o (.pointer (some ⟨b1,0,none⟩)) (.pointer (some ⟨b2,0,none⟩)) (.pointer (some ⟨b4,0,none⟩)) (.pointer (some ⟨b5,0,none⟩)) (.int .i64 N) (.int .i64 N)).set 18 (some (.bool (decide ((N:Int)<(N:Int))))),.inr ⟨_,set18_C ..⟩,fun H n D=>?_⟩
  rw[loop81_C,aJ cX,ij,if_neg (by omega)]
theorem next81 (c:Cal) (k m:Nat) {T:Tm} {b1 b2 b4 b5 i:Nat} {v16:Value} (hT:Oq T b1 b2 b4 b5 v16 (.int .i64 i)) (hi:i≤1000):∃ T',IsL81 T' b1 b2 b4 b5 v16 (i+1)∧∀(H:Hp) (n:Nat) (D:List Nat),KN c k m T H n D=LP c k m T' H n D:=by
 have hI1:I64 ((i:Int)+1):=by unfold I64; omega
 have hcast:((i:Int)+1)=((i+1:Nat):Int):=by omega
 rcases hT with⟨o,rfl⟩ | ⟨o,rfl⟩
 ·refine⟨TC (upd o 29 (.int .i64 ((i+1:Nat):Int))) (.pointer (some ⟨b1,0,none⟩)) (.pointer (some ⟨b2,0,none⟩)) (.pointer (some ⟨b4,0,none⟩)) (.pointer (some ⟨b5,0,none⟩)) v16 (.int .i64 ((i+1:Nat):Int)),.inr ⟨_,rfl⟩,fun H n D=>?_⟩
  rw[next81_B,aJ (bK hI1),hcast]
 ·refine⟨TC (upd o 29 (.int .i64 ((i+1:Nat):Int))) (.pointer (some ⟨b1,0,none⟩)) (.pointer (some ⟨b2,0,none⟩)) (.pointer (some ⟨b4,0,none⟩)) (.pointer (some ⟨b5,0,none⟩)) v16 (.int .i64 ((i+1:Nat):Int)),.inr ⟨_,rfl⟩,fun H n D=>?_⟩
  rw[next81_C,aJ (bK hI1),hcast]
end Go.Proofs.Ytekajfobmnedjaa.spec
end
section
namespace Go.Proofs.Ytekajfobmnedjaa.spec
open Go Go.Ev Go.Proofs.Ytekajfobmnedjaa.nestFits Go.Proofs.Ytekajfobmnedjaa.G
set_option maxRecDepth 100000
variable {ρ:Type}
structure Stand (H:Hp) (n m0 b1 b4 b5 g np nj nk:Nat) (f:Nat→Value) (x y z:Value) (ps js ks:List Int):Prop where
 at1:H.get b1=some (.cells [.pointer (some ⟨g,0,none⟩)] 105 false none)
 at4:∃ w,H.get b4=some (.cells w 121 false none)∧w.length=8
 at5:∃ w,H.get b5=some (.cells [w] 4 false none)
 cells:bV H g 859 117 f
 site:SiteF f x y z js nj
 kinds:lenV P 33 z=some (.int .i64 nk)
 nests:∀ p kd,p<np→kd<nk→qj f js ks nj np p kd
 ok:jV ks nk
 pads:cV H m0 2 x np ps
 np8:np≤8
 nk3:nk≤3
 low:m0≤n∧b1<n∧b4<n∧b5<n∧g<n
 apart:b4≠b5
theorem Stand.keep {H H':Hp} {n n' m0 b1 b4 b5 g np nj nk:Nat} {f:Nat→Value} {x y z:Value} {ps js ks:List Int} (h:Stand H n m0 b1 b4 b5 g np nj nk f x y z ps js ks) (hk:Keep n H H') (hn:n≤n'):Stand H' n' m0 b1 b4 b5 g np nj nk f x y z ps js ks:=by
 obtain⟨l1,l2,l3,l4,l5⟩:=h.low
 refine⟨(hk _ l2).trans h.at1,?_,?_,h.cells.keep hk l5,h.site,h.kinds,h.nests,h.ok,h.pads.keep (hk.le l1) (Nat.le_refl _),h.np8,h.nk3,⟨by omega,by omega,by omega,by omega,by omega⟩,h.apart⟩
 ·obtain⟨w,q1,q2⟩:=h.at4
  exact⟨w,(hk _ l3).trans q1,q2⟩
 ·obtain⟨w,q1⟩:=h.at5
  exact⟨w,(hk _ l4).trans q1⟩
noncomputable def WJ (ps js ks:List Int) (nj np nk:Nat) (i:Nat):Option (List Int):=nV (nK js ks ps nj np) (nZ js ks ps nj np) (fitD js ks nj np) np nk np noL i
theorem round81 (l:Nat) {H:Hp} {n m0 b1 b2 b4 b5 g np nj nk i:Nat} {f:Nat→Value} {x y z v16 v17:Value} {ps js ks:List Int} (st:Stand H n m0 b1 b4 b5 g np nj nk f x y z ps js ks) (hi:i≤np) {TT:Value→Tm} (hTT:∀ v,Oq (TT v) b1 b2 b4 b5 v16 v17) (K E:KC (Value×Hp×Nat)) (Kr:KC (Value×Hp×Nat)) (D:List Nat) :
  ∃ T H' n',Oq T b1 b2 b4 b5 v16 v17∧n+4≤n'∧H'.get (n+2)=some .deferred∧(∀ b,b<n→b≠b4→b≠b5→H'.get b=H.get b) ∧
   (aW P (cal (l+5+np+2)) 110 [.pointer (some ⟨g,0,none⟩),.int .i64 i] H n fun v22 H n=>nW P (cal (l+5+np+2)) none 81 v22 #[23,24] lJ lW K (upX 2 K (upX 1 K (upX 0 E X0))) Kr (TT v22) H n D) =
    (match WJ ps js ks nj np nk i with
    | some _=>E T H' n' ((n+2)::D)
    | none=>K T H' n' ((n+2)::D)) ∧
   match WJ ps js ks nj np nk i with
   | some M=>H'.get b4=some (.cells (ints M) 121 false none)∧H'.get b5=some (.cells [.bool true] 4 false none)
   | none=>H'.get b4=H.get b4∧H'.get b5=H.get b5:=by
 obtain⟨o1,o2,o3,o4,o5⟩:=st.low
 have hnp:=st.np8
 have hap:=st.apart
 rw[layouts_call (l+5+np+1)]
 have a1:((H.set n (some (.cells [.pointer (some ⟨g,0,none⟩)] 105 false none))).set (n+1) (some (.cells [.int .i64 i] 3 false none))).get n=some (.cells [.pointer (some ⟨g,0,none⟩)] 105 false none):=by rw[Tr.get_set,if_neg (by omega),Tr.get_set,if_pos rfl]
 have a2:((H.set n (some (.cells [.pointer (some ⟨g,0,none⟩)] 105 false none))).set (n+1) (some (.cells [.int .i64 i] 3 false none))).get (n+1)=some (.cells [.int .i64 i] 3 false none):=by rw[Tr.get_set,if_pos rfl]
 have a3:Keep n H ((H.set n (some (.cells [.pointer (some ⟨g,0,none⟩)] 105 false none))).set (n+1) (some (.cells [.int .i64 i] 3 false none))):=((Keep.refl n H).set (Nat.le_refl _) _).set (by omega) _
 generalize (H.set n (some (.cells [.pointer (some ⟨g,0,none⟩)] 105 false none))).set (n+1) (some (.cells [.int .i64 i] 3 false none))=H5 at a1 a2 a3 ⊢
 rw[range81,layouts_range (l+5+np+1) _ _ _ _ _ _ rfl]
 have hT:=hTT (.func (.func 117) ⟨[]⟩ ⟨[.pointer (some ⟨n,0,none⟩),.pointer (some ⟨n+1,0,none⟩)]⟩)
 generalize TT (.func (.func 117) ⟨[]⟩ ⟨[.pointer (some ⟨n,0,none⟩),.pointer (some ⟨n+1,0,none⟩)]⟩)=T at hT ⊢
 have r1:∀ b,b<n+2→((H5.set (n+2) (some .deferred)).set (n+2+1) (some (.loop .ready none 81 T (ntm P 81) #[23,24] lJ lW (n+2)))).get b=H5.get b:=fun b hb=>by rw[Tr.get_set,if_neg (by omega),Tr.get_set,if_neg (by omega)]
 have r2:((H5.set (n+2) (some .deferred)).set (n+2+1) (some (.loop .ready none 81 T (ntm P 81) #[23,24] lJ lW (n+2)))).get (n+2)=some .deferred:=by rw[Tr.get_set,if_neg (by omega),Tr.get_set,if_pos rfl]
 have r3:((H5.set (n+2) (some .deferred)).set (n+2+1) (some (.loop .ready none 81 T (ntm P 81) #[23,24] lJ lW (n+2)))).get (n+2+1)=some (.loop .ready none 81 T (ntm P 81) #[23,24] lJ lW (n+2)):=by rw[Tr.get_set,if_pos rfl]
 generalize (H5.set (n+2) (some .deferred)).set (n+2+1) (some (.loop .ready none 81 T (ntm P 81) #[23,24] lJ lW (n+2)))=H6 at r1 r2 r3 ⊢
 have low:∀ b,b<n→H6.get b=H.get b:=fun b hb=>by rw[r1 b (by omega),a3 b hb]
 have st6:Stand H6 n m0 b1 b4 b5 g np nj nk f x y z ps js ks:=st.keep low (Nat.le_refl _)
 obtain⟨H7,n7,s1,s2,s3⟩:=layouts_spec l (H:=H6) (n:=n+2+2) (lb:=n+2+1) (sb:=n) (nb:=n+1) (nests:=i) (m0:=m0) hT r3 st6.at1 st6.at4 st6.at5 ((r1 n (by omega)).trans a1) ((r1 (n+1) (by omega)).trans a2) st6.cells st6.site st6.kinds st6.nests st6.ok st6.pads st6.np8 st6.nk3 (by omega) (by omega) (by omega) (by omega) (by omega) (by omega) (by omega) (by omega) (by omega) (by omega) (by omega) (by omega) (by omega) st.apart
 rw[s2,aj]
 dsimp only
 have hw:WJ ps js ks nj np nk i=nV (nK js ks ps nj np) (nZ js ks ps nj np) (fitD js ks nj np) np nk np noL i:=rfl
 rw[← hw] at s3
 cases hc:WJ ps js ks nj np nk i with
 | none=>
  rw[hc] at s3
  have s3:∀ b,b<n+2+2→H7.get b=H6.get b:=s3
  have hout:fX (n+2+1) { T:=T,H:=H7,n:=n7,D:=(n+2)::D }=some (.norm,{ T:=T,H:=H7.set (n+2+1) (some (.loop .exhausted none 81 T (ntm P 81) #[23,24] lJ lW (n+2))),n:=n7,D:=(n+2)::D }):=by
   unfold fX
   simp only[s3 (n+2+1) (by omega),r3]
  rw[hout]
  have ot:∀ b,b<n+2+1→(H7.set (n+2+1) (some (.loop .exhausted none 81 T (ntm P 81) #[23,24] lJ lW (n+2)))).get b=H6.get b:=fun b hb=>by rw[Tr.get_set,if_neg (by omega),s3 b (by omega)]
  exact⟨T,_,n7,hT,by omega,(ot _ (by omega)).trans r2,fun b hb _ _=>by rw[ot b (by omega),low b hb],rfl,by rw[ot b4 (by omega),low b4 o3],by rw[ot b5 (by omega),low b5 o4]⟩
 | some M=>
  rw[hc] at s3
  obtain⟨t1,t2,t3,t4⟩:=s3
  have hout:fX (n+2+1) { T:=T,H:=H7,n:=n7,D:=(n+2)::D }=some (.exit 0,{ T:=T,H:=H7.set (n+2+1) (some (.loop .exhausted (some (.exit 0)) 81 T (ntm P 81) #[23,24] lJ lW (n+2))),n:=n7,D:=(n+2)::D }):=by
   unfold fX
   simp only[t4]
  rw[hout]
  have ot:∀ b,b<n+2+1→(H7.set (n+2+1) (some (.loop .exhausted (some (.exit 0)) 81 T (ntm P 81) #[23,24] lJ lW (n+2)))).get b=H7.get b:=fun b hb=>by rw[Tr.get_set,if_neg (by omega)]
  exact⟨T,_,n7,hT,by omega,by rw[ot _ (by omega),t1 _ (by omega) (by omega) (by omega) (by omega)]; exact r2,fun b hb i1 i2=>by rw[ot b (by omega),t1 b (by omega) (by omega) i1 i2,low b hb],rfl,by rw[ot b4 (by omega)]; exact t2,by rw[ot b5 (by omega)]; exact t3⟩
noncomputable def xX (ps js ks:List Int) (nj np nk:Nat):Option (List Int):=tv (WJ ps js ks nj np nk) (np+1) (np+1)
def bestV (o:Option (List Int)):Value:=match o with
 | some M=>.tuple ⟨[.agg ⟨ints M⟩,.bool true]⟩
 | none=>.tuple ⟨[.agg ⟨ints noL⟩,.bool false]⟩
theorem withN_len {ps js ks M:List Int} {nj np nk i:Nat} (hnp:np≤8) (hks:jV ks nk) (h:WJ ps js ks nj np nk i=some M):M.length=8:=
 ((Pz hnp (qez hnp hks) np noL i 0 (by omega) RJ).1 M h).1.len
theorem loop81_spec (l k:Nat) {H0:Hp} {base n0 m0 b1 b2 b4 b5 g np nj nk:Nat} {f:Nat→Value} {x y z:Value} {ps js ks:List Int} (st:Stand H0 base m0 b1 b4 b5 g np nj nk f x y z ps js ks) (h2:∃ w,H0.get b2=some (.cells w 121 false none)∧w.length=8) (h4:H0.get b4=some (.cells (ints noL) 121 false none)) (h5:H0.get b5=some (.cells [.bool false] 4 false none))
  (hb2:b2<base) (e24:b2≠b4) (e25:b2≠b5) (n2:n0≤b2) (n4:n0≤b4) (n5:n0≤b5) :
  ∀(j i:Nat) (T:Tm) (H:Hp) (n:Nat) (D:List Nat),IsL81 T b1 b2 b4 b5 (.int .i64 ((np+1:Nat):Int)) i→i≤np+1→np+1-i≤j→base≤n→(∀ b,b<base→H.get b=H0.get b)→D.Nodup→(∀ d,d ∈ D→H.get d=some .deferred∧base≤d∧d<n) →
  ∃ H' n',LP (cal (l+5+np+2)) k (j+1) T H n D=some (bestV (tv (WJ ps js ks nj np nk) (np+1) (np+1-i)),H',n')∧n≤n'∧∀ b,b<n0→H'.get b=H0.get b:=by
 obtain⟨o1,o2,o3,o4,o5⟩:=st.low
 have hnp:=st.np8
 intro j
 induction j with
 | zero=>
  intro i T H n D hT hi hij hb hk hD hd
  have:i=np+1:=by omega
  subst this
  obtain⟨T',q1,q2⟩:=last81 (cal (l+5+np+2)) k 0 hT (by omega)
  obtain⟨H',e1,e2⟩:=end81 (cal (l+5+np+2)) k q1 (H:=H) (n:=n) (D:=D) (M:=noL) (r:=false) rfl (by obtain⟨w,w1,w2⟩:=h2; exact⟨w,(hk b2 hb2).trans w1,w2⟩) ((hk b4 o3).trans h4) ((hk b5 o4).trans h5) e25 hD fun d h=>(hd d h).1
  refine⟨H',n,?_,Nat.le_refl _,fun b hbn=>?_⟩
  ·rw[q2,e1,Nat.sub_self]
   rfl
  ·rw[e2 b (fun h=>by have:=(hd b h).2; omega) (by omega),hk b (by omega)]
 | succ j ih=>
  intro i T H n D hT hi hij hb hk hD hd
  by_cases hlt:i<np+1
  ·have stH:Stand H n m0 b1 b4 b5 g np nj nk f x y z ps js ks:=st.keep hk hb
   have l1:ak P H 105 ⟨b1,0,none⟩=some (.pointer (some ⟨g,0,none⟩)):=fQ stH.at1 pK rfl rfl
   obtain⟨TT,q1,q2⟩:=head81 (g:=g) (cal (l+5+np+2)) k (j+1) hT hlt
   obtain⟨T',H1,n1,r1,r2,r3,r4,r5,r6⟩:=round81 l stH (show i≤np by omega) q1 (KN (cal (l+5+np+2)) k (j+1)) (KE (cal (l+5+np+2)) k) (aw P kY) D
   have hD1:((n+2)::D).Nodup:=List.nodup_cons.2 ⟨fun h=>by have:=(hd _ h).2; omega,hD⟩
   have hd1:∀ d,d ∈ (n+2)::D→H1.get d=some .deferred∧base≤d∧d<n1:=by
    intro d h
    rcases List.mem_cons.1 h with rfl | h
    ·exact⟨r3,by omega,by omega⟩
    ·obtain⟨d1,d2,d3⟩:=hd d h
     exact⟨by rw[r4 d d3 (by omega) (by omega)]; exact d1,d2,by omega⟩
   rw[q2 H n D l1,r5,Dz hlt]
   cases hc:WJ ps js ks nj np nk i with
   | none=>
    rw[hc] at r6
    obtain⟨r6,r7⟩:=r6
    dsimp only
    obtain⟨T'',t1,t2⟩:=next81 (cal (l+5+np+2)) k (j+1) r1 (by omega)
    rw[t2]
    obtain⟨H',n',u1,u2,u3⟩:=ih (i+1) T'' H1 n1 ((n+2)::D) t1 (by omega) (by omega) (by omega) (fun b hbb=>by
     by_cases c4:b=b4
     ·rw[c4,r6,hk b4 o3]
     ·by_cases c5:b=b5
      ·rw[c5,r7,hk b5 o4]
      ·rw[r4 b (by omega) c4 c5,hk b hbb]) hD1 hd1
    exact⟨H',n',u1,by omega,u3⟩
   | some M=>
    rw[hc] at r6
    obtain⟨r6,r7⟩:=r6
    dsimp only
    have hM:=withN_len hnp st.ok hc
    obtain⟨H',e1,e2⟩:=end81 (cal (l+5+np+2)) k r1 (H:=H1) (n:=n1) (D:=(n+2)::D) (M:=M) (r:=true) hM (by obtain⟨w,w1,w2⟩:=h2; exact⟨w,by rw[r4 b2 (by omega) e24 e25,hk b2 hb2]; exact w1,w2⟩) r6 r7 e25 hD1 fun d h=>(hd1 d h).1
    refine⟨H',n1,e1,by omega,fun b hbn=>?_⟩
    rw[e2 b (fun h=>by have:=(hd1 b h).2; omega) (by omega),r4 b (by omega) (by omega) (by omega),hk b (by omega)]
  ·have:i=np+1:=by omega
   subst this
   obtain⟨T',q1,q2⟩:=last81 (cal (l+5+np+2)) k (j+1) hT (by omega)
   obtain⟨H',e1,e2⟩:=end81 (cal (l+5+np+2)) k q1 (H:=H) (n:=n) (D:=D) (M:=noL) (r:=false) rfl (by obtain⟨w,w1,w2⟩:=h2; exact⟨w,(hk b2 hb2).trans w1,w2⟩) ((hk b4 o3).trans h4) ((hk b5 o4).trans h5) e25 hD fun d h=>(hd d h).1
   refine⟨H',n,?_,Nat.le_refl _,fun b hbn=>?_⟩
   ·rw[q2,e1,Nat.sub_self]
    rfl
   ·rw[e2 b (fun h=>by have:=(hd b h).2; omega) (by omega),hk b (by omega)]
end Go.Proofs.Ytekajfobmnedjaa.spec
end
section
namespace Go.Proofs.Ytekajfobmnedjaa.spec
open Go Go.Ev Go.Proofs.Ytekajfobmnedjaa.nestFits Go.Proofs.Ytekajfobmnedjaa.G
set_option maxRecDepth 100000
variable {ρ:Type}
theorem best_spec (l:Nat) {H:Hp} {n g np nj nk:Nat} {f:Nat→Value} {x y z:Value} {ps js ks:List Int} (hf:bV H g 859 117 f) (hs:SiteF f x y z js nj) (hz:lenV P 33 z=some (.int .i64 nk)) (hn:∀ p kd,p<np→kd<nk→qj f js ks nj np p kd) (hks:jV ks nk) (hx:cV H n 2 x np ps) (hnp:np≤8) (hnk:nk≤3) (hg:g<n) :
  Ret ((cal (l+5+np+3)).call 81 [.pointer (some ⟨g,0,none⟩)] H n) n H (bestV (xX ps js ks nj np nk)):=by
 have lN:(ints noL).length=8:=rfl
 rw[call81 (l+5+np+2),pre81,cY,dV wQ,Uj (l+5+np+1),dV wQ,dV zero4']
 simp only[ptr]
 have c1:bq (.pointer (some ⟨g,0,none⟩))=[.pointer (some ⟨g,0,none⟩)]:=rfl
 have c2:bq (.agg ⟨ints (List.replicate 8 0)⟩)=ints (List.replicate 8 0):=rfl
 have c3:bq (.bool false)=[.bool false]:=rfl
 rw[c1,c2,c3]
 have a1:((((H.set n (some (.cells [.pointer (some ⟨g,0,none⟩)] 105 false none))).set (n+1) (some (.cells (ints (List.replicate 8 0)) 121 false none))).set (n+1+1) (some (.cells (ints (List.replicate 8 0)) 121 false none))).set (n+1+1+1) (some (.cells [.bool false] 4 false none))).get n=some (.cells [.pointer (some ⟨g,0,none⟩)] 105 false none):=by rw[Tr.get_set,if_neg (by omega),Tr.get_set,if_neg (by omega),Tr.get_set,if_neg (by omega),Tr.get_set,if_pos rfl]
 have a2:((((H.set n (some (.cells [.pointer (some ⟨g,0,none⟩)] 105 false none))).set (n+1) (some (.cells (ints (List.replicate 8 0)) 121 false none))).set (n+1+1) (some (.cells (ints (List.replicate 8 0)) 121 false none))).set (n+1+1+1) (some (.cells [.bool false] 4 false none))).get (n+1)=some (.cells (ints (List.replicate 8 0)) 121 false none):=by rw[Tr.get_set,if_neg (by omega),Tr.get_set,if_neg (by omega),Tr.get_set,if_pos rfl]
 have a3:((((H.set n (some (.cells [.pointer (some ⟨g,0,none⟩)] 105 false none))).set (n+1) (some (.cells (ints (List.replicate 8 0)) 121 false none))).set (n+1+1) (some (.cells (ints (List.replicate 8 0)) 121 false none))).set (n+1+1+1) (some (.cells [.bool false] 4 false none))).get (n+1+1)=some (.cells (ints (List.replicate 8 0)) 121 false none):=by rw[Tr.get_set,if_neg (by omega),Tr.get_set,if_pos rfl]
 have a4:((((H.set n (some (.cells [.pointer (some ⟨g,0,none⟩)] 105 false none))).set (n+1) (some (.cells (ints (List.replicate 8 0)) 121 false none))).set (n+1+1) (some (.cells (ints (List.replicate 8 0)) 121 false none))).set (n+1+1+1) (some (.cells [.bool false] 4 false none))).get (n+1+1+1)=some (.cells [.bool false] 4 false none):=by rw[Tr.get_set,if_pos rfl]
 have a5:Keep n H ((((H.set n (some (.cells [.pointer (some ⟨g,0,none⟩)] 105 false none))).set (n+1) (some (.cells (ints (List.replicate 8 0)) 121 false none))).set (n+1+1) (some (.cells (ints (List.replicate 8 0)) 121 false none))).set (n+1+1+1) (some (.cells [.bool false] 4 false none))):=((((Keep.refl n H).set (Nat.le_refl _) _).set (by omega) _).set (by omega) _).set (by omega) _
 generalize (((H.set n (some (.cells [.pointer (some ⟨g,0,none⟩)] 105 false none))).set (n+1) (some (.cells (ints (List.replicate 8 0)) 121 false none))).set (n+1+1) (some (.cells (ints (List.replicate 8 0)) 121 false none))).set (n+1+1+1) (some (.cells [.bool false] 4 false none))=H1 at a1 a2 a3 a4 a5 ⊢
 have eN:(List.replicate 8 (-1):List Int)=noL:=rfl
 rw[eN]
 have s1:=dZ (vs:=ints noL) a3 rfl (eV _)
 rw[jX kK lN,s1,aj]
 have b1:(H1.set (n+1+1) (some (.cells (ints noL) 121 false none))).get (n+1+1+1)=some (.cells [.bool false] 4 false none):=by rw[Tr.get_set,if_neg (by omega)]; exact a4
 have s2:=dZ (vs:=[.bool false]) b1 rfl rfl
 rw[gX sz4' rfl,s2,aj]
 have o1:∀ b,b<n+2→((H1.set (n+1+1) (some (.cells (ints noL) 121 false none))).set (n+1+1+1) (some (.cells [.bool false] 4 false none))).get b=H1.get b:=fun b hb=>by rw[Tr.get_set,if_neg (by omega),Tr.get_set,if_neg (by omega)]
 have o2:((H1.set (n+1+1) (some (.cells (ints noL) 121 false none))).set (n+1+1+1) (some (.cells [.bool false] 4 false none))).get (n+1+1)=some (.cells (ints noL) 121 false none):=by rw[Tr.get_set,if_neg (by omega),Tr.get_set,if_pos rfl]
 have o3:((H1.set (n+1+1) (some (.cells (ints noL) 121 false none))).set (n+1+1+1) (some (.cells [.bool false] 4 false none))).get (n+1+1+1)=some (.cells [.bool false] 4 false none):=by rw[Tr.get_set,if_pos rfl]
 generalize (H1.set (n+1+1) (some (.cells (ints noL) 121 false none))).set (n+1+1+1) (some (.cells [.bool false] 4 false none))=H2 at o1 o2 o3 ⊢
 have kk:Keep n H H2:=fun b hb=>by rw[o1 b (by omega),a5 b hb]
 have g1:H2.get n=some (.cells [.pointer (some ⟨g,0,none⟩)] 105 false none):=(o1 n (by omega)).trans a1
 have f2:=hf.keep kk hg
 have lx:ak P H2 31 ⟨g,0+0+0,none⟩=some x:=by
  have:=f2.load (P:=P) (k:=0) xJ (by omega)
  rw[hs.x] at this; exact this
 have hI:I64 ((np:Int)+1):=by unfold I64; omega
 have hlx:lenV P 31 x=some (.int .i64 np):=hx.len_eq Av
 have hcast:((np:Int)+1)=((np+1:Nat):Int):=by omega
 rw[aQ,aj,fQ g1 pK rfl rfl,aj,iz,aj,mz,aj,pY,aj,aQ,aj,lx,aj,hlx,aj,aJ (bK hI),hcast]
 have st:Stand H2 (n+4) n n (n+1+1) (n+1+1+1) g np nj nk f x y z ps js ks:=⟨g1,⟨_,o2,rfl⟩,⟨_,o3⟩,f2,hs,hz,hn,hks,hx.keep kk (Nat.le_refl _),hnp,hnk,⟨by omega,by omega,by omega,by omega,by omega⟩,by omega⟩
 obtain⟨H',n',e1,e2,e3⟩:=loop81_spec l KK (n0:=n) (b2:=n+1) st ⟨_,(o1 (n+1) (by omega)).trans a2,rfl⟩ o2 o3 (by omega) (by omega) (by omega) (by omega) (by omega) (by omega) KK 0 _ H2 (n+4) [] (.inl ⟨rfl,_,rfl⟩) (by omega) (by unfold KK; omega) (Nat.le_refl _) (fun _ _=>rfl) List.nodup_nil (fun d h=>by cases h)
 exact⟨H',n',e1,by omega,fun b hb=>by rw[e3 b hb,kk b hb]⟩
theorem best_call (l:Nat) {H:Hp} {n g np nj nk:Nat} {f:Nat→Value} {x y z:Value} {ps js ks:List Int} (hf:bV H g 859 117 f) (hs:SiteF f x y z js nj) (hz:lenV P 33 z=some (.int .i64 nk)) (hn:∀ p kd,p<np→kd<nk→qj f js ks nj np p kd) (hks:jV ks nk) (hx:cV H n 2 x np ps) (hnp:np≤8) (hnk:nk≤3) (hg:g<n) :
  ∃ H' n',(∀ k:Value→Hp→Nat→Option ρ,aW P (cal (l+16)) 81 [.pointer (some ⟨g,0,none⟩)] H n k=k (bestV (xX ps js ks nj np nk)) H' n')∧n≤n'∧Keep n H H':=by
 obtain⟨H',n',e1,e2,e3⟩:=best_spec (l+(8-np)) hf hs hz hn hks hx hnp hnk hg
 rw[show l+(8-np)+5+np+3=l+16 by omega] at e1
 refine⟨H',n',fun k=>?_,e2,e3⟩
 unfold aW
 have:(fj P 81 && bY [.pointer (some ⟨g,0,none⟩)])=false:=by simp [bY,bz]
 rw[this,e1]
 rfl
end Go.Proofs.Ytekajfobmnedjaa.spec
end
section
namespace Go.Proofs.Ytekajfobmnedjaa.spec
open Go Go.Ev Go.Proofs.Ytekajfobmnedjaa.nestFits Go.Proofs.Ytekajfobmnedjaa.G
set_option maxRecDepth 100000
variable {ρ:Type}
noncomputable def code82:Code:=cw 82
noncomputable def yk:List ResultVar:=dk 82
noncomputable def uj:Code:=asgOf (cL (cR (cL (cR (cR code82)))))
noncomputable def uq:Code:=bodOf (cL (cR (cL (cR (cR code82)))))
noncomputable def K82 (c:Cal) (k:Nat):KC (Value×Hp×Nat):=az P c (ax P c k) none 82 (cR (cR (cR code82))) .leaf (aw P yk) X0 (aw P yk)
noncomputable def T82 (v0 v1 v3 v5 v7 v8:Value):Tm:=((((((((Tr.nil:Tm).set 0 (some v0)).set 1 (some v1)).set 3 (some v3)).set 4 (some (.int .i64 0))).set 5 (some v5)).set 6 (some v0)).set 7 (some v7)).set 8 (some v8)
theorem pre82 (c:Cal) (k:Nat) (v0 v1:Value) (H:Hp) (n:Nat):aK P c A (k+1) 82 [v0,v1] H n =
  (boxK 121 v1 H n fun v3 H n=>cQ P 3 H n fun v5 H n=>aq (bx P 3 v5 (.int .i64 0) H) fun H=>aq (aX v3) fun a=>aq (ak P H 121 a) fun v7=>aW P c 74 [v0,v7] H n fun v8 H n=>
   nW P c none 82 v8 #[9,10] uj uq (K82 c k) (upX 0 (K82 c k) X0) (aw P yk) (T82 v0 v1 v3 v5 v7 v8) H n []):=by
 rw[bQ (fn:=Go.Proofs.Try.f82) (c:=code82) (rs:=yk) (by kernel_rfl) (by kernel_rfl) (by kernel_rfl) (by kernel_rfl)]
 kernel_rfl
theorem post82 (c:Cal) (k:Nat) (v0 v1 v3 v5 v7 v8:Value) (H:Hp) (n:Nat) (D:List Nat):K82 c k (T82 v0 v1 v3 v5 v7 v8) H n D =
  (aq (aX v5) fun a=>aq (ak P H 3 a) fun v13=>getK (lk H D) fun H=>aq (resV P ((Tr.nil:Tm).set 4 (some v13)) H yk) fun vs=>some (oneV vs,H,n)):=by
 kernel_rfl
theorem call82 (l:Nat) (a b:Value) (H:Hp) (n:Nat):(cal (l+1)).call 82 [a,b] H n=aK P (cal l) A (KK+1) 82 [a,b] H n:=by kernel_rfl
theorem asg82_eq (l lp:Nat) (v0 v1 v3 v5 v7 v8 p q:Value) (H:Hp) (n:Nat) :
  (cal (l+1)).body lp 82 uj { T:=((T82 v0 v1 v3 v5 v7 v8).set 9 (some p)).set 10 (some q),H,n,D:=[] }=some (.norm,{ T:=((T82 v0 v1 v3 v5 v7 v8).set 9 (some p)).set 10 (some q),H,n,D:=[] }):=by kernel_rfl
theorem bod82_eq (l lp:Nat) (v0 v1 v3 v5 v7 v8 p q:Value) (H:Hp) (n:Nat) :
  (cal (l+1)).body lp 82 uq { T:=((T82 v0 v1 v3 v5 v7 v8).set 9 (some p)).set 10 (some q),H,n,D:=[] } =
   (aq (aX v5) fun a=>aq (ak P H 3 a) fun v11=>binK P .add 3 (.tmp 11) (.const (.int .i64 1)) v11 (.int .i64 1) fun v12=>aq (bx P 3 v5 v12 H) fun H=>
    some (.norm,{ T:=((((T82 v0 v1 v3 v5 v7 v8).set 9 (some p)).set 10 (some q)).set 11 (some v11)).set 12 (some v12),H,n,D:=[] })):=by kernel_rfl
theorem res82 (v:Value) (H:Hp):resV P ((Tr.nil:Tm).set 4 (some v)) H yk=some [v]:=by kernel_rfl
theorem ntm82:ntm P 82=14:=by kernel_rfl
theorem range82 (c:Cal) (a b:Value) (K:KC (Value×Hp×Nat)) (X:XC (Value×Hp×Nat)) (Kr:KC (Value×Hp×Nat)) (T:Tm) (H:Hp) (n:Nat) :
  nW P c none 82 (.func (.func 104) ⟨[]⟩ ⟨[a,b]⟩) #[9,10] uj uq K X Kr T H n [] =
   aW P c 104 [.func (.yield (n+1)) #[] #[],a,b] ((H.set n (some .deferred)).set (n+1) (some (.loop .ready none 82 T (ntm P 82) #[9,10] uj uq n))) (n+2) fun _ H n'=>fin K X Kr (fX (n+1) { T:=T,H,n:=n',D:=[n] }):=rfl
theorem yield82 (L:Nat) {H:Hp} {n lb b5 d:Nat} {v0 v1 v3 v7 v8 q0 q1:Value} {c:Int} (hl:H.get lb=some (.loop .ready none 82 (T82 v0 v1 v3 (.pointer (some ⟨b5,0,none⟩)) v7 v8) (ntm P 82) #[9,10] uj uq d))
  (h5:H.get b5=some (.cells [.int .i64 c] 3 false none)) (hc:I64 (c+1)) (n5:b5≠lb) :
  ∃ H',(∀ k:Value→Hp→Nat→Option ρ,ew P (cal (L+1)) (.func (.yield lb) #[] #[]) [q0,q1] H n k=k (.bool true) H' n)∧H'.get lb=H.get lb ∧
   H'.get b5=some (.cells [.int .i64 (c+1)] 3 false none)∧∀ b,b≠lb→b≠b5→H'.get b=H.get b:=by
 have hpar:sJ (T82 v0 v1 v3 (.pointer (some ⟨b5,0,none⟩)) v7 v8) (ntm P 82) (#[9,10]:Array Tmp).toList [q0,q1]=some (((T82 v0 v1 v3 (.pointer (some ⟨b5,0,none⟩)) v7 v8).set 9 (some q0)).set 10 (some q1)):=by
  rw[ntm82]; rfl
 have hasg:=asg82_eq L lb v0 v1 v3 (.pointer (some ⟨b5,0,none⟩)) v7 v8 q0 q1 H n
 have hrdy:pW H lb=true:=by unfold pW; rw[hl]
 have hpen:kv H lb=none:=by unfold kv; rw[hl]
 have hbd:=fun H=>bod82_eq L lb v0 v1 v3 (.pointer (some ⟨b5,0,none⟩)) v7 v8 q0 q1 H n
 generalize T82 v0 v1 v3 (.pointer (some ⟨b5,0,none⟩)) v7 v8=T at hl hpar hasg hbd
 have hbusy:fJ H lb .busy none=some (H.set lb (some (.loop .busy none 82 T (ntm P 82) #[9,10] uj uq d))):=by unfold fJ; rw[hl]
 have g5:(H.set lb (some (.loop .busy none 82 T (ntm P 82) #[9,10] uj uq d))).get b5=some (.cells [.int .i64 c] 3 false none):=by rw[Tr.get_set,if_neg n5]; exact h5
 have gl:(H.set lb (some (.loop .busy none 82 T (ntm P 82) #[9,10] uj uq d))).get lb=some (.loop .busy none 82 T (ntm P 82) #[9,10] uj uq d):=by rw[Tr.get_set,if_pos rfl]
 have ho:∀ b,b≠lb→(H.set lb (some (.loop .busy none 82 T (ntm P 82) #[9,10] uj uq d))).get b=H.get b:=fun b hb=>by rw[Tr.get_set,if_neg hb]
 generalize H.set lb (some (.loop .busy none 82 T (ntm P 82) #[9,10] uj uq d))=H2 at hbusy g5 gl ho
 have hst:=dZ (vs:=[.int .i64 (c+1)]) g5 rfl rfl
 have l5:ak P H2 3 ⟨b5,0,none⟩=some (.int .i64 c):=bJ (o:=0) (k:=0) (ej g5) agg3 rfl
 have hbody:=hbd H2
 rw[aQ,aj,l5,aj,aJ (bK hc),gX sz3 rfl,hst,aj] at hbody
 have q5:(H2.set b5 (some (.cells [.int .i64 (c+1)] 3 false none))).get b5=some (.cells [.int .i64 (c+1)] 3 false none):=by rw[Tr.get_set,if_pos rfl]
 have ql:(H2.set b5 (some (.cells [.int .i64 (c+1)] 3 false none))).get lb=some (.loop .busy none 82 T (ntm P 82) #[9,10] uj uq d):=by rw[Tr.get_set,if_neg (Ne.symm n5)]; exact gl
 have qo:∀ b,b≠lb→b≠b5→(H2.set b5 (some (.cells [.int .i64 (c+1)] 3 false none))).get b=H.get b:=fun b hb hb5=>by rw[Tr.get_set,if_neg hb5]; exact ho b hb
 generalize H2.set b5 (some (.cells [.int .i64 (c+1)] 3 false none))=H3 at q5 ql qo hbody
 have hend:fJ H3 lb .ready none=some (H3.set lb (some (.loop .ready none 82 T (ntm P 82) #[9,10] uj uq d))):=by unfold fJ; rw[ql]
 refine⟨H3.set lb (some (.loop .ready none 82 T (ntm P 82) #[9,10] uj uq d)),fun k=>?_,by rw[Tr.get_set,if_pos rfl,hl],by rw[Tr.get_set,if_neg n5]; exact q5,fun b hb hb5=>by rw[Tr.get_set,if_neg hb,qo b hb hb5]⟩
 show stK (kW (fun | some l=>(cal (L+1)).body l | none=>fun _ _ _=>none) P lb [q0,q1] (bare H n)) k=_
 have hy:kW (fun | some l=>(cal (L+1)).body l | none=>fun _ _ _=>none) P lb [q0,q1] (bare H n)=some (.bool true,{ bare H n with H:=H3.set lb (some (.loop .ready none 82 T (ntm P 82) #[9,10] uj uq d)),n:=n }):=by
  unfold kW
  have hb:Nat.beq (ntm P 82) (ntm P 82)=true:=Nat.beq_refl _
  have hx:Az .norm=some none:=rfl
  simp only[bare,hl,hb,hpar,hasg,hrdy,hpen,hbusy,hbody,hx,Option.isNone_none,if_true,hend]
 rw[hy]
 rfl
noncomputable def cntI (L:List Int) (i:Nat):Int:=dY (fun p=>if L.getD p 0=-1 then 0 else 1) i
theorem cntI_range (L:List Int):∀ i,0≤cntI L i∧cntI L i≤i
 | 0=>⟨Int.le_refl _,Int.le_refl _⟩
 | i+1=>by
  obtain⟨h1,h2⟩:=cntI_range L i
  unfold cntI at h1 h2 ⊢
  simp only[dY]
  split <;> omega
theorem count_call (l:Nat) {H:Hp} {n g np nj nk:Nat} {f:Nat→Value} {js ks L:List Int} (hf:bV H g 859 117 f) (hn:∀ p kd,p<np→kd<nk→qj f js ks nj np p kd) (hL:L.length=8) (hK:nQ L np nk) (hnp:np≤8) (hnk:nk≤3) (hg:g<n) :
  ∃ H' n',(∀ k:Value→Hp→Nat→Option ρ,aW P (cal (l+3)) 82 [.pointer (some ⟨g,0,none⟩),.agg ⟨ints L⟩] H n k=k (.int .i64 (cntI L 8)) H' n')∧n≤n'∧Keep n H H':=by
 have lens:(ints L).length=8:=by rw[bj,hL]
 have key:Ret ((cal (l+3)).call 82 [.pointer (some ⟨g,0,none⟩),.agg ⟨ints L⟩] H n) n H (.int .i64 (cntI L 8)):=by
  rw[call82 (l+2),pre82,cY,dV zero3]
  have c1:bq (.agg ⟨ints L⟩)=ints L:=rfl
  have c2:bq (.int .i64 0)=[.int .i64 0]:=rfl
  simp only[ptr]
  rw[c1,c2]
  have a1:((H.set n (some (.cells (ints L) 121 false none))).set (n+1) (some (.cells [.int .i64 0] 3 false none))).get (n+1)=some (.cells [.int .i64 0] 3 false none):=by rw[Tr.get_set,if_pos rfl]
  have a0:((H.set n (some (.cells (ints L) 121 false none))).set (n+1) (some (.cells [.int .i64 0] 3 false none))).get n=some (.cells (ints L) 121 false none):=by rw[Tr.get_set,if_neg (by omega),Tr.get_set,if_pos rfl]
  have a2:Keep n H ((H.set n (some (.cells (ints L) 121 false none))).set (n+1) (some (.cells [.int .i64 0] 3 false none))):=((Keep.refl n H).set (Nat.le_refl _) _).set (by omega) _
  generalize (H.set n (some (.cells (ints L) 121 false none))).set (n+1) (some (.cells [.int .i64 0] 3 false none))=H1 at a0 a1 a2 ⊢
  have s1:=dZ (vs:=[.int .i64 0]) a1 rfl rfl
  rw[gX sz3 rfl,s1,aj]
  have b1:(H1.set (n+1) (some (.cells [.int .i64 0] 3 false none))).get (n+1)=some (.cells [.int .i64 0] 3 false none):=by rw[Tr.get_set,if_pos rfl]
  have b0:(H1.set (n+1) (some (.cells [.int .i64 0] 3 false none))).get n=some (.cells (ints L) 121 false none):=by rw[Tr.get_set,if_neg (by omega)]; exact a0
  have b2:Keep n H (H1.set (n+1) (some (.cells [.int .i64 0] 3 false none))):=a2.set (by omega) _
  generalize H1.set (n+1) (some (.cells [.int .i64 0] 3 false none))=H2 at b0 b1 b2 ⊢
  rw[aQ,aj,bZ b0 nX kK lens,aj,Kq (l+1),range82]
  generalize hH5:(H2.set (n+1+1) (some (.cells [.pointer (some ⟨g,0,none⟩)] 105 false none))).set (n+1+1+1) (some (.cells (ints L) 121 false none))=H5
  have q1:∀ b,b<n+2→H5.get b=H2.get b:=fun b hb=>by rw[← hH5,Tr.get_set,if_neg (by omega),Tr.get_set,if_neg (by omega)]
  have q3:H5.get (n+2)=some (.cells [.pointer (some ⟨g,0,none⟩)] 105 false none):=by rw[← hH5,Tr.get_set,if_neg (by omega),Tr.get_set,if_pos rfl]
  have q4:H5.get (n+3)=some (.cells (ints L) 121 false none):=by rw[← hH5,Tr.get_set,if_pos rfl]
  clear hH5
  have hc104:∀(a b c:Value) (H:Hp) (n:Nat) (k:Value→Hp→Nat→Res),bz b=false→aW P (cal (l+2)) 104 [a,b,c] H n k=aq (zk (cal (l+1)) KK a b c H n) fun r=>k r.1 r.2.1 r.2.2:=by
   intro a b c H n k hb
   unfold aW
   have:(fj P 104 && bY [a,b,c])=false:=by simp [bY,hb]
   rw[this,call104]
  rw[hc104 _ _ _ _ _ _ rfl]
  have e4:n+1+1+2=n+4:=by omega
  have e5:n+1+1+2+1=n+5:=by omega
  have e6:n+1+1+2+2=n+6:=by omega
  have e3:n+1+1+1=n+3:=by omega
  have e2:n+1+1=n+2:=by omega
  simp only[e4,e5,e6,e3,e2]
  generalize hT:T82 _ _ _ _ _ _=T
  generalize hH6:(H5.set (n+4) (some .deferred)).set (n+5) (some (.loop .ready none 82 T (ntm P 82) #[9,10] uj uq (n+4)))=H6
  have r1:∀ b,b<n+4→H6.get b=H5.get b:=fun b hb=>by rw[← hH6,Tr.get_set,if_neg (by omega),Tr.get_set,if_neg (by omega)]
  have r2:H6.get (n+4)=some .deferred:=by rw[← hH6,Tr.get_set,if_neg (by omega),Tr.get_set,if_pos rfl]
  have r3:H6.get (n+5)=some (.loop .ready none 82 T (ntm P 82) #[9,10] uj uq (n+4)):=by rw[← hH6,Tr.get_set,if_pos rfl]
  clear hH6
  have low:∀ b,b<n→H6.get b=H.get b:=fun b hb=>by rw[r1 b (by omega),q1 b (by omega),b2 b hb]
  have l104:ak P H6 121 ⟨n+3,0,none⟩=some (.agg ⟨ints L⟩):=bZ (by rw[r1 _ (by omega)]; exact q4) nX kK lens
  obtain⟨H7,n7,i0,i1,i2,i3,i4⟩:=Hw (cal (l+1)) KK (.func (.yield (n+5)) #[] #[]) (n+2) g np nj nk js ks L hL hK hnp hnk
   (fun i Hc nc=>n+6≤nc∧Hc.get (n+5)=some (.loop .ready none 82 T (ntm P 82) #[9,10] uj uq (n+4))∧Hc.get (n+1)=some (.cells [.int .i64 (cntI L i)] 3 false none)∧∀ b,b<n+6→b≠n+5→b≠n+1→Hc.get b=H6.get b)
   (fun i Hc nc ⟨_,_,_,h⟩=>by
    refine⟨fQ (by rw[h _ (by omega) (by omega) (by omega),r1 _ (by omega)]; exact q3) pK rfl rfl,fun p kd hp hkd=>?_⟩
    have cg:bV Hc g 859 117 f:=by
     obtain⟨c,a1,a2,a3⟩:=hf
     exact⟨c,by rw[h _ (by omega) (by omega) (by omega),low g hg]; exact a1,a2,a3⟩
    exact MV cg (hn p kd hp hkd) (by omega) (by omega))
   (fun i Hc nc kd B ⟨h1,h2,h3,h4⟩ hip hkd hLi _=>by
    have hr:=cntI_range L i
    rw[← hT] at h2
    obtain⟨H',z1,z2,z3,z4⟩:=yield82 (ρ:=Value×Hp×Nat) l (n:=nc) (q0:=.int .i64 i) (q1:=.agg ⟨ints (cq (ks.getD (kd * 5) 0) (shP js ks nj np i kd) B)⟩) h2 h3 (by unfold I64; omega) (by omega)
    refine⟨H',nc,z1,h1,by rw[z2,h2,hT],?_,fun b hb hb1 hb2=>(z4 b hb1 hb2).trans (h4 b hb hb1 hb2)⟩
    rw[z3]
    unfold cntI
    simp only[dY]
    rw[if_neg (by omega)])
   (fun i Hc nc ⟨h1,h2,h3,h4⟩ hLi=>⟨h1,h2,by
    rw[h3]
    unfold cntI
    simp only[dY]
    rw[if_pos hLi,Int.add_zero],h4⟩)
   KK 0 H6 (n+6) ⟨Nat.le_refl _,r3,by rw[r1 _ (by omega),q1 _ (by omega)]; exact b1,fun _ _ _ _=>rfl⟩ (by omega) (by unfold KK; omega)
  have e3':zk (cal (l+1)) KK (.func (.yield (n+5)) #[] #[]) (.pointer (some ⟨n+3,0,none⟩)) (.pointer (some ⟨n+2,0,none⟩)) H6 (n+6)=some (.tuple ⟨[]⟩,H7,n7):=by
   unfold zk B104_0
   rw[aQ,aj,l104,aj]
   exact i0
  rw[e3',aj]
  have hout:fX (n+5) { T:=T,H:=H7,n:=n7,D:=[n+4] }=some (.norm,{ T:=T,H:=H7.set (n+5) (some (.loop .exhausted none 82 T (ntm P 82) #[9,10] uj uq (n+4))),n:=n7,D:=[n+4] }):=by
   unfold fX
   simp only[i2]
  rw[hout]
  show Ret (K82 (cal (l+2)) KK T (H7.set (n+5) (some (.loop .exhausted none 82 T (ntm P 82) #[9,10] uj uq (n+4)))) n7 [n+4]) n H (.int .i64 (cntI L 8))
  generalize hH8:H7.set (n+5) (some (.loop .exhausted none 82 T (ntm P 82) #[9,10] uj uq (n+4)))=H8
  have o1:∀ b,b<n+5→H8.get b=H7.get b:=fun b hb=>by rw[← hH8,Tr.get_set,if_neg (by omega)]
  clear hH8 hout
  have l5:ak P H8 3 ⟨n+1,0,none⟩=some (.int .i64 (cntI L 8)):=bJ (o:=0) (k:=0) (ej (by rw[o1 _ (by omega)]; exact i3)) agg3 rfl
  have ht:lk H8 [n+4]=some (H8.set (n+4) none):=by
   have:H8.get (n+4)=some .deferred:=by rw[o1 _ (by omega),i4 _ (by omega) (by omega) (by omega)]; exact r2
   unfold lk
   simp only[this]
   rfl
  rw[← hT,post82,aQ,aj,l5,aj,ht]
  show Ret (aq (resV P ((Tr.nil:Tm).set 4 (some (.int .i64 (cntI L 8)))) (H8.set (n+4) none) yk) fun vs=>some (oneV vs,H8.set (n+4) none,n7)) n H _
  rw[res82]
  refine⟨_,_,rfl,by omega,fun b hb=>?_⟩
  rw[Tr.get_set,if_neg (by omega),o1 _ (by omega),i4 _ (by omega) (by omega) (by omega),low b hb]
 obtain⟨H',n',e1,e2,e3⟩:=key
 refine⟨H',n',fun k=>?_,e2,e3⟩
 unfold aW
 have:(fj P 82 && bY [.pointer (some ⟨g,0,none⟩),.agg ⟨ints L⟩])=false:=by simp [bY,bz]
 rw[this,e1]
 rfl
end Go.Proofs.Ytekajfobmnedjaa.spec
end
section
namespace Go.Proofs.Ytekajfobmnedjaa.spec
open Go Go.Ev Go.Proofs.Ytekajfobmnedjaa.nestFits Go.Proofs.Ytekajfobmnedjaa.G
set_option maxRecDepth 100000
variable {ρ:Type}
def Same (H Hm:Hp):Prop:=∀ b o vs,aZ H b o vs→aZ Hm b o vs
theorem same_list {H Hm:Hp} {n len:Nat} {v:Value} {xs:List Int} (hr:Same H Hm) (h:ListR H n v len xs):ListR Hm n v len xs:=by
 obtain⟨h1,h2,h3⟩:=h
 refine⟨h1,h2,?_⟩
 rcases h3 with h3 | ⟨b,o,cap,e,a,c⟩
 ·exact .inl h3
 ·exact .inr ⟨b,o,cap,e,a,hr _ _ _ c⟩
end Go.Proofs.Ytekajfobmnedjaa.spec
end
section
namespace Go.Proofs.Ytekajfobmnedjaa.spec
open Go Go.Ev Go.Proofs.Ytekajfobmnedjaa.nestFits Go.Proofs.Ytekajfobmnedjaa.G
set_option maxRecDepth 100000
variable {ρ:Type}
theorem effK_readR {ex:List Extra} {H:Hp} {n:Nat} {v:Value} {op:Hp→Nat→(Value→Hp→Nat→Option ρ)→Option ρ} {R:Hp→Nat→Prop}
  (hex:∀ y ∈ ex,∃ t a,y=.l t a∧a.block<n∧((∃ c e ro vec,H.get a.block=some (.cells c e ro vec))∨∃ c,H.get a.block=some (.rows c)))
  (hop:∀ Hm,Same H Hm→∃ H2 n2,(∀ k,op Hm n k=k v H2 n2)∧n≤n2∧Keep n Hm H2∧R H2 n2) :
  ∃ H' H2 n2,(∀ k,effK P ex H n op k=k v H' n2)∧n≤n2∧Keep n H H'∧R H2 n2∧∀ b,n≤b→H'.get b=H2.get b:=by
 cases ex with
 | nil=>
  obtain⟨H2,n2,h1,h2,h3,h4⟩:=hop H (fun _ _ _ h=>h)
  exact⟨H2,H2,n2,fun k=>by unfold effK; exact h1 k,h2,h3,h4,fun _ _=>rfl⟩
 | cons y l=>
  have hl:∀ z ∈ y::l,∃ t a,z=.l t a:=fun z hz=>by obtain⟨t,a,e,_⟩:=hex z hz; exact⟨t,a,e⟩
  obtain⟨H1,e1,e2⟩:=Cj (ex:=y::l) (H:=H) fun z hz=>by obtain⟨t,a,e,_,h⟩:=hex z hz; exact .inl ⟨t,a,e,h⟩
  have hnw:∀ b,¬ nwOf (y::l) b:=fun b ⟨id,c,e,h1,_⟩=>by obtain⟨t,a,q⟩:=hl _ h1; cases q
  obtain⟨H2,n2,h1,h2,h3,h4⟩:=hop (rj (y::l) H1) fun b o vs hc=>by
   obtain⟨B,c,g1,g2,g3⟩:=hc
   have em:=(oX (ex:=y::l) (H:=H1) b).2 (hnw _)
   rcases e2 b with q | ⟨⟨c',e,ro,vec,q1,q2⟩,_⟩
   ·exact⟨B,c,by rw[em,q]; exact g1,g2,g3⟩
   ·rw[q1] at g1
    cases g1
    exact⟨.cells c' e true vec,c,by rw[em]; exact q2,g2,g3⟩
  have hsome:∀ z ∈ y::l,(∃ t a,z=.l t a∧(H2.get a.block).isSome)∨∃ id c e,z=.a id c e:=by
   intro z hz
   obtain⟨t,a,rfl,hb,hc⟩:=hex z hz
   refine .inl ⟨t,a,rfl,?_⟩
   rw[h3 _ hb,(oX (H:=H1) a.block).2 (hnw _)]
   have hs:(H.get a.block).isSome:=by rcases hc with⟨c,e,ro,vec,hc⟩ | ⟨c,hc⟩ <;> rw[hc] <;> rfl
   rcases e2 a.block with q | ⟨⟨c,e,ro,vec,_,q⟩,_⟩
   ·rw[q]; exact hs
   ·rw[q]; rfl
  obtain⟨H3,f1,f2,f3⟩:=Cq (H0:=H) hsome
  have hck:chkX P (oW (y::l) H H3) (y::l)=true:=JY fun z hz=>.inl (hl z hz)
  refine⟨oW (y::l) H H3,H2,n2,fun k=>?_,h2,fun b hb=>?_,h4,fun b hb=>?_⟩
  ·unfold effK
   simp only[e1,aj,h1,f1,hck]
   rfl
  ·rw[(rq b).2 (hnw b)]
   by_cases q:ldOf (y::l) b
   ·exact f2 b q
   ·rw[f3 b q,h3 b hb,(oX (H:=H1) b).2 (hnw b)]
    rcases e2 b with z | ⟨_,z⟩
    ·exact z
    ·exact absurd z q
  ·rw[(rq b).2 (hnw b),f3 b]
   rintro⟨t,a,q1,q2⟩
   obtain⟨t',a',e,hlt,_⟩:=hex _ q1
   cases e
   omega
theorem slice121h (b:Nat) {np:Nat} (h:np≤8):GJ P 121 (.pointer (some ⟨b,0,none⟩)) none (some (.int .i64 np))=some (.slice (some ⟨b,0,none⟩) np 8):=by
 show GJ P 121 (.pointer (some ⟨b,0,none⟩)) none (some (.int .i64 (.ofNat np)))=_
 unfold GJ
 simp [und121,sz3,LJ,hiV,loV,bndIn,h,capV,addA]
theorem flat42:fj P 42=false:=by kernel_rfl
theorem call42 (l:Nat) (a:Value) (H:Hp) (n:Nat):(cal (l+1)).call 42 [a] H n=RX (cal l) KK a H n:=by kernel_rfl
theorem Best_call (l:Nat) (a:Value) (H:Hp) (n:Nat) (k:Value→Hp→Nat→Option ρ):aW P (cal (l+1)) 42 [a] H n k=aq (RX (cal l) KK a H n) fun r=>k r.1 r.2.1 r.2.2:=by
 unfold aW
 rw[flat42,call42]
 rfl
theorem Pk {ps js ks M:List Int} {nj np nk:Nat} (hnp:np≤8) (hks:jV ks nk) (h:xX ps js ks nj np nk=some M):∃ i,i≤np∧GoesOn (fitD js ks nj np) nk noL 0 np i M∧pz js ks ps M nj np ∧
  (∀ N,GoesOn (fitD js ks nj np) nk noL 0 np i N→pz js ks ps N nj np→M=N∨Rz M N 0 np)∧∀ j N,j<i→GoesOn (fitD js ks nj np) nk noL 0 np j N→¬ pz js ks ps N nj np:=by
 obtain⟨i,h1,h2,h3,h4⟩:=Ky (Nat.le_refl _) h
 have sp:=fun i=>Pz hnp (qez (js:=js) (ps:=ps) (nj:=nj) hnp hks) np noL i 0 (show 0+np=np by omega) RJ
 obtain⟨g1,g2,g3⟩:=(sp i).1 M h3
 refine⟨i,by omega,g1,yz.1 g2,fun N hN hR=>g3 N hN (yz.2 hR),fun j N hj hN hR=>?_⟩
 exact(sp j).2 (h4 j (by omega) hj) N hN (yz.2 hR)
theorem bestL_none {ps js ks:List Int} {nj np nk:Nat} (hnp:np≤8) (hks:jV ks nk) (h:xX ps js ks nj np nk=none):∀ j N,j≤np→GoesOn (fitD js ks nj np) nk noL 0 np j N→¬ pz js ks ps N nj np:=fun j N hj hN hR=>
 (Pz hnp (qez hnp hks) np noL j 0 (show 0+np=np by omega) RJ).2 (Kz (Nat.le_refl _) h j (by omega) (by omega)) N hN (yz.2 hR)
theorem GoesOn.kindsIn {tk:Nat→Nat→Bool} {nk np i:Nat} {M:List Int} (h:GoesOn tk nk noL 0 np i M):nQ M np nk:=by
 intro q hq
 by_cases c:q<np
 ·rcases h.kinds q (Nat.zero_le _) (by omega) with z | ⟨kd,h1,_,h3⟩
  ·exact .inl z
  ·exact .inr ⟨c,kd,h1,h3⟩
 ·exact .inl (h.after q (by omega) hq)
theorem kinds_I64 {M:List Int} {np nk:Nat} (hM:M.length=8) (hK:nQ M np nk) (hnk:nk≤3):∀ x ∈ M,I64 x:=by
 intro x hx
 obtain⟨k,hk,e⟩:=List.mem_iff_getElem.1 hx
 have:M.getD k 0=x:=by rw[List.getD_eq_getElem?_getD,List.getElem?_eq_getElem hk,e]; rfl
 rw[hM] at hk
 rcases hK k hk with z | ⟨_,kd,h1,h2⟩
 ·rw[← this,z]; unfold I64; omega
 ·rw[← this,h2]; unfold I64; omega
theorem Best_spec (l:Nat) {np nj nk:Nat} {ps js ks:List Int} {H:Hp} {n:Nat} {v:Value} (hg:eY H n v np nj nk ps js ks) (hnp:np≤1000) (hnj:nj≤1000) (hnk:nk≤1000) :
  (dj np nj nk ps js ks≠0→Ret (RX (cal (l+16)) KK v H n) n H (.tuple ⟨[.slice none 0 0,.int .i64 0,.int .i64 (dj np nj nk ps js ks)]⟩)) ∧
  (dj np nj nk ps js ks=0→xX ps js ks nj np nk=none→Ret (RX (cal (l+16)) KK v H n) n H (.tuple ⟨[.slice none 0 0,.int .i64 0,.int .i64 10]⟩)) ∧
  (dj np nj nk ps js ks=0→∀ M,xX ps js ks nj np nk=some M→∃ w H' n',RX (cal (l+16)) KK v H n=some (.tuple ⟨[w,.int .i64 (cntI M 8),.int .i64 0]⟩,H',n')∧n≤n'∧Keep n H H'∧RowAt H' n n' w (M.take np)):=by
 have hg0:=hg
 obtain⟨x,y,z,rfl,h1,h2,h3⟩:=hg
 unfold RX B42_0
 rw[cY]
 simp only[bq,ptr]
 have hk:Keep n H (H.set n (some (.cells [x,y,z] 35 false none))):=(Keep.refl n H).set (Nat.le_refl _) _
 have hb:aZ (H.set n (some (.cells [x,y,z] 35 false none))) n 0 [x,y,z]:=aZ.new
 generalize H.set n (some (.cells [x,y,z] 35 false none))=H1 at hk hb ⊢
 have lg:ak P H1 35 ⟨n,0,none⟩=some (.agg ⟨[x,y,z]⟩):=cj (o:=0) (k:=0) hb Fy sz35 (by simp) (by simp [h1.hole.1,h2.hole.1,h3.hole.1])
 obtain⟨o1,o2⟩:=Mk (l+10) (hg0.keep hk (show n≤n+1 by omega)) hnp hnj hnk
 rw[aQ,aj,lg,aj,MJ (l+10)]
 by_cases he:dj np nj nk ps js ks=0
 ·refine⟨fun h=>absurd he h,?_⟩
  obtain⟨g,x',y',z',f,H2,n2,e1,e2,e3,e4,e5,e6,e7,e8,e9⟩:=o2 he
  simp only[Value.agg.injEq,Array.mk.injEq,List.cons.injEq,and_true] at e6
  obtain⟨rfl,rfl,rfl⟩:=e6
  have good:=nJ he
  have np8:=good.np8
  have nk3:=good.nk3
  have kk:Keep n H H2:=hk.trans e3 (by omega)
  have t0:tupV (.tuple ⟨[.pointer (some ⟨g,0,none⟩),.int .i64 0]⟩) 0=some (.pointer (some ⟨g,0,none⟩)):=rfl
  have t1:tupV (.tuple ⟨[.pointer (some ⟨g,0,none⟩),.int .i64 0]⟩) 1=some (.int .i64 0):=rfl
  have d0:decide ((0:Int)=0)=true:=rfl
  rw[e1,aj,t0,aj,t1,aj,aJ gW,d0,Bool.not_true,dX]
  dsimp only
  obtain⟨H3,n3,b1,b2,b3⟩:=best_call (ρ:=Value×Hp×Nat) l e7 e8 (h3.len_eq Wz) e9 good.kinds ((h1.keep kk (Nat.le_refl _)).up (show n≤n2 by omega)) np8 nk3 e5
  rw[b1]
  have l8:(ints (List.replicate 8 (0:Int))).length=8:=rfl
  have k3:Keep n H H3:=fun b hb=>by rw[b3 b (by omega),kk b hb]
  cases hc:xX ps js ks nj np nk with
  | none=>
   refine⟨fun _ _=>?_,fun _ M h=>by cases h⟩
   have u0:tupV (bestV none) 0=some (.agg ⟨ints noL⟩):=rfl
   have u1:tupV (bestV none) 1=some (.bool false):=rfl
   obtain⟨H4,k4,_,k6⟩:=vX (P:=P) (ρ:=Value×Hp×Nat) (H:=H3) (n:=n3) (L:=ints noL) wQ rfl kK rfl (eV _)
   rw[u0,aj,u1,aj,k6,oZ,aj,eZ]
   exact⟨H4,n3+1,rfl,by omega,k3.trans k4 (by omega)⟩
  | some M=>
   refine⟨fun _ h=>(by cases h),fun _ M' h=>?_⟩
   cases h
   obtain⟨i,i1,i2,i3,_⟩:=Pk np8 good.kinds hc
   have hM:=i2.len
   have hK:=i2.kindsIn
   have lM:(ints M).length=8:=by rw[bj,hM]
   have u0:tupV (bestV (some M)) 0=some (.agg ⟨ints M⟩):=rfl
   have u1:tupV (bestV (some M)) 1=some (.bool true):=rfl
   obtain⟨H4,k4,k5,k6⟩:=vX (P:=P) (ρ:=Value×Hp×Nat) (H:=H3) (n:=n3) (L:=ints M) wQ rfl kK lM (eV _)
   have kg:Keep n2 H2 H4:=fun b hb=>by rw[k4 b (by omega),b3 b hb]
   have f4:=e7.keep kg e5
   have lx:ak P H4 31 ⟨g,0+0+0,none⟩=some x:=by
    have:=f4.load (P:=P) (k:=0) xJ (by omega)
    rw[e8.x] at this; exact this
   have hlx:lenV P 31 x=some (.int .i64 np):=h1.len_eq Av
   rw[u0,aj,u1,aj,k6,mQ,aj,dX,iz,aj,mz,aj,pY,aj,aQ,aj,lx,aj,hlx,aj,slice121h n3 np8,aj,aQ,aj,bZ k5 nX kK lM,aj]
   have hI:=kinds_I64 hM hK nk3
   obtain⟨H5,H6,n6,q1,q2,q3,⟨q4,q5⟩,q6⟩:=effK_readR (ρ:=Value×Hp×Nat) (ex:=[.l 121 ⟨n3,0,none⟩]) (H:=H4) (n:=n3+1) (v:=.slice (some ⟨n3+1+1,0,none⟩) np capV)
    (op:=fun H n k=>aW P (cal (l+16)) 76 [.slice (some ⟨n3,0,none⟩) np 8] H n fun v H n=>k v H n)
    (R:=fun H' n'=>n3+1+1<n'∧H'.get (n3+1+1)=some (.cells (ints (M.take np)) 3 false (some 1)))
    (fun q hq=>by
     simp only[List.mem_cons,List.not_mem_nil,or_false] at hq
     subst hq
     exact⟨_,_,rfl,Nat.lt_succ_self _,.inl ⟨_,_,_,_,k5⟩⟩)
    (fun Hm hm=>by
     have hw:ListR Hm (n3+1) (.slice (some ⟨n3,0,none⟩) np 8) np (M.take np):=same_list hm (ints_take_list k5 (Nat.lt_succ_self _) (by omega) hI)
     obtain⟨H2,n2,z1,z2,z3,z4⟩:=clone76_at (ρ:=Value×Hp×Nat) (l+15) hw good.np1 hnp
     exact⟨H2,n2,fun k=>z1 _,by omega,z3,z2,z4⟩)
   have kg5:Keep n2 H2 H5:=fun b hb=>by rw[q3 b (by omega),kg b hb]
   obtain⟨H7,n7,w1,w2,w3⟩:=count_call (ρ:=Value×Hp×Nat) (l+13) (n:=n6) (e7.keep kg5 e5) e9 hM hK np8 nk3 (by omega)
   rw[q1,w1]
   have lt:(M.take np).length=np:=by simp [hM]; omega
   refine⟨_,H7,n7,rfl,by omega,fun b hb=>by rw[w3 b (by omega),kg5 b (by omega),kk b hb],.inr ⟨n3+1+1,capV,by rw[lt],by omega,by omega,?_⟩⟩
   rw[w3 _ (by omega),q6 _ (by omega),q5]
 ·refine⟨fun _=>?_,fun h=>absurd h he,fun h=>absurd h he⟩
  obtain⟨H2,n2,e1,e2,e3⟩:=o1 he
  have t0:tupV (.tuple ⟨[.pointer none,.int .i64 (dj np nj nk ps js ks)]⟩) 0=some (.pointer none):=rfl
  have t1:tupV (.tuple ⟨[.pointer none,.int .i64 (dj np nj nk ps js ks)]⟩) 1=some (.int .i64 (dj np nj nk ps js ks)):=rfl
  rw[e1,aj,t0,aj,t1,aj,aJ gW,decide_eq_false he,Bool.not_false,eZ]
  exact⟨H2,n2,rfl,by omega,hk.trans e3 (by omega)⟩
end Go.Proofs.Ytekajfobmnedjaa.spec
end
section
namespace Go.Proofs.Ytekajfobmnedjaa.spec
open Go Go.Ev Go.Proofs.Ytekajfobmnedjaa.nestFits Go.Proofs.Ytekajfobmnedjaa.G
set_option maxRecDepth 100000
variable {ρ:Type}
theorem call43 (l:Nat) (a b c:Value) (H:Hp) (n:Nat):(cal (l+1)).call 43 [a,b,c] H n=C43_0 (cal l) KK a b c H n:=by kernel_rfl
theorem ProveLayout_spec (l:Nat) {np nj nk nl:Nat} {ps js ks ls:List Int} {H:Hp} {n:Nat} {v w:Value} (hg:eY H n v np nj nk ps js ks) (hw:ListR H n w nl ls) (hnp:np≤1000) (hnj:nj≤1000) (hnk:nk≤1000) (a:Int) :
  ∃ r:Bool,Ret (C43_0 (cal (l+7)) KK v w (.int .i64 a) H n) n H (.bool r)∧(r=true↔iY np nj nk nl ps js ks ls=0∧pz js ks ps (fq ls np) nj np∧cntI (fq ls np) 8≤a):=by
 have hg0:=hg
 obtain⟨x,y,z,rfl,h1,h2,h3⟩:=hg
 unfold C43_0 B43_0
 rw[cY]
 simp only[bq,ptr]
 have hk:Keep n H (H.set n (some (.cells [x,y,z] 35 false none))):=(Keep.refl n H).set (Nat.le_refl _) _
 have hb:aZ (H.set n (some (.cells [x,y,z] 35 false none))) n 0 [x,y,z]:=aZ.new
 generalize H.set n (some (.cells [x,y,z] 35 false none))=H1 at hk hb ⊢
 have lg:ak P H1 35 ⟨n,0,none⟩=some (.agg ⟨[x,y,z]⟩):=cj (o:=0) (k:=0) hb Fy sz35 (by simp) (by simp [h1.hole.1,h2.hole.1,h3.hole.1])
 obtain⟨o1,o2⟩:=openLaid_spec l (hg0.keep hk (show n≤n+1 by omega)) (hw.keep hk (show n≤n+1 by omega)) hnp hnj hnk
 rw[aQ,aj,lg,aj,openLaid_call]
 by_cases he:iY np nj nk nl ps js ks ls=0
 ·obtain⟨⟨g,x',y',z',f,H2,n2,e1,e2,e3,e4,e5,e6,e7,e8,e9⟩,hnl,hok,hft⟩:=o2 he
  simp only[Value.agg.injEq,Array.mk.injEq,List.cons.injEq,and_true] at e6
  obtain⟨rfl,rfl,rfl⟩:=e6
  have good:=nJ hft
  subst hnl
  have np8:=good.np8
  have nk3:=good.nk3
  have l8:=Bw hw.1 good.np8
  have hK:nQ (fq ls nl) nl nk:=laid_kinds hw.1 hok
  generalize hLL:fq ls nl=L at *
  have lens:(ints L).length=8:=by rw[bj,l8]
  have t0:tupV (.tuple ⟨[.pointer (some ⟨g,0,none⟩),.agg ⟨ints L⟩,.int .i64 0]⟩) 0=some (.pointer (some ⟨g,0,none⟩)):=rfl
  have t1:tupV (.tuple ⟨[.pointer (some ⟨g,0,none⟩),.agg ⟨ints L⟩,.int .i64 0]⟩) 1=some (.agg ⟨ints L⟩):=rfl
  have t2:tupV (.tuple ⟨[.pointer (some ⟨g,0,none⟩),.agg ⟨ints L⟩,.int .i64 0]⟩) 2=some (.int .i64 0):=rfl
  have d0:decide ((0:Int)=0)=true:=rfl
  obtain⟨H3,k1,k2,k3⟩:=vX (P:=P) (ρ:=Value×Hp×Nat) (H:=H2) (n:=n2) (L:=ints L) wQ rfl kK lens (eV _)
  have kk:Keep (n+1) H1 H3:=e3.trans k1 e2
  have f3:=e7.keep k1 e5
  obtain⟨X,H4,n4,hX,b1,b2,b3⟩:=Kw (ρ:=Value×Hp×Nat) (l+3) (show g<n2+1 by omega) f3 e9 good.kinds np8 nk3 l8 hK
  have f4:=f3.keep b3 (show g<n2+1 by omega)
  have k4:Keep n H H4:=fun b hb=>by rw[b3 b (by omega),kk b (by omega),hk b hb]
  obtain⟨r,H5,n5,c0,c1,c2,c3⟩:=Px (ρ:=Value×Hp×Nat) (l+3) (show g<n4 by omega) f4 e8 ((h1.keep k4 (Nat.le_refl _)).up (by omega)) np8 hX.1
  have hr:r=true↔pz js ks ps L nj nl:=by rw[c0,Uq hX np8]
  rw[e1,aj,t0,aj,t1,aj,t2,aj]
  dsimp only
  rw[k3,aJ mw,d0]
  have lL:ak P H3 121 ⟨n2,0,none⟩=some (.agg ⟨ints L⟩):=bZ k2 nX kK lens
  simp only[dQ,aQ,aj,lL,b1,c1,dw]
  cases r with
  | false=>
   simp only[eK,aj,cK]
   exact⟨false,⟨H5,n5,rfl,by omega,fun b hb=>by rw[c3 b (by omega),k4 b hb]⟩,⟨fun h=>(by cases h),fun h=>absurd (hr.2 h.2.1) (by simp)⟩⟩
  | true=>
   have lL5:ak P H5 121 ⟨n2,0,none⟩=some (.agg ⟨ints L⟩):=bZ (by rw[c3 _ (by omega),b3 _ (by omega)]; exact k2) nX kK lens
   obtain⟨H6,n6,q1,q2,q3⟩:=count_call (ρ:=Value×Hp×Nat) (l+4) (n:=n5) (f4.keep c3 (by omega)) e9 l8 hK np8 nk3 (by omega)
   simp only[dQ,aj,lL5,q1,aJ uz,dw]
   refine⟨decide (cntI L 8≤a),⟨H6,n6,rfl,by omega,fun b hb=>by rw[q3 b (by omega),c3 b (by omega),k4 b hb]⟩,?_⟩
   rw[decide_eq_true_iff]
   exact⟨fun h=>⟨he,hr.1 rfl,h⟩,fun h=>h.2.2⟩
 ·obtain⟨H2,n2,e1,e2,e3⟩:=o1 he
  have t0:tupV (.tuple ⟨[.pointer none,.agg ⟨ints (List.replicate 8 0)⟩,.int .i64 (iY np nj nk nl ps js ks ls)]⟩) 0=some (.pointer none):=rfl
  have t1:tupV (.tuple ⟨[.pointer none,.agg ⟨ints (List.replicate 8 0)⟩,.int .i64 (iY np nj nk nl ps js ks ls)]⟩) 1=some (.agg ⟨ints (List.replicate 8 0)⟩):=rfl
  have t2:tupV (.tuple ⟨[.pointer none,.agg ⟨ints (List.replicate 8 0)⟩,.int .i64 (iY np nj nk nl ps js ks ls)]⟩) 2=some (.int .i64 (iY np nj nk nl ps js ks ls)):=rfl
  obtain⟨H3,k1,_,k3⟩:=vX (P:=P) (ρ:=Value×Hp×Nat) (H:=H2) (n:=n2) (L:=ints (List.replicate 8 0)) wQ rfl kK rfl (eV _)
  rw[e1,aj,t0,aj,t1,aj,t2,aj]
  dsimp only
  rw[k3,aJ mw,decide_eq_false he]
  simp only[eK,aj,cK]
  exact⟨false,⟨H3,n2+1,rfl,by omega,(hk.trans e3 (by omega)).trans k1 (by omega)⟩,⟨fun h=>(by cases h),fun h=>absurd h.1 he⟩⟩
theorem ProveLayout_call (l:Nat) {np nj nk nl:Nat} {ps js ks ls:List Int} {H:Hp} {n:Nat} {v w:Value} (hg:eY H n v np nj nk ps js ks) (hw:ListR H n w nl ls) (hnp:np≤1000) (hnj:nj≤1000) (hnk:nk≤1000) (a:Int) :
  ∃(r:Bool) (H':Hp) (n':Nat),(r=true↔iY np nj nk nl ps js ks ls=0∧pz js ks ps (fq ls np) nj np∧cntI (fq ls np) 8≤a)∧(∀ k:Value→Hp→Nat→Option ρ,aW P (cal (l+8)) 43 [v,w,.int .i64 a] H n k=k (.bool r) H' n')∧n≤n'∧Keep n H H':=by
 obtain⟨r,H',n',⟨b,rfl,hb⟩,e1,e2,e3⟩:=eQ (ρ:=ρ) (P:=P) (cal:=cal (l+8)) (f:=43) (args:=[v,w,.int .i64 a]) (H:=H) (n:=n)
  (Pre:=fun H n=>eY H n v np nj nk ps js ks∧ListR H n w nl ls) (Q:=fun r=>∃ b:Bool,r=.bool b∧(b=true↔iY np nj nk nl ps js ks ls=0∧pz js ks ps (fq ls np) nj np∧cntI (fq ls np) 8≤a))
  (fun H n ⟨hg,hw⟩=>by
   obtain⟨r,e,h⟩:=ProveLayout_spec l hg hw hnp hnj hnk a
   exact⟨.bool r,by rw[call43]; exact e,r,rfl,h⟩) (fun r ⟨b,e,_⟩ _=>by subst e; rfl) ⟨hg,hw⟩ (fun hp=>by
    simp only[bY,Bool.and_eq_true] at hp
    exact⟨hg.nil hp.1,hw.nil hp.2.1⟩)
 exact⟨b,H',n',hb,e1,e2,e3⟩
end Go.Proofs.Ytekajfobmnedjaa.spec
end
section
namespace Go.Proofs.Ytekajfobmnedjaa.spec
open Go Go.Ev Go.Proofs.Ytekajfobmnedjaa.nestFits Go.Proofs.Ytekajfobmnedjaa.G
set_option maxRecDepth 100000
variable {ρ:Type}
end Go.Proofs.Ytekajfobmnedjaa.spec
end
section
namespace Go.Proofs.Ytekajfobmnedjaa.spec
open Go Go.Ev Go.Proofs.Ytekajfobmnedjaa.nestFits Go.Proofs.Ytekajfobmnedjaa.G
set_option maxRecDepth 100000
variable {ρ:Type}
end Go.Proofs.Ytekajfobmnedjaa.spec
end
section
namespace Go.Proofs.Ytekajfobmnedjaa.spec
open Go Go.Ev Go.Proofs.Ytekajfobmnedjaa.nestFits Go.Proofs.Ytekajfobmnedjaa.G
set_option maxRecDepth 100000
variable {ρ:Type}
end Go.Proofs.Ytekajfobmnedjaa.spec
end
section
namespace Go.Proofs.Ytekajfobmnedjaa.spec
open Go Go.Ev Go.Proofs.Ytekajfobmnedjaa.nestFits Go.Proofs.Ytekajfobmnedjaa.G
set_option maxRecDepth 100000
variable {ρ:Type}
end Go.Proofs.Ytekajfobmnedjaa.spec
end
section
namespace Go.Proofs.Ytekajfobmnedjaa.spec
open Go Go.Ev Go.Proofs.Ytekajfobmnedjaa.nestFits Go.Proofs.Ytekajfobmnedjaa.G
set_option maxRecDepth 100000
variable {ρ:Type}
end Go.Proofs.Ytekajfobmnedjaa.spec
end
section
namespace Go.Proofs.Ytekajfobmnedjaa.spec
open Go Go.Ev Go.Proofs.Ytekajfobmnedjaa.nestFits Go.Proofs.Ytekajfobmnedjaa.G
set_option maxRecDepth 100000
variable {ρ:Type}
end Go.Proofs.Ytekajfobmnedjaa.spec
end
section
namespace Go.Proofs.Ytekajfobmnedjaa.spec
open Go Go.Ev Go.Proofs.Ytekajfobmnedjaa.nestFits Go.Proofs.Ytekajfobmnedjaa.G
set_option maxRecDepth 100000
variable {ρ:Type}
end Go.Proofs.Ytekajfobmnedjaa.spec
end
section
namespace Go.Proofs.Ytekajfobmnedjaa.spec
open Go Go.Ev Go.Proofs.Ytekajfobmnedjaa.nestFits Go.Proofs.Ytekajfobmnedjaa.G
set_option maxRecDepth 100000
variable {ρ:Type}
theorem conv97 {a:Int} (ha:I64 a):cW P (.int .u16 a) (convert 97 3 (.int .u16 a))=some (.int .i64 a):=by
 have h:lj P (convert 97 3 (.int .u16 a))=some (.int .i64 (IntKind.i64.wrap a)):=by kernel_rfl
 unfold cW
 rw[h,qbv ha]
 rfl
end Go.Proofs.Ytekajfobmnedjaa.spec
end
section
namespace Go.Proofs.Ytekajfobmnedjaa.spec
open Go Go.Ev Go.Proofs.Ytekajfobmnedjaa.nestFits Go.Proofs.Ytekajfobmnedjaa.G
set_option maxRecDepth 100000
variable {ρ:Type}
noncomputable def eW (L:List Int) (i:Nat):Int:=dY (fun p=>if 0≤L.getD p 0 then 1 else 0) i
theorem nestsR_range (L:List Int):∀ i,0≤eW L i∧eW L i≤i
 | 0=>⟨Int.le_refl _,Int.le_refl _⟩
 | i+1=>by
  obtain⟨h1,h2⟩:=nestsR_range L i
  unfold eW at h1 h2 ⊢
  simp only[dY]
  split <;> omega
theorem nests_loop (c:Cal) (k:Nat) {nl:Nat} {ls:List Int} {v:Value} {H:Hp} {n:Nat} (hv:ListR H n v nl ls) (hnl:nl≤1000):∀(m i:Nat),i≤nl→nl-i≤m →
  S45_1 c k m v (.int .i64 (eW ls i)) (.int .i64 i) H n=some (.int .i64 (eW ls nl),H,n):=by
 have body:∀(b1:Value→Value→Value→Hp→Nat→Res) (m i:Nat),i≤nl →
   (i<nl→b1 v (.int .i64 (eW ls (i+1))) (.int .i64 ((i+1:Nat):Int)) H n=some (.int .i64 (eW ls nl),H,n)) →
   C45_1 c k m b1 v (.int .i64 (eW ls i)) (.int .i64 i) H n=some (.int .i64 (eW ls nl),H,n):=by
  intro b1 m i hi ih
  unfold C45_1 B45_1
  rw[hv.len_eq,aj,aJ cX,ij]
  by_cases hlt:i<nl
  ·obtain⟨b,o,a1,_,a3⟩:=hv.at_ hlt
   have hI1:I64 ((i:Int)+1):=by unfold I64; omega
   have hcast:((i:Int)+1)=((i+1:Nat):Int):=by omega
   have hr:=nestsR_range ls i
   have hI2:I64 (eW ls i+1):=by unfold I64; omega
   rw[if_pos (by omega),a1,aj,aQ,aj,a3,aj,aJ Dv,ij]
   unfold C45_2 B45_2
   rw[aJ (bK hI1),aJ (bK hI2),aJ (bK hI1),hcast]
   have:=ih hlt
   by_cases h0:0≤ls.getD i 0
   ·rw[if_pos h0]
    have e:eW ls (i+1)=eW ls i+1:=by unfold eW; simp only[dY]; rw[if_pos h0]
    rw[e] at this
    exact this
   ·rw[if_neg h0]
    have e:eW ls (i+1)=eW ls i:=by unfold eW; simp only[dY]; rw[if_neg h0]; omega
    rw[e] at this
    exact this
  ·have:i=nl:=by omega
   subst this
   rw[if_neg (by omega)]
 intro m
 induction m with
 | zero=>intro i h1 h2; exact body _ 0 i h1 (fun h=>by omega)
 | succ m ih=>intro i h1 h2; exact body _ (m+1) i h1 (fun h=>ih (i+1) (by omega) (by omega))
theorem call45 (l:Nat) (a:Value) (H:Hp) (n:Nat):(cal (l+1)).call 45 [a] H n=C45_0 (cal l) KK a H n:=by kernel_rfl
theorem PJ (l:Nat) {nl:Nat} {ls:List Int} {v:Value} {H:Hp} {n:Nat} (hv:ListR H n v nl ls) (hnl:nl≤1000) :
  ∃ H' n',(∀ k:Value→Hp→Nat→Option ρ,aW P (cal (l+1)) 45 [v] H n k=k (.int .i64 (eW ls nl)) H' n')∧n≤n'∧Keep n H H':=by
 obtain⟨r,H',n',rfl,e1,e2,e3⟩:=eQ (ρ:=ρ) (P:=P) (cal:=cal (l+1)) (f:=45) (args:=[v]) (H:=H) (n:=n)
  (Pre:=fun H n=>ListR H n v nl ls) (Q:=fun r=>r=.int .i64 (eW ls nl))
  (fun H n hv=>⟨_,by
   rw[call45]
   exact⟨H,n,nests_loop (cal l) KK hv hnl KK 0 (Nat.zero_le _) (by unfold KK; omega),Nat.le_refl _,Keep.refl _ _⟩,rfl⟩) (fun r e _=>by subst e; rfl) hv (fun hp=>by
    simp only[bY,Bool.and_eq_true] at hp
    exact hv.nil hp.1)
 exact⟨H',n',e1,e2,e3⟩
def Ow (a b:List Int) (np:Nat):Prop:=eW a np<eW b np∨(eW a np=eW b np∧Rz a b 0 np)
theorem less_loop (c:Cal) (k:Nat) {np:Nat} {us bs:List Int} {v w:Value} {H:Hp} {n:Nat} (hv:ListR H n v np us) (hw:ListR H n w np bs) (hnp:np≤1000):∀(m i:Nat),i≤np→np-i≤m →
  ∃ r:Bool,S59_1 c k m v w (.int .i64 i) H n=some (.bool r,H,n)∧(r=true↔Rz us bs i np):=by
 have body:∀(b1:Value→Value→Value→Hp→Nat→Res) (m i:Nat),i≤np →
   (i<np→∃ r:Bool,b1 v w (.int .i64 ((i+1:Nat):Int)) H n=some (.bool r,H,n)∧(r=true↔Rz us bs (i+1) np)) →
   ∃ r:Bool,C59_1 c k m b1 v w (.int .i64 i) H n=some (.bool r,H,n)∧(r=true↔Rz us bs i np):=by
  intro b1 m i hi ih
  unfold C59_1 B59_1
  rw[hv.len_eq,aj,aJ cX,ij]
  by_cases hlt:i<np
  ·obtain⟨b,o,a1,_,a3⟩:=hv.at_ hlt
   obtain⟨b',o',c1,_,c3⟩:=hw.at_ hlt
   have hI1:I64 ((i:Int)+1):=by unfold I64; omega
   have hcast:((i:Int)+1)=((i+1:Nat):Int):=by omega
   rw[if_pos (by omega),a1,aj,aQ,aj,a3,aj,c1,aj,aQ,aj,c3,aj,aJ gW]
   by_cases he:us.getD i 0=bs.getD i 0
   ·rw[decide_eq_true he,Bool.not_true,dX,aJ (bK hI1),hcast]
    obtain⟨r,r1,r2⟩:=ih hlt
    refine⟨r,r1,r2.trans ⟨fun⟨q,q1,q2,q3,q4⟩=>⟨q,by omega,q2,q3,fun k k1 k2=>?_⟩,fun⟨q,q1,q2,q3,q4⟩=>⟨q,?_,q2,q3,fun k k1 k2=>q4 k (by omega) k2⟩⟩⟩
    ·by_cases e:k=i
     ·rw[e]; exact he
     ·exact q4 k (by omega) k2
    ·rcases Nat.eq_or_lt_of_le q1 with e | e
     ·subst e; omega
     ·exact e
   ·rw[decide_eq_false he,Bool.not_false,eZ,aj,aQ,aj,a3,aj,aj,aQ,aj,c3,aj,aJ cX]
    refine⟨_,rfl,?_⟩
    rw[decide_eq_true_iff]
    constructor
    ·intro h
     exact⟨i,Nat.le_refl _,hlt,h,fun k k1 k2=>absurd k2 (by omega)⟩
    ·rintro⟨q,q1,q2,q3,q4⟩
     rcases Nat.eq_or_lt_of_le q1 with e | e
     ·subst e; exact q3
     ·exact absurd (q4 i (Nat.le_refl _) e) he
  ·rw[if_neg (by omega)]
   exact⟨false,rfl,⟨fun h=>(by cases h),fun⟨q,q1,q2,_⟩=>absurd q2 (by omega)⟩⟩
 intro m
 induction m with
 | zero=>intro i h1 h2; exact body _ 0 i h1 (fun h=>by omega)
 | succ m ih=>intro i h1 h2; exact body _ (m+1) i h1 (fun h=>ih (i+1) (by omega) (by omega))
theorem call59 (l:Nat) (a b:Value) (H:Hp) (n:Nat):(cal (l+1)).call 59 [a,b] H n=C59_0 (cal l) KK a b H n:=by kernel_rfl
theorem less_spec (l:Nat) {np:Nat} {us bs:List Int} {v w:Value} {H:Hp} {n:Nat} (hv:ListR H n v np us) (hw:ListR H n w np bs) (hnp:np≤1000) :
  ∃ r:Bool,Ret (C59_0 (cal (l+1)) KK v w H n) n H (.bool r)∧(r=true↔Ow us bs np):=by
 unfold C59_0 B59_0
 obtain⟨H1,n1,a1,a2,a3⟩:=PJ (ρ:=Value×Hp×Nat) l hv hnp
 obtain⟨H2,n2,b1,b2,b3⟩:=PJ (ρ:=Value×Hp×Nat) l (hw.keep a3 a2) hnp
 rw[a1,b1,aJ gW]
 have kk:Keep n H H2:=a3.trans b3 a2
 by_cases he:eW us np=eW bs np
 ·rw[decide_eq_true he,Bool.not_true,dX]
  obtain⟨r,r1,r2⟩:=less_loop (cal (l+1)) KK (hv.keep kk (show n≤n2 by omega)) (hw.keep kk (show n≤n2 by omega)) hnp KK 0 (Nat.zero_le _) (by unfold KK; omega)
  refine⟨r,⟨H2,n2,r1,by omega,kk⟩,r2.trans ⟨fun h=>.inr ⟨he,h⟩,fun h=>?_⟩⟩
  rcases h with h | h
  ·omega
  ·exact h.2
 ·rw[decide_eq_false he,Bool.not_false,eZ,aJ cX]
  refine⟨_,⟨H2,n2,rfl,by omega,kk⟩,?_⟩
  rw[decide_eq_true_iff]
  exact⟨fun h=>.inl h,fun h=>by rcases h with h | h; exact h; exact absurd h.1 he⟩
theorem less_call (l:Nat) {np:Nat} {us bs:List Int} {v w:Value} {H:Hp} {n:Nat} (hv:ListR H n v np us) (hw:ListR H n w np bs) (hnp:np≤1000) :
  ∃(r:Bool) (H':Hp) (n':Nat),(r=true↔Ow us bs np)∧(∀ k:Value→Hp→Nat→Option ρ,aW P (cal (l+2)) 59 [v,w] H n k=k (.bool r) H' n')∧n≤n'∧Keep n H H':=by
 obtain⟨r,H',n',⟨b,rfl,hb⟩,e1,e2,e3⟩:=eQ (ρ:=ρ) (P:=P) (cal:=cal (l+2)) (f:=59) (args:=[v,w]) (H:=H) (n:=n)
  (Pre:=fun H n=>ListR H n v np us∧ListR H n w np bs) (Q:=fun r=>∃ b:Bool,r=.bool b∧(b=true↔Ow us bs np))
  (fun H n ⟨hv,hw⟩=>by
   obtain⟨r,e,h⟩:=less_spec l hv hw hnp
   exact⟨.bool r,by rw[call59]; exact e,r,rfl,h⟩) (fun r ⟨b,e,_⟩ _=>by subst e; rfl) ⟨hv,hw⟩ (fun hp=>by
    simp only[bY,Bool.and_eq_true] at hp
    exact⟨hv.nil hp.1,hw.nil hp.2.1⟩)
 exact⟨b,H',n',hb,e1,e2,e3⟩
end Go.Proofs.Ytekajfobmnedjaa.spec
end
section
namespace Go.Proofs.Ytekajfobmnedjaa.spec
open Go Go.Ev Go.Proofs.Ytekajfobmnedjaa.nestFits Go.Proofs.Ytekajfobmnedjaa.G
set_option maxRecDepth 100000
variable {ρ:Type}
theorem list_extN {L M:List Int} (h:L.length=M.length) (he:∀ q,q<L.length→L.getD q 0=M.getD q 0):L=M:=by
 apply List.ext_getElem?
 intro k
 by_cases hk:k<L.length
 ·rw[getD_some hk,getD_some (by omega),he k hk]
 ·rw[List.getElem?_eq_none (by omega),List.getElem?_eq_none (by omega)]
end Go.Proofs.Ytekajfobmnedjaa.spec
end
section
namespace Go.Proofs.Ytekajfobmnedjaa.spec
open Go Go.Ev Go.Proofs.Ytekajfobmnedjaa.nestFits Go.Proofs.Ytekajfobmnedjaa.G
set_option maxRecDepth 100000
variable {ρ:Type}
end Go.Proofs.Ytekajfobmnedjaa.spec
end
section
namespace Go.Proofs.Ytekajfobmnedjaa.spec
open Go Go.Ev Go.Proofs.Ytekajfobmnedjaa.nestFits Go.Proofs.Ytekajfobmnedjaa.G
set_option maxRecDepth 100000
variable {ρ:Type}
end Go.Proofs.Ytekajfobmnedjaa.spec
end
section
namespace Go.Proofs.Ytekajfobmnedjaa.spec
open Go Go.Ev Go.Proofs.Ytekajfobmnedjaa.nestFits Go.Proofs.Ytekajfobmnedjaa.G
set_option maxRecDepth 100000
variable {ρ:Type}
end Go.Proofs.Ytekajfobmnedjaa.spec
end
section
namespace Go.Proofs.Ytekajfobmnedjaa.spec
open Go Go.Ev Go.Proofs.Ytekajfobmnedjaa.nestFits Go.Proofs.Ytekajfobmnedjaa.G
set_option maxRecDepth 100000
variable {ρ:Type}
end Go.Proofs.Ytekajfobmnedjaa.spec
end
section
namespace Go.Proofs.Ytekajfobmnedjaa.spec
open Go Go.Ev Go.Proofs.Ytekajfobmnedjaa.nestFits Go.Proofs.Ytekajfobmnedjaa.G
set_option maxRecDepth 100000
end Go.Proofs.Ytekajfobmnedjaa.spec
end
section
namespace Go.Proofs.Ytekajfobmnedjaa.spec
open Go Go.Ev Go.Proofs.Ytekajfobmnedjaa.nestFits Go.Proofs.Ytekajfobmnedjaa.G
set_option maxRecDepth 100000
def nbr (js:List Int) (nj p q:Nat):Prop:=q=p∨kQ js nj p q=true
theorem nearB_symm {js:List Int} {nj p q:Nat}:kQ js nj p q=kQ js nj q p:=by
 unfold kQ
 congr 1
 refine propext ⟨fun⟨k,h1,h2⟩=>⟨k,h1,?_⟩,fun⟨k,h1,h2⟩=>⟨k,h1,?_⟩⟩ <;> exact h2.symm
theorem nbr.symm {js:List Int} {nj p q:Nat} (h:nbr js nj p q):nbr js nj q p:=by
 rcases h with h | h
 ·exact .inl h.symm
 ·exact .inr (nearB_symm.trans h)
open Classical in
noncomputable def apB (js ps:List Int) (nj np:Nat) (l:List Nat):Bool:=decide ((∀ p ∈ l,ps.getD (p * 2) 0≠0)∧l.Pairwise fun a b=>∀ q,q<np→¬ (nbr js nj a q∧nbr js nj b q))
open Classical in
theorem RQ {js ps:List Int} {nj np:Nat} {l:List Nat}:apB js ps nj np l=true↔(∀ p ∈ l,ps.getD (p * 2) 0≠0)∧l.Pairwise fun a b=>∀ q,q<np→¬ (nbr js nj a q∧nbr js nj b q):=by
 unfold apB
 exact decide_eq_true_iff
theorem apB_pre {js ps:List Int} {nj np:Nat} (a b:List Nat) (h:apB js ps nj np (a++b)=true):apB js ps nj np a=true:=by
 rw[RQ] at h ⊢
 exact⟨fun p hp=>h.1 p (List.mem_append_left _ hp),(List.pairwise_append.1 h.2).1⟩
theorem apB_nil {js ps:List Int} {nj np:Nat}:apB js ps nj np []=true:=RQ.2 ⟨fun _ h=>(by cases h),.nil⟩
theorem nodup_le:∀ {l m:List Nat},l.Nodup→(∀ x ∈ l,x ∈ m)→l.length≤m.length
 | [],m,_,_=>Nat.zero_le _
 | x::l,m,h,hm=>by
  have hx:=hm x List.mem_cons_self
  have h':=List.nodup_cons.1 h
  have:=nodup_le (l:=l) (m:=m.erase x) h'.2 fun y hy=>(List.mem_erase_of_ne (fun e=>h'.1 (by rw[← e]; exact hy))).2 (hm y (List.mem_cons_of_mem _ hy))
  rw[List.length_erase_of_mem hx] at this
  have:=List.length_pos_of_mem hx
  simp only[List.length_cons]
  omega
theorem count_nests {ls:List Int}:∀ {i:Nat},eW ls i=(((List.range i).filter fun p=>decide (0≤ls.getD p 0)).length:Nat)
 | 0=>rfl
 | i+1=>by
  have ih:=count_nests (ls:=ls) (i:=i)
  unfold eW at ih ⊢
  simp only[dY]
  rw[ih,List.range_succ,List.filter_append,List.length_append]
  by_cases c:0≤ls.getD i 0
  ·rw[if_pos c]; simp only[List.filter_cons,decide_eq_true c,if_true,List.filter_nil,List.length_cons,List.length_nil]; omega
  ·rw[if_neg c]; simp only[List.filter_cons,decide_eq_false c,List.filter_nil]; simp
theorem pick_nests {js ls:List Int} {nj np:Nat}:∀ {l:List Nat},(l.Pairwise fun a b=>∀ q,q<np→¬ (nbr js nj a q∧nbr js nj b q))→(∀ q ∈ l,∃ p,p<np∧0≤ls.getD p 0∧nbr js nj q p) →
  ∃ N:List Nat,N.length=l.length∧N.Nodup∧∀ x ∈ N,(x<np∧0≤ls.getD x 0)∧∃ q ∈ l,nbr js nj q x
 | [],_,_=>⟨[],rfl,List.nodup_nil,fun _ h=>by cases h⟩
 | q::l,h,hn=>by
  obtain⟨h1,h2⟩:=List.pairwise_cons.1 h
  obtain⟨N,n1,n2,n3⟩:=pick_nests h2 fun q' hq'=>hn q' (List.mem_cons_of_mem _ hq')
  obtain⟨p,p1,p2,p3⟩:=hn q List.mem_cons_self
  refine⟨p::N,by simp [n1],List.nodup_cons.2 ⟨fun hp=>?_,n2⟩,fun x hx=>?_⟩
  ·obtain⟨_,q',hq',hb⟩:=n3 p hp
   exact h1 q' hq' p p1 ⟨p3,hb⟩
  ·rcases List.mem_cons.1 hx with e | hx
   ·rw[e]; exact⟨⟨p1,p2⟩,q,List.mem_cons_self,p3⟩
   ·obtain⟨a,q',hq',hb⟩:=n3 x hx
    exact⟨a,q',List.mem_cons_of_mem _ hq',hb⟩
theorem ext_far {np nj nk p q kd:Nat} {ps js ks:List Int} (good:Good np nj nk ps js ks) (hp:p<np) (hq:q<np) (hfit:fitD js ks nj np p kd=true) (hn:¬ nbr js nj p q) :
  ext (ks.getD (kd * 5) 0) (shP js ks nj np p kd) 0 q=0:=by
 have np8:=good.np8
 have hn1:¬ q=p:=fun e=>hn (.inl e)
 have hn2:¬ (q<np∧kQ js nj p q=true):=fun e=>hn (.inr e.2)
 obtain⟨g1,g2⟩:=JK (a1:=ks.getD (kd * 5+1) 0) (a2:=ks.getD (kd * 5+2) 0) (a3:=ks.getD (kd * 5+3) 0) (a4:=ks.getD (kd * 5+4) 0) (near:=kQ js nj p) np8 (show p<8 by omega) q
 rw[if_neg hn1,if_neg hn2] at g1 g2
 unfold fitD at hfit
 have hfit:=of_decide_eq_true hfit
 have e1:(shP js ks nj np p kd).getD (q * 2) 0=0:=g1
 have e2:(shP js ks nj np p kd).getD (q * 2+1) 0=0:=g2
 show max ((shP js ks nj np p kd).getD (q * 2) 0) (ks.getD (kd * 5) 0-(mV (shP js ks nj np p kd) 1-(shP js ks nj np p kd).getD (q * 2+1) 0))=0
 rw[e1,e2]
 omega
theorem nest_near {np nj nk q:Nat} {ps js ks ls:List Int} (good:Good np nj nk ps js ks) (hls:ls.length=np) (hok:nY js ks ls nj np nk) (hq:q<np) (h:bsum js ks (fq ls np) nj np 8 0 q≠0) :
  ∃ p,p<np∧0≤ls.getD p 0∧nbr js nj q p:=by
 have np8:=good.np8
 refine Classical.byContradiction fun hno=>h ?_
 have z:∀ i,dY (fun _=>0) i=0:=fun i=>by
  induction i with
  | zero=>rfl
  | succ i ih=>simp only[dY,ih]; rfl
 unfold bsum
 refine(yj (g:=fun _=>0) fun p hp=>?_).trans (z 8)
 by_cases c:p<np
 ·rw[wV hls c]
  rcases hok p c with e | ⟨t1,t2,t3⟩
  ·rw[if_pos e]
  ·rw[if_neg (by omega)]
   exact ext_far good c hq t3 fun hb=>hno ⟨p,c,t1,hb.symm⟩
 ·rw[if_pos (Bx hls (by omega) (by omega))]
theorem apart_nests {np nj nk:Nat} {ps js ks ls:List Int} {l:List Nat} (good:Good np nj nk ps js ks) (hls:ls.length=np) (hok:nY js ks ls nj np nk) (hR:pz js ks ps (fq ls np) nj np) (hneed:∀ p,p<np→0≤ps.getD (p * 2) 0)
  (hl:∀ p ∈ l,p<np) (ha:apB js ps nj np l=true):(l.length:Int)≤eW ls np:=by
 obtain⟨a1,a2⟩:=RQ.1 ha
 obtain⟨N,n1,n2,n3⟩:=pick_nests (ls:=ls) a2 fun q hq=>by
  have hqn:=hl q hq
  have:=(hR q hqn).1
  have:=a1 q hq
  have:=hneed q hqn
  exact nest_near good hls hok hqn (by omega)
 have:=nodup_le (m:=(List.range np).filter fun p=>decide (0≤ls.getD p 0)) n2 fun x hx=>by
  obtain⟨⟨h1,h2⟩,_⟩:=n3 x hx
  exact List.mem_filter.2 ⟨List.mem_range.2 h1,decide_eq_true h2⟩
 rw[count_nests]
 omega
end Go.Proofs.Ytekajfobmnedjaa.spec
end
section
namespace Go.Proofs.Ytekajfobmnedjaa.spec
open Go Go.Ev Go.Proofs.Ytekajfobmnedjaa.nestFits Go.Proofs.Ytekajfobmnedjaa.G
set_option maxRecDepth 100000
variable {ρ:Type}
noncomputable def code88:Code:=cw 88
noncomputable def dW:List ResultVar:=dk 88
noncomputable def loop88:Code:=cL (cR (cL (cR (cR code88))))
noncomputable def tail88:Code:=cR (cR (cR code88))
noncomputable def body88:Code:=cL loop88
noncomputable def rang88:Code:=cR (cR (cR (cL (cL (cR (cR body88))))))
noncomputable def mq:Code:=asgOf (cL rang88)
noncomputable def mW:Code:=bodOf (cL rang88)
noncomputable def KE88 (c:Cal) (k:Nat):KC (Value×Hp×Nat):=az P c (ax P c k) none 88 tail88 .leaf (aw P dW) X0 (aw P dW)
noncomputable def LP88 (c:Cal) (k m:Nat):KC (Value×Hp×Nat):=ax P c m .leaf none 88 loop88 (KE88 c k) (upX 0 (KE88 c k) X0) (aw P dW)
noncomputable def KN88 (c:Cal) (k m:Nat):KC (Value×Hp×Nat):=az P c (ax P c m) none 88 (cR (cR (cR body88))) .leaf (fun T H n D=>LP88 c k m T H n D) (upX 0 (KE88 c k) X0) (aw P dW)
noncomputable def TA88 (o:Nat→Value) (v0 v1 v4 v5 v10 v11:Value):Tm:=((((((((Tr.nil:Tm).set 0 (some v0)).set 1 (some v1)).set 4 (some v4)).set 5 (some v5)).set 9 (some (o 9))).set 10 (some v10)).set 11 (some v11))
noncomputable def TB88 (o:Nat→Value) (v0 v1 v4 v5 v10 v11:Value):Tm:=(((((((((((((((((((((((((Tr.nil:Tm).set 0 (some v0)).set 1 (some v1)).set 4 (some v4)).set 5 (some v5)).set 9 (some (o 9))).set 10 (some v10)).set 11 (some v11)).set 12 (some (o 12))).set 13 (some (o 13))).set 14 (some (o 14))).set 7 (some (o 7))).set 15 (some (o 15))).set 16 (some (o 16))).set 17 (some (o 17))).set 18 (some (o 18))).set 19 (some (o 19))).set 20 (some (o 20))).set 21 (some (o 21))).set 22 (some (o 22))).set 23 (some (o 23))).set 24 (some (o 24))).set 25 (some (o 25))).set 26 (some (o 26))).set 27 (some (o 27)))
noncomputable def TC88 (o:Nat→Value) (v0 v1 v4 v5 v10 v11:Value):Tm:=((((((((((((((((((((((((((Tr.nil:Tm).set 0 (some v0)).set 1 (some v1)).set 4 (some v4)).set 5 (some v5)).set 9 (some (o 9))).set 10 (some v10)).set 11 (some v11)).set 12 (some (o 12))).set 13 (some (o 13))).set 14 (some (o 14))).set 7 (some (o 7))).set 15 (some (o 15))).set 16 (some (o 16))).set 17 (some (o 17))).set 18 (some (o 18))).set 19 (some (o 19))).set 20 (some (o 20))).set 21 (some (o 21))).set 22 (some (o 22))).set 23 (some (o 23))).set 24 (some (o 24))).set 25 (some (o 25))).set 26 (some (o 26))).set 27 (some (o 27))).set 34 (some (o 34)))
theorem pre88 (c:Cal) (k:Nat) (v0 v1:Value) (H:Hp) (n:Nat):aK P c A (k+1) 88 [v0,v1] H n =
  (cQ P 4 H n fun v4 H n=>cQ P 108 H n fun v5 H n=>aq (lenV P 44 v1) fun v10=>LP88 c k (k+1) (TA88 (fun _=>v1) v0 v1 v4 v5 v10 (.int .i64 0)) H n []):=by
 rw[bQ (fn:=Go.Proofs.Try.f88) (c:=code88) (rs:=dW) (by kernel_rfl) (by kernel_rfl) (by kernel_rfl) (by kernel_rfl)]
 kernel_rfl
theorem loop88_A (c:Cal) (k m:Nat) (o:Nat→Value) (v0 v1 v4 v5 v10 v11:Value) (H:Hp) (n:Nat) (D:List Nat):LP88 c k (m+1) (TA88 o v0 v1 v4 v5 v10 v11) H n D =
  (binK P .lss 3 (.tmp 11) (.tmp 10) v11 v10 fun v12=>ifK v12
   (aq (aY P 44 (o 9) v11) fun v13=>aq (aX v13) fun a=>aq (ak P H 3 a) fun v14=>aq (nilV v0) fun v16=>aq (ay P 117 v16 0) fun v17=>aq (ay P 35 v17 0) fun v18=>aq (aX v18) fun a=>aq (ak P H 31 a) fun v19=>
    aq (aY P 31 v19 v14) fun v21=>aq (ay P 90 v21 0) fun v22=>aq (aX v22) fun a=>aq (ak P H 3 a) fun v23=>binK P .eql 3 (.tmp 23) (.const (.int .i64 0)) v23 (.int .i64 0) fun v24=>ifK v24
    (aq (bx P 4 v4 (.bool false) H) fun H=>getK (lk H D) fun H=>aq (resV P ((Tr.nil:Tm).set 4 (some v4)) H dW) fun vs=>some (oneV vs,H,n))
    (aW P c 113 [v0,v14] H n fun v27 H n=>
     nW P c none 88 v27 #[28] mq mW (KN88 c k m) (upX 2 (KN88 c k m) (upX 1 (KN88 c k m) (upX 0 (KE88 c k) X0))) (aw P dW) (TB88 (upd (upd (upd (upd (upd (upd (upd (upd (upd (upd (upd (upd (upd (upd (upd (upd (upd o 12 v12) 13 v13) 14 v14) 7 v14) 15 v0) 16 v16) 17 v17) 18 v18) 19 v19) 20 v14) 21 v21) 22 v22) 23 v23) 24 v24) 25 v0) 26 v14) 27 v27) v0 v1 v4 v5 v10 v11) H n D))
   (KE88 c k ((TA88 o v0 v1 v4 v5 v10 v11).set 12 (some v12)) H n D)):=by
 kernel_rfl
theorem loop88_C (c:Cal) (k m:Nat) (o:Nat→Value) (v0 v1 v4 v5 v10 v11:Value) (H:Hp) (n:Nat) (D:List Nat):LP88 c k (m+1) (TC88 o v0 v1 v4 v5 v10 v11) H n D =
  (binK P .lss 3 (.tmp 11) (.tmp 10) v11 v10 fun v12=>ifK v12
   (aq (aY P 44 (o 9) v11) fun v13=>aq (aX v13) fun a=>aq (ak P H 3 a) fun v14=>aq (nilV v0) fun v16=>aq (ay P 117 v16 0) fun v17=>aq (ay P 35 v17 0) fun v18=>aq (aX v18) fun a=>aq (ak P H 31 a) fun v19=>
    aq (aY P 31 v19 v14) fun v21=>aq (ay P 90 v21 0) fun v22=>aq (aX v22) fun a=>aq (ak P H 3 a) fun v23=>binK P .eql 3 (.tmp 23) (.const (.int .i64 0)) v23 (.int .i64 0) fun v24=>ifK v24
    (aq (bx P 4 v4 (.bool false) H) fun H=>getK (lk H D) fun H=>aq (resV P ((Tr.nil:Tm).set 4 (some v4)) H dW) fun vs=>some (oneV vs,H,n))
    (aW P c 113 [v0,v14] H n fun v27 H n=>
     nW P c none 88 v27 #[28] mq mW (KN88 c k m) (upX 2 (KN88 c k m) (upX 1 (KN88 c k m) (upX 0 (KE88 c k) X0))) (aw P dW) (TC88 (upd (upd (upd (upd (upd (upd (upd (upd (upd (upd (upd (upd (upd (upd (upd (upd (upd o 12 v12) 13 v13) 14 v14) 7 v14) 15 v0) 16 v16) 17 v17) 18 v18) 19 v19) 20 v14) 21 v21) 22 v22) 23 v23) 24 v24) 25 v0) 26 v14) 27 v27) v0 v1 v4 v5 v10 v11) H n D))
   (KE88 c k ((TC88 o v0 v1 v4 v5 v10 v11).set 12 (some v12)) H n D)):=by
 kernel_rfl
theorem next88_B (c:Cal) (k m:Nat) (o:Nat→Value) (v0 v1 v4 v5 v10 v11:Value) (H:Hp) (n:Nat) (D:List Nat):KN88 c k m (TB88 o v0 v1 v4 v5 v10 v11) H n D =
  (binK P .add 3 (.tmp 11) (.const (.int .i64 1)) v11 (.int .i64 1) fun v34=>LP88 c k m (TC88 (upd o 34 v34) v0 v1 v4 v5 v10 v34) H n D):=by
 kernel_rfl
theorem done88_B (o:Nat→Value) (v0 v1 v4 v5 v10 v11:Value) (H:Hp) (n:Nat) (D:List Nat):aw P dW (TB88 o v0 v1 v4 v5 v10 v11) H n D =
  (getK (lk H D) fun H=>aq (resV P ((Tr.nil:Tm).set 4 (some v4)) H dW) fun vs=>some (oneV vs,H,n)):=by
 kernel_rfl
theorem asg88_B (l lp:Nat) (o:Nat→Value) (v0 v1 v4 v5 v10 v11 p:Value) (H:Hp) (n:Nat) :
  (cal (l+1)).body lp 88 mq { T:=(TB88 o v0 v1 v4 v5 v10 v11).set 28 (some p),H,n,D:=[] }=some (.norm,{ T:=((TB88 o v0 v1 v4 v5 v10 v11).set 28 (some p)).set 8 (some p),H,n,D:=[] }):=by kernel_rfl
theorem bod88_B (l lp:Nat) (o:Nat→Value) (v0 v1 v4 v5 v10 v11 p:Value) (H:Hp) (n:Nat):∃ U V:Value→Value→Value→Tm,
  (cal (l+1)).body lp 88 mW { T:=((TB88 o v0 v1 v4 v5 v10 v11).set 28 (some p)).set 8 (some p),H,n,D:=[] } =
   (aq (aY P 108 v5 p) fun v30=>aq (aX v30) fun a=>aq (ak P H 4 a) fun v31=>ifK v31
    (aq (bx P 4 v4 (.bool false) H) fun H=>some (.ret,{ T:=U v30 v31 v31,H,n,D:=[] }))
    (aq (aY P 108 v5 p) fun v33=>aq (bx P 4 v33 (.bool true) H) fun H=>some (.norm,{ T:=V v30 v31 v33,H,n,D:=[] }))):=
 ⟨fun v30 v31 _=>((((((TB88 o v0 v1 v4 v5 v10 v11).set 28 (some p)).set 8 (some p)).set 29 (some p)).set 30 (some v30)).set 31 (some v31)),
  fun v30 v31 v33=>((((((((TB88 o v0 v1 v4 v5 v10 v11).set 28 (some p)).set 8 (some p)).set 29 (some p)).set 30 (some v30)).set 31 (some v31)).set 32 (some p)).set 33 (some v33)),by kernel_rfl⟩
theorem next88_C (c:Cal) (k m:Nat) (o:Nat→Value) (v0 v1 v4 v5 v10 v11:Value) (H:Hp) (n:Nat) (D:List Nat):KN88 c k m (TC88 o v0 v1 v4 v5 v10 v11) H n D =
  (binK P .add 3 (.tmp 11) (.const (.int .i64 1)) v11 (.int .i64 1) fun v34=>LP88 c k m (TC88 (upd o 34 v34) v0 v1 v4 v5 v10 v34) H n D):=by
 kernel_rfl
theorem done88_C (o:Nat→Value) (v0 v1 v4 v5 v10 v11:Value) (H:Hp) (n:Nat) (D:List Nat):aw P dW (TC88 o v0 v1 v4 v5 v10 v11) H n D =
  (getK (lk H D) fun H=>aq (resV P ((Tr.nil:Tm).set 4 (some v4)) H dW) fun vs=>some (oneV vs,H,n)):=by
 kernel_rfl
theorem asg88_C (l lp:Nat) (o:Nat→Value) (v0 v1 v4 v5 v10 v11 p:Value) (H:Hp) (n:Nat) :
  (cal (l+1)).body lp 88 mq { T:=(TC88 o v0 v1 v4 v5 v10 v11).set 28 (some p),H,n,D:=[] }=some (.norm,{ T:=((TC88 o v0 v1 v4 v5 v10 v11).set 28 (some p)).set 8 (some p),H,n,D:=[] }):=by kernel_rfl
theorem bod88_C (l lp:Nat) (o:Nat→Value) (v0 v1 v4 v5 v10 v11 p:Value) (H:Hp) (n:Nat):∃ U V:Value→Value→Value→Tm,
  (cal (l+1)).body lp 88 mW { T:=((TC88 o v0 v1 v4 v5 v10 v11).set 28 (some p)).set 8 (some p),H,n,D:=[] } =
   (aq (aY P 108 v5 p) fun v30=>aq (aX v30) fun a=>aq (ak P H 4 a) fun v31=>ifK v31
    (aq (bx P 4 v4 (.bool false) H) fun H=>some (.ret,{ T:=U v30 v31 v31,H,n,D:=[] }))
    (aq (aY P 108 v5 p) fun v33=>aq (bx P 4 v33 (.bool true) H) fun H=>some (.norm,{ T:=V v30 v31 v33,H,n,D:=[] }))):=
 ⟨fun v30 v31 _=>((((((TC88 o v0 v1 v4 v5 v10 v11).set 28 (some p)).set 8 (some p)).set 29 (some p)).set 30 (some v30)).set 31 (some v31)),
  fun v30 v31 v33=>((((((((TC88 o v0 v1 v4 v5 v10 v11).set 28 (some p)).set 8 (some p)).set 29 (some p)).set 30 (some v30)).set 31 (some v31)).set 32 (some p)).set 33 (some v33)),by kernel_rfl⟩
theorem post88_A (c:Cal) (k:Nat) (o:Nat→Value) (v0 v1 v4 v5 v10 v11 v12:Value) (H:Hp) (n:Nat) (D:List Nat):KE88 c k ((TA88 o v0 v1 v4 v5 v10 v11).set 12 (some v12)) H n D =
  (aq (bx P 4 v4 (.bool true) H) fun H=>getK (lk H D) fun H=>aq (resV P ((Tr.nil:Tm).set 4 (some v4)) H dW) fun vs=>some (oneV vs,H,n)):=by
 kernel_rfl
theorem post88_C (c:Cal) (k:Nat) (o:Nat→Value) (v0 v1 v4 v5 v10 v11 v12:Value) (H:Hp) (n:Nat) (D:List Nat):KE88 c k ((TC88 o v0 v1 v4 v5 v10 v11).set 12 (some v12)) H n D =
  (aq (bx P 4 v4 (.bool true) H) fun H=>getK (lk H D) fun H=>aq (resV P ((Tr.nil:Tm).set 4 (some v4)) H dW) fun vs=>some (oneV vs,H,n)):=by
 kernel_rfl
theorem call88 (l:Nat) (a b:Value) (H:Hp) (n:Nat):(cal (l+1)).call 88 [a,b] H n=aK P (cal l) A (KK+1) 88 [a,b] H n:=by kernel_rfl
theorem ntm88:ntm P 88=35:=by kernel_rfl
theorem results88_eq:dW=[.cell 4 4]:=by kernel_rfl
end Go.Proofs.Ytekajfobmnedjaa.spec
end
section
namespace Go.Proofs.Ytekajfobmnedjaa.spec
open Go Go.Ev Go.Proofs.Ytekajfobmnedjaa.nestFits Go.Proofs.Ytekajfobmnedjaa.G
set_option maxRecDepth 100000
variable {ρ:Type}
def WQ (T:Tm) (v0 v1:Value) (b4 b5:Nat) (v10 v11:Value):Prop:=∃ o:Nat→Value,o 9=v1∧(T=TB88 o v0 v1 (.pointer (some ⟨b4,0,none⟩)) (.pointer (some ⟨b5,0,none⟩)) v10 v11∨T=TC88 o v0 v1 (.pointer (some ⟨b4,0,none⟩)) (.pointer (some ⟨b5,0,none⟩)) v10 v11)
theorem asg88_of (l lp:Nat) {T:Tm} {v0 v1 v10 v11:Value} {b4 b5:Nat} (hT:WQ T v0 v1 b4 b5 v10 v11) (p:Value) (H:Hp) (n:Nat) :
  (cal (l+1)).body lp 88 mq { T:=T.set 28 (some p),H,n,D:=[] }=some (.norm,{ T:=(T.set 28 (some p)).set 8 (some p),H,n,D:=[] }):=by
 obtain⟨o,_,rfl | rfl⟩:=hT
 ·exact asg88_B ..
 ·exact asg88_C ..
theorem bod88_of (l lp:Nat) {T:Tm} {v0 v1 v10 v11:Value} {b4 b5:Nat} (hT:WQ T v0 v1 b4 b5 v10 v11) (p:Value) (H:Hp) (n:Nat):∃ U V:Value→Value→Value→Tm,
  (cal (l+1)).body lp 88 mW { T:=(T.set 28 (some p)).set 8 (some p),H,n,D:=[] } =
   (aq (aY P 108 (.pointer (some ⟨b5,0,none⟩)) p) fun v30=>aq (aX v30) fun a=>aq (ak P H 4 a) fun v31=>ifK v31
    (aq (bx P 4 (.pointer (some ⟨b4,0,none⟩)) (.bool false) H) fun H=>some (.ret,{ T:=U v30 v31 v31,H,n,D:=[] }))
    (aq (aY P 108 (.pointer (some ⟨b5,0,none⟩)) p) fun v33=>aq (bx P 4 v33 (.bool true) H) fun H=>some (.norm,{ T:=V v30 v31 v33,H,n,D:=[] }))):=by
 obtain⟨o,_,rfl | rfl⟩:=hT
 ·exact bod88_B ..
 ·exact bod88_C ..
theorem yield88 (l:Nat) {T:Tm} {H:Hp} {n lb b4 b5 d p:Nat} {tk:Nat→Bool} {v0 v1 v10 v11:Value} (hT:WQ T v0 v1 b4 b5 v10 v11)
  (hl:H.get lb=some (.loop .ready none 88 T (ntm P 88) #[28] mq mW d)) (h4:∃ w,H.get b4=some (.cells [w] 4 false none)) (h5:bV H b5 8 108 fun k=>.bool (tk k)) (e4:b4≠lb) (e5:b5≠lb) (e45:b4≠b5) (hp:p<8) :
  (tk p=true∧∃ H',(∀ k:Value→Hp→Nat→Option ρ,ew P (cal (l+1)) (.func (.yield lb) #[] #[]) [.int .i64 p] H n k=k (.bool false) H' n)∧H'.get b4=some (.cells [.bool false] 4 false none) ∧
   H'.get lb=some (.loop .done (some .ret) 88 T (ntm P 88) #[28] mq mW d)∧∀ b,b≠lb→b≠b4→H'.get b=H.get b) ∨
  (tk p=false∧∃ H',(∀ k:Value→Hp→Nat→Option ρ,ew P (cal (l+1)) (.func (.yield lb) #[] #[]) [.int .i64 p] H n k=k (.bool true) H' n)∧H'.get lb=H.get lb ∧
   bV H' b5 8 108 (fun k=>.bool (if k=p then true else tk k))∧∀ b,b≠lb→b≠b5→H'.get b=H.get b):=by
 have hpar:sJ T (ntm P 88) (#[28]:Array Tmp).toList [.int .i64 p]=some (T.set 28 (some (.int .i64 p))):=by
  rw[ntm88]; rfl
 have hasg:(cal (l+1)).body lb 88 mq { T:=T.set 28 (some (.int .i64 p)),H,n,D:=[] }=some (.norm,{ T:=(T.set 28 (some (.int .i64 p))).set 8 (some (.int .i64 p)),H,n,D:=[] }):=asg88_of l lb hT _ H n
 have hrdy:pW H lb=true:=by unfold pW; rw[hl]
 have hpen:kv H lb=none:=by unfold kv; rw[hl]
 have hbusy:fJ H lb .busy none=some (H.set lb (some (.loop .busy none 88 T (ntm P 88) #[28] mq mW d))):=by unfold fJ; rw[hl]
 have ho:∀ b,b≠lb→(H.set lb (some (.loop .busy none 88 T (ntm P 88) #[28] mq mW d))).get b=H.get b:=fun b hb=>by rw[Tr.get_set,if_neg hb]
 have gl:(H.set lb (some (.loop .busy none 88 T (ntm P 88) #[28] mq mW d))).get lb=some (.loop .busy none 88 T (ntm P 88) #[28] mq mW d):=by rw[Tr.get_set,if_pos rfl]
 generalize H.set lb (some (.loop .busy none 88 T (ntm P 88) #[28] mq mW d))=H1 at hbusy ho gl
 have g5:bV H1 b5 8 108 fun k=>.bool (tk k):=by
  obtain⟨c,a1,a2,a3⟩:=h5
  exact⟨c,(ho b5 e5).trans a1,a2,a3⟩
 have ld:=g5.load (P:=P) (t:=4) (k:=p) agg4 hp
 obtain⟨U,V,hbd⟩:=bod88_of l lb hT (.int .i64 p) H1 n
 rw[at108 b5 0 hp,aj,aQ,aj,show 0+p * 1=p by omega,ld,aj] at hbd
 have out:∀(j:Bool) (H':Hp) (n':Nat),(∀ k:Value→Hp→Nat→Option ρ,kW (fun | some l'=>(cal (l+1)).body l' | none=>fun _ _ _=>none) P lb [.int .i64 p] (bare H n)=some (.bool j,{ bare H n with H:=H',n:=n' })→ew P (cal (l+1)) (.func (.yield lb) #[] #[]) [.int .i64 p] H n k=k (.bool j) H' n'):=by
  intro j H' n' k hy
  show stK (kW (fun | some l'=>(cal (l+1)).body l' | none=>fun _ _ _=>none) P lb [.int .i64 p] (bare H n)) k=_
  rw[hy]
  rfl
 have hb:Nat.beq (ntm P 88) (ntm P 88)=true:=Nat.beq_refl _
 cases c:tk p with
 | true=>
  refine .inl ⟨rfl,?_⟩
  obtain⟨w,w1⟩:=h4
  have g4:=(ho b4 e4).trans w1
  have hst:=dZ (vs:=[.bool false]) g4 rfl rfl
  rw[c,eZ,gX sz4 rfl,hst,aj] at hbd
  have q1:(H1.set b4 (some (.cells [.bool false] 4 false none))).get b4=some (.cells [.bool false] 4 false none):=by rw[Tr.get_set,if_pos rfl]
  have q2:∀ b,b≠b4→(H1.set b4 (some (.cells [.bool false] 4 false none))).get b=H1.get b:=fun b h=>by rw[Tr.get_set,if_neg h]
  generalize H1.set b4 (some (.cells [.bool false] 4 false none))=H5 at hbd q1 q2
  have hend:fJ H5 lb .done (some .ret)=some (H5.set lb (some (.loop .done (some .ret) 88 T (ntm P 88) #[28] mq mW d))):=by unfold fJ; rw[q2 lb (Ne.symm e4),gl]
  refine⟨H5.set lb (some (.loop .done (some .ret) 88 T (ntm P 88) #[28] mq mW d)),fun k=>out false _ _ k ?_,by rw[Tr.get_set,if_neg e4]; exact q1,by rw[Tr.get_set,if_pos rfl],fun b h1 h2=>by rw[Tr.get_set,if_neg h1,q2 b h2]; exact ho b h1⟩
  unfold kW
  have hx:Az .ret=some (some .ret):=rfl
  have hn:(some Code.ret).isNone=false:=rfl
  have hff:¬ (false=true):=by simp
  simp only[bare,hl,hb,hpar,hasg,hrdy,hpen,hbusy,hbd,hx,hn,if_neg hff,hend]
 | false=>
  refine .inr ⟨rfl,?_⟩
  obtain⟨H5,s1,s2,s3⟩:=g5.storeN (o:=p) (vs:=[.bool true]) (by simp; omega) rfl
  rw[c,dX,aj,gX sz4 rfl,s1,aj] at hbd
  have hend:fJ H5 lb .ready none=some (H5.set lb (some (.loop .ready none 88 T (ntm P 88) #[28] mq mW d))):=by unfold fJ; rw[s3 lb (Ne.symm e5),gl]
  refine⟨H5.set lb (some (.loop .ready none 88 T (ntm P 88) #[28] mq mW d)),fun k=>out true _ _ k ?_,by rw[Tr.get_set,if_pos rfl,hl],?_,fun b h1 h2=>by rw[Tr.get_set,if_neg h1,s3 b h2]; exact ho b h1⟩
  ·unfold kW
   have hx:Az .norm=some none:=rfl
   simp only[bare,hl,hb,hpar,hasg,hrdy,hpen,hbusy,hbd,hx,Option.isNone_none,if_true,hend]
  ·obtain⟨c5,a1,a2,a3⟩:=s2
   refine⟨c5,by rw[Tr.get_set,if_neg e5]; exact a1,a2,fun k hk=>?_⟩
   rw[a3 k hk,wJ]
   show some (if k=p then Value.bool true else Value.bool (tk k))=some (Value.bool (if k=p then true else tk k))
   by_cases e:k=p
   ·rw[if_pos e,if_pos e]
   ·rw[if_neg e,if_neg e]
theorem range_cut {i np:Nat} (h:i<np):∃ t,List.range np=List.range i++i::t:=by
 refine⟨List.range' (i+1) (np-(i+1)),?_⟩
 rw[List.range_eq_range',List.range_eq_range',show np=i+((np-(i+1))+1) by omega,← List.range'_append_1,List.range'_succ,show i+(np-(i+1)+1)-(i+1)=np-(i+1) by omega]
 simp
theorem iter2_loop (c:Cal) (k:Nat) (yv:Value) (pb sb g pad np:Nat) (x:Value) (near:Nat→Bool) (hpad:pad<8) (hnp:np≤8) (Inv:List Nat→Hp→Nat→Prop) (Fin:List Nat→Nat→Hp→Nat→Prop) (hR:∀ ps H n,Inv ps H n→Reads H pb sb g x pad near)
  (hY:∀(ps:List Nat) (p:Nat) (H:Hp) (n:Nat),Inv ps H n→p<8→∃ H' n',((∀ k:Value→Hp→Nat→Res,ew P c yv [.int .i64 p] H n k=k (.bool true) H' n')∧Inv (ps++[p]) H' n')∨((∀ k:Value→Hp→Nat→Res,ew P c yv [.int .i64 p] H n k=k (.bool false) H' n')∧Fin ps p H' n')) (ps0:List Nat):∀(m i:Nat) (H:Hp) (n:Nat),
  Inv (ps0++(List.range i).filter near) H n→i≤np→np-i≤m →
  ∃ H' n',Lk c k m yv (.pointer (some ⟨pb,0,none⟩)) (.pointer (some ⟨sb,0,none⟩)) (.int .i64 np) (.int .i64 i) H n=some (.tuple ⟨[]⟩,H',n')∧(Inv (ps0++(List.range np).filter near) H' n'∨∃ ps p t,ps0++(List.range np).filter near=ps++p::t∧Fin ps p H' n'):=by
 have body:∀(b1:Value→Value→Value→Value→Value→Hp→Nat→Res) (m i:Nat) (H:Hp) (n:Nat),Inv (ps0++(List.range i).filter near) H n→i≤np →
   (∀ H' n',Inv (ps0++(List.range (i+1)).filter near) H' n'→i<np→∃ H2 n2,b1 yv (.pointer (some ⟨pb,0,none⟩)) (.pointer (some ⟨sb,0,none⟩)) (.int .i64 np) (.int .i64 ((i+1:Nat):Int)) H' n'=some (.tuple ⟨[]⟩,H2,n2)∧(Inv (ps0++(List.range np).filter near) H2 n2∨∃ ps p t,ps0++(List.range np).filter near=ps++p::t∧Fin ps p H2 n2)) →
   ∃ H' n',Lz c k m b1 yv (.pointer (some ⟨pb,0,none⟩)) (.pointer (some ⟨sb,0,none⟩)) (.int .i64 np) (.int .i64 i) H n=some (.tuple ⟨[]⟩,H',n')∧(Inv (ps0++(List.range np).filter near) H' n'∨∃ ps p t,ps0++(List.range np).filter near=ps++p::t∧Fin ps p H' n'):=by
  intro b1 m i H n hI hi ih
  unfold Lz B119_1
  rw[aJ cX,ij]
  by_cases hlt:i<np
  ·obtain⟨r1,r2,r3,r4⟩:=hR _ _ _ hI
   have hi8:i<8:=by omega
   have hb:=r4 i hi8
   have hI1:I64 ((i:Int)+1):=by unfold I64; omega
   have hcast:((i:Int)+1)=((i+1:Nat):Int):=by omega
   rw[if_pos (by omega),aQ,aj,r2,aj,aQ,aj,r1,aj,iz,aj,XK,aj,at109 _ _ hpad,aj,at108 _ _ hi8,aj,aQ,aj,hb,aj]
   cases hn:near i with
   | true=>
    obtain⟨H1,n1,⟨e1,e2⟩ | ⟨e1,e2⟩⟩:=hY _ i _ _ hI hi8
    ·simp only[My,e1,mQ,aj,dw,dX,aJ (bK hI1),hcast]
     refine ih H1 n1 ?_ hlt
     rw[List.range_succ,List.filter_append,← List.append_assoc]
     simp only[List.filter_cons,hn,if_true,List.filter_nil]
     exact e2
    ·simp only[My,e1,oZ,aj,dw,eZ]
     obtain⟨t,ht⟩:=range_cut hlt
     refine⟨H1,n1,rfl,.inr ⟨ps0++(List.range i).filter near,i,t.filter near,?_,e2⟩⟩
     rw[ht,List.filter_append,List.filter_cons,hn,if_pos rfl,List.append_assoc]
   | false=>
    simp only[TK,cK,aj,dX,aJ (bK hI1),hcast]
    refine ih H n ?_ hlt
    rw[List.range_succ,List.filter_append]
    simp only[List.filter_cons,hn,List.filter_nil,Bool.false_eq_true,if_false,List.append_nil]
    exact hI
  ·rw[if_neg (by omega)]
   have hi':i=np:=by omega
   subst hi'
   exact⟨H,n,rfl,.inl hI⟩
 intro m
 induction m with
 | zero=>
  intro i H n h1 h2 h3
  exact body _ 0 i H n h1 h2 (fun _ _ _ h=>by omega)
 | succ m ih=>
  intro i H n h1 h2 h3
  exact body _ (m+1) i H n h1 h2 (fun H' n' q1 q2=>ih (i+1) H' n' q1 (by omega) (by omega))
theorem iter2_spec (c:Cal) (yv:Value) (pb sb g pad np:Nat) (x:Value) (near:Nat→Bool) (hpad:pad<8) (hnp:np≤8) (hx:lenV P 31 x=some (.int .i64 np)) (Inv:List Nat→Hp→Nat→Prop) (Fin:List Nat→Nat→Hp→Nat→Prop) (hR:∀ ps H n,Inv ps H n→Reads H pb sb g x pad near)
  (hY:∀(ps:List Nat) (p:Nat) (H:Hp) (n:Nat),Inv ps H n→p<8→∃ H' n',((∀ k:Value→Hp→Nat→Res,ew P c yv [.int .i64 p] H n k=k (.bool true) H' n')∧Inv (ps++[p]) H' n')∨((∀ k:Value→Hp→Nat→Res,ew P c yv [.int .i64 p] H n k=k (.bool false) H' n')∧Fin ps p H' n')) {H:Hp} {n:Nat} (h0:Inv [] H n) :
  ∃ H' n',EX c KK yv (.pointer (some ⟨pb,0,none⟩)) (.pointer (some ⟨sb,0,none⟩)) H n=some (.tuple ⟨[]⟩,H',n')∧(Inv (pad::(List.range np).filter near) H' n'∨∃ ps p t,pad::(List.range np).filter near=ps++p::t∧Fin ps p H' n'):=by
 unfold EX B119_0
 generalize hS:Lk c KK KK=S
 obtain⟨r1,_,_,_⟩:=hR _ _ _ h0
 obtain⟨H1,n1,⟨e1,e2⟩ | ⟨e1,e2⟩⟩:=hY _ pad _ _ h0 hpad
 ·obtain⟨_,r2,r3,_⟩:=hR _ _ _ e2
  rw[aQ,aj,r1,aj,e1,mQ,aj,dX,aQ,aj,r2,aj,iz,aj,mz,aj,pY,aj,aQ,aj,r3,aj,hx,aj,← hS]
  exact iter2_loop c KK yv pb sb g pad np x near hpad hnp Inv Fin hR hY [pad] KK 0 H1 n1 e2 (by omega) (by unfold KK; omega)
 ·rw[aQ,aj,r1,aj,e1,oZ,aj,eZ]
  exact⟨H1,n1,rfl,.inr ⟨[],pad,_,rfl,e2⟩⟩
end Go.Proofs.Ytekajfobmnedjaa.spec
end
section
namespace Go.Proofs.Ytekajfobmnedjaa.spec
open Go Go.Ev Go.Proofs.Ytekajfobmnedjaa.nestFits Go.Proofs.Ytekajfobmnedjaa.G
set_option maxRecDepth 100000
variable {ρ:Type}
theorem zero108:iZ P 108=some (.agg ⟨List.replicate 8 (.bool false)⟩):=by kernel_rfl
noncomputable def Ej (js:List Int) (nj np p:Nat):List Nat:=p::(List.range np).filter (kQ js nj p)
theorem PQ {js:List Int} {nj np p q:Nat} (hp:p<np):q ∈ Ej js nj np p↔q<np∧nbr js nj p q:=by
 unfold Ej nbr
 rw[List.mem_cons,List.mem_filter,List.mem_range]
 constructor
 ·rintro(rfl | ⟨h1,h2⟩)
  ·exact⟨hp,.inl rfl⟩
  ·exact⟨h1,.inr h2⟩
 ·rintro⟨h1,rfl | h2⟩
  ·exact .inl rfl
  ·exact .inr ⟨h1,h2⟩
theorem reachN_nodup {js:List Int} {nj np p:Nat} (hs:kQ js nj p p=false):(Ej js nj np p).Nodup:=by
 unfold Ej
 refine List.nodup_cons.2 ⟨fun h=>?_,List.Pairwise.filter _ List.nodup_range⟩
 rw[(List.mem_filter.1 h).2] at hs
 cases hs
theorem qek {js ps:List Int} {nj np x:Nat} {l:List Nat}:apB js ps nj np (l++[x])=true↔apB js ps nj np l=true∧ps.getD (x * 2) 0≠0∧∀ a ∈ l,∀ q,q<np→¬ (nbr js nj a q∧nbr js nj x q):=by
 rw[RQ,RQ,List.pairwise_append]
 constructor
 ·rintro⟨h1,h2,_,h3⟩
  exact⟨⟨fun p hp=>h1 p (List.mem_append_left _ hp),h2⟩,h1 x (by simp),fun a ha=>h3 a ha x (by simp)⟩
 ·rintro⟨⟨h1,h2⟩,h3,h4⟩
  refine⟨fun p hp=>?_,h2,List.pairwise_singleton _ _,fun a ha b hb=>?_⟩
  ·rcases List.mem_append.1 hp with h | h
   ·exact h1 p h
   ·rw[List.mem_singleton.1 h]; exact h3
  ·rw[List.mem_singleton.1 hb]; exact h4 a ha
def mZ (l:List Nat):List Int:=l.map fun(p:Nat)=>(p:Int)
theorem castL_len (l:List Nat):(mZ l).length=l.length:=by simp [mZ]
theorem By {l:List Nat} {i:Nat} (h:i<l.length):(mZ l).getD i 0=(l[i]:Nat):=by
 simp [mZ,List.getD,h]
theorem range88 (c:Cal) (a b:Value) (K:KC (Value×Hp×Nat)) (X:XC (Value×Hp×Nat)) (Kr:KC (Value×Hp×Nat)) (T:Tm) (H:Hp) (n:Nat) (D:List Nat) :
  nW P c none 88 (.func (.func 119) ⟨[]⟩ ⟨[a,b]⟩) #[28] mq mW K X Kr T H n D =
   aW P c 119 [.func (.yield (n+1)) #[] #[],a,b] ((H.set n (some .deferred)).set (n+1) (some (.loop .ready none 88 T (ntm P 88) #[28] mq mW n))) (n+2) fun _ H n'=>fin K X Kr (fX (n+1) { T:=T,H,n:=n',D:=n::D }):=rfl
theorem call119' (l:Nat) (a b c:Value) (H:Hp) (n:Nat) (k:Value→Hp→Nat→Option ρ) (hb:bz b=false):aW P (cal (l+1)) 119 [a,b,c] H n k=aq (EX (cal l) KK a b c H n) fun r=>k r.1 r.2.1 r.2.2:=by
 unfold aW
 have:(fj P 119 && bY [a,b,c])=false:=by simp [bY,hb]
 rw[this,call119]
theorem round88 (l:Nat) {H:Hp} {n b4 b5 g np nj pad m0:Nat} {tk:Nat→Bool} {f:Nat→Value} {x y z v1 v10 v11:Value} {ps js:List Int} (hf:bV H g 859 117 f) (hs:SiteF f x y z js nj) (hx:cV H m0 2 x np ps) (hnp:np≤8) (hpad:pad<np) (hself:kQ js nj pad pad=false)
  (h4:∃ w,H.get b4=some (.cells [w] 4 false none)) (h5:bV H b5 8 108 fun k=>.bool (tk k)) (hm0:m0≤n) (l4:b4<n) (l5:b5<n) (lg:g<n) (e45:b4≠b5) (eg4:g≠b4) (eg5:g≠b5)
  {TT:Value→Tm} (hTT:∀ v,WQ (TT v) (.pointer (some ⟨g,0,none⟩)) v1 b4 b5 v10 v11) (K:KC (Value×Hp×Nat)) (X:XC (Value×Hp×Nat)) (D:List Nat) :
  ∃ T H' n',WQ T (.pointer (some ⟨g,0,none⟩)) v1 b4 b5 v10 v11∧n+4≤n'∧H'.get (n+2)=some .deferred∧(∀ b,b<n→b≠b4→b≠b5→H'.get b=H.get b) ∧
   (((∃ q,q ∈ Ej js nj np pad∧tk q=true)∧H'.get b4=some (.cells [.bool false] 4 false none) ∧
    (aW P (cal (l+2)) 113 [.pointer (some ⟨g,0,none⟩),.int .i64 pad] H n fun v27 H n=>nW P (cal (l+2)) none 88 v27 #[28] mq mW K X (aw P dW) (TT v27) H n D)=aw P dW T H' n' ((n+2)::D)) ∨
    ((∀ q,q ∈ Ej js nj np pad→tk q=false)∧H'.get b4=H.get b4∧bV H' b5 8 108 (fun k=>.bool (decide (k ∈ Ej js nj np pad) || tk k)) ∧
    (aW P (cal (l+2)) 113 [.pointer (some ⟨g,0,none⟩),.int .i64 pad] H n fun v27 H n=>nW P (cal (l+2)) none 88 v27 #[28] mq mW K X (aw P dW) (TT v27) H n D)=K T H' n' ((n+2)::D))):=by
 rw[reached_call (l+1)]
 have a1:((H.set n (some (.cells [.pointer (some ⟨g,0,none⟩)] 105 false none))).set (n+1) (some (.cells [.int .i64 pad] 3 false none))).get n=some (.cells [.pointer (some ⟨g,0,none⟩)] 105 false none):=by rw[Tr.get_set,if_neg (by omega),Tr.get_set,if_pos rfl]
 have a2:((H.set n (some (.cells [.pointer (some ⟨g,0,none⟩)] 105 false none))).set (n+1) (some (.cells [.int .i64 pad] 3 false none))).get (n+1)=some (.cells [.int .i64 pad] 3 false none):=by rw[Tr.get_set,if_pos rfl]
 have a3:Keep n H ((H.set n (some (.cells [.pointer (some ⟨g,0,none⟩)] 105 false none))).set (n+1) (some (.cells [.int .i64 pad] 3 false none))):=((Keep.refl n H).set (Nat.le_refl _) _).set (by omega) _
 generalize (H.set n (some (.cells [.pointer (some ⟨g,0,none⟩)] 105 false none))).set (n+1) (some (.cells [.int .i64 pad] 3 false none))=H5 at a1 a2 a3 ⊢
 rw[range88,call119' (l+1) _ _ _ _ _ _ rfl]
 have hT:=hTT (.func (.func 119) ⟨[]⟩ ⟨[.pointer (some ⟨n+1,0,none⟩),.pointer (some ⟨n,0,none⟩)]⟩)
 generalize TT (.func (.func 119) ⟨[]⟩ ⟨[.pointer (some ⟨n+1,0,none⟩),.pointer (some ⟨n,0,none⟩)]⟩)=T at hT ⊢
 have r1:∀ b,b<n+2→((H5.set (n+2) (some .deferred)).set (n+2+1) (some (.loop .ready none 88 T (ntm P 88) #[28] mq mW (n+2)))).get b=H5.get b:=fun b hb=>by rw[Tr.get_set,if_neg (by omega),Tr.get_set,if_neg (by omega)]
 have r2:((H5.set (n+2) (some .deferred)).set (n+2+1) (some (.loop .ready none 88 T (ntm P 88) #[28] mq mW (n+2)))).get (n+2)=some .deferred:=by rw[Tr.get_set,if_neg (by omega),Tr.get_set,if_pos rfl]
 have r3:((H5.set (n+2) (some .deferred)).set (n+2+1) (some (.loop .ready none 88 T (ntm P 88) #[28] mq mW (n+2)))).get (n+2+1)=some (.loop .ready none 88 T (ntm P 88) #[28] mq mW (n+2)):=by rw[Tr.get_set,if_pos rfl]
 generalize (H5.set (n+2) (some .deferred)).set (n+2+1) (some (.loop .ready none 88 T (ntm P 88) #[28] mq mW (n+2)))=H6 at r1 r2 r3 ⊢
 have low:∀ b,b<n→H6.get b=H.get b:=fun b hb=>by rw[r1 b (by omega),a3 b hb]
 have hlx:lenV P 31 x=some (.int .i64 np):=hx.len_eq Av
 have rd:∀ Hc:Hp,(∀ b,b≠n+2+1→b≠b5→Hc.get b=H6.get b)→Reads Hc (n+1) n g x pad (kQ js nj pad):=by
  intro Hc hc
  have c3:Hc.get n=some (.cells [.pointer (some ⟨g,0,none⟩)] 105 false none):=by rw[hc _ (by omega) (by omega),r1 _ (by omega)]; exact a1
  have c4:Hc.get (n+1)=some (.cells [.int .i64 pad] 3 false none):=by rw[hc _ (by omega) (by omega),r1 _ (by omega)]; exact a2
  have cg:bV Hc g 859 117 f:=by
   obtain⟨c,e1,e2,e3⟩:=hf
   exact⟨c,by rw[hc _ (by omega) eg5,low _ lg]; exact e1,e2,e3⟩
  refine⟨bJ (o:=0) (k:=0) (ej c4) agg3 rfl,bw (o:=0) (k:=0) (ej c3) pK rfl rfl rfl,?_,fun b hb=>?_⟩
  ·have:=cg.load (P:=P) (k:=0) xJ (by omega)
   rw[hs.x] at this; exact this
  ·have:=cg.load (P:=P) (k:=3+pad * 8+b) agg4 (by omega)
   rw[hs.near pad b (by omega) hb] at this
   rw[show 0+3+pad * 8+b * 1=3+pad * 8+b by omega]
   exact this
 obtain⟨H7,n7,s1,s2⟩:=iter2_spec (cal (l+1)) (.func (.yield (n+2+1)) #[] #[]) (n+1) n g pad np x (kQ js nj pad) (by omega) hnp hlx
  (fun qs Hc nc=>nc=n+2+2∧Hc.get (n+2+1)=some (.loop .ready none 88 T (ntm P 88) #[28] mq mW (n+2))∧bV Hc b5 8 108 (fun k=>.bool (decide (k ∈ qs) || tk k))∧(∀ q ∈ qs,tk q=false)∧∀ b,b≠n+2+1→b≠b5→Hc.get b=H6.get b)
  (fun qs p Hc nc=>nc=n+2+2∧(p ∈ qs∨tk p=true)∧Hc.get b4=some (.cells [.bool false] 4 false none)∧Hc.get (n+2+1)=some (.loop .done (some .ret) 88 T (ntm P 88) #[28] mq mW (n+2))∧∀ b,b≠n+2+1→b≠b5→b≠b4→Hc.get b=H6.get b)
  (fun qs Hc nc ⟨_,_,_,_,h⟩=>rd Hc h)
  (fun qs p Hc nc ⟨h1,h2,h3,h4',h5'⟩ hp=>by
   rcases yield88 (ρ:=Value×Hp×Nat) l (n:=nc) (d:=n+2) (p:=p) hT h2 (by obtain⟨w,w1⟩:=h4; exact⟨w,by rw[h5' _ (by omega) e45,low _ l4]; exact w1⟩) h3 (by omega) (by omega) e45 hp with⟨y1,H',y2,y3,y4,y5⟩ | ⟨y1,H',y2,y3,y4,y5⟩
   ·refine⟨H',nc,.inr ⟨y2,h1,?_,y3,y4,fun b i1 i2 i3=>(y5 b i1 i3).trans (h5' b i1 i2)⟩⟩
    rw[Bool.or_eq_true,decide_eq_true_iff] at y1
    exact y1
   ·rw[Bool.or_eq_false_iff,decide_eq_false_iff_not] at y1
    refine⟨H',nc,.inl ⟨y2,h1,y3.trans h2,?_,fun q hq=>?_,fun b i1 i2=>(y5 b i1 i2).trans (h5' b i1 i2)⟩⟩
    ·obtain⟨c,c1,c2,c3⟩:=y4
     refine⟨c,c1,c2,fun k hk=>(c3 k hk).trans ?_⟩
     show some (Value.bool (if k=p then true else(decide (k ∈ qs) || tk k)))=some (Value.bool (decide (k ∈ qs++[p]) || tk k))
     by_cases e:k=p
     ·rw[if_pos e,e]; simp
     ·rw[if_neg e]; simp [e]
    ·rcases List.mem_append.1 hq with h | h
     ·exact h4' q h
     ·rw[List.mem_singleton.1 h]; exact y1.2)
  (H:=H6) (n:=n+2+2) ⟨rfl,r3,by
   obtain⟨c,c1,c2,c3⟩:=h5
   exact⟨c,(low b5 l5).trans c1,c2,fun k hk=>by rw[c3 k hk]; simp⟩,fun _ h=>(by cases h),fun _ _ _=>rfl⟩
 rw[s1,aj]
 dsimp only
 rcases s2 with⟨i1,i2,i3,i4,i5⟩ | ⟨qs,p,t,i0,i1,i2,i3,i4,i5⟩
 ·have hout:fX (n+2+1) { T:=T,H:=H7,n:=n7,D:=(n+2)::D }=some (.norm,{ T:=T,H:=H7.set (n+2+1) (some (.loop .exhausted none 88 T (ntm P 88) #[28] mq mW (n+2))),n:=n7,D:=(n+2)::D }):=by
   unfold fX
   simp only[i2]
  rw[hout]
  have ot:∀ b,b≠n+2+1→(H7.set (n+2+1) (some (.loop .exhausted none 88 T (ntm P 88) #[28] mq mW (n+2)))).get b=H7.get b:=fun b hb=>by rw[Tr.get_set,if_neg hb]
  refine⟨T,_,n7,hT,by omega,by rw[ot _ (by omega),i5 _ (by omega) (by omega)]; exact r2,fun b hb _ j5=>by rw[ot b (by omega),i5 b (by omega) j5,low b hb],.inr ⟨i4,by rw[ot b4 (by omega),i5 b4 (by omega) e45,low b4 l4],?_,rfl⟩⟩
  obtain⟨c,c1,c2,c3⟩:=i3
  exact⟨c,by rw[ot b5 (by omega)]; exact c1,c2,c3⟩
 ·have hout:fX (n+2+1) { T:=T,H:=H7,n:=n7,D:=(n+2)::D }=some (.ret,{ T:=T,H:=H7.set (n+2+1) (some (.loop .exhausted (some .ret) 88 T (ntm P 88) #[28] mq mW (n+2))),n:=n7,D:=(n+2)::D }):=by
   unfold fX
   simp only[i4]
  rw[hout]
  have ot:∀ b,b≠n+2+1→(H7.set (n+2+1) (some (.loop .exhausted (some .ret) 88 T (ntm P 88) #[28] mq mW (n+2)))).get b=H7.get b:=fun b hb=>by rw[Tr.get_set,if_neg hb]
  have hm:p ∈ Ej js nj np pad:=by
   unfold Ej
   rw[i0]
   simp
  have hnot:p ∉ qs:=by
   have hnd:=reachN_nodup (np:=np) hself
   unfold Ej at hnd
   rw[i0] at hnd
   intro h
   exact(List.pairwise_append.1 hnd).2.2 p h p (by simp) rfl
  exact⟨T,_,n7,hT,by omega,by rw[ot _ (by omega),i5 _ (by omega) (by omega) (by omega)]; exact r2,fun b hb j4 j5=>by rw[ot b (by omega),i5 b (by omega) j5 j4,low b hb],.inl ⟨⟨p,hm,i2.resolve_left hnot⟩,by rw[ot b4 (by omega)]; exact i3,rfl⟩⟩
theorem end88 {b4:Nat} {r:Bool} {H:Hp} {n:Nat} {D:List Nat} (h4:H.get b4=some (.cells [.bool r] 4 false none)) (hD:D.Nodup) (hd:∀ d,d ∈ D→H.get d=some .deferred) :
  ∃ H',(getK (lk H D) fun H=>aq (resV P ((Tr.nil:Tm).set 4 (some (.pointer (some ⟨b4,0,none⟩)))) H dW) fun vs=>some (oneV vs,H,n))=some (.bool r,H',n)∧∀ b,b ∉ D→H'.get b=H.get b:=by
 obtain⟨H3,t1,t2⟩:=qex D H hD hd
 have hb4:b4 ∉ D:=fun h=>by have:=hd b4 h; rw[h4] at this; cases this
 refine⟨H3,?_,t2⟩
 have ld:ak P H3 4 ⟨b4,0,none⟩=some (.bool r):=bw (o:=0) (k:=0) (ej ((t2 b4 hb4).trans h4)) agg4 rfl rfl rfl
 rw[t1]
 show(aq (resV P ((Tr.nil:Tm).set 4 (some (.pointer (some ⟨b4,0,none⟩)))) H3 dW) fun vs=>some (oneV vs,H3,n))=_
 have:resV P ((Tr.nil:Tm).set 4 (some (.pointer (some ⟨b4,0,none⟩)))) H3 dW=some [.bool r]:=by
  rw[results88_eq]
  have g:((Tr.nil:Tm).set 4 (some (.pointer (some ⟨b4,0,none⟩)))).get 4=some (.pointer (some ⟨b4,0,none⟩)):=by rw[Tr.get_set,if_pos rfl]
  simp only[resV,g,ld]
 rw[this]
 rfl
def IsL88 (T:Tm) (v0 v1:Value) (b4 b5:Nat) (v10:Value) (i:Nat):Prop:=∃ o:Nat→Value,o 9=v1∧((i=0∧T=TA88 o v0 v1 (.pointer (some ⟨b4,0,none⟩)) (.pointer (some ⟨b5,0,none⟩)) v10 (.int .i64 i))∨T=TC88 o v0 v1 (.pointer (some ⟨b4,0,none⟩)) (.pointer (some ⟨b5,0,none⟩)) v10 (.int .i64 i))
theorem next88 (c:Cal) (k m:Nat) {T:Tm} {v0 v1 v10:Value} {b4 b5 i:Nat} (hT:WQ T v0 v1 b4 b5 v10 (.int .i64 i)) (hi:i≤100000):∃ T',IsL88 T' v0 v1 b4 b5 v10 (i+1)∧∀(H:Hp) (n:Nat) (D:List Nat),KN88 c k m T H n D=LP88 c k m T' H n D:=by
 have hI1:I64 ((i:Int)+1):=by unfold I64; omega
 have hcast:((i:Int)+1)=((i+1:Nat):Int):=by omega
 obtain⟨o,ho,rfl | rfl⟩:=hT
 ·refine⟨_,⟨upd o 34 (.int .i64 ((i+1:Nat):Int)),ho,.inr rfl⟩,fun H n D=>?_⟩
  rw[next88_B,aJ (bK hI1),hcast]
 ·refine⟨_,⟨upd o 34 (.int .i64 ((i+1:Nat):Int)),ho,.inr rfl⟩,fun H n D=>?_⟩
  rw[next88_C,aJ (bK hI1),hcast]
theorem done88 {T:Tm} {v0 v1 v10 v11:Value} {b4 b5:Nat} (hT:WQ T v0 v1 b4 b5 v10 v11) (H:Hp) (n:Nat) (D:List Nat):aw P dW T H n D =
  (getK (lk H D) fun H=>aq (resV P ((Tr.nil:Tm).set 4 (some (.pointer (some ⟨b4,0,none⟩)))) H dW) fun vs=>some (oneV vs,H,n)):=by
 obtain⟨o,_,rfl | rfl⟩:=hT
 ·exact done88_B ..
 ·exact done88_C ..
theorem head88 (c:Cal) (k m:Nat) {T:Tm} {v1:Value} {b4 b5 g len i:Nat} (hT:IsL88 T (.pointer (some ⟨g,0,none⟩)) v1 b4 b5 (.int .i64 len) i) :
  (i<len→∃ TT:Value→Value→Value→Value→Value→Value→Value→Value→Value→Value→Value→Tm,(∀ v13 v14 v16 v17 v18 v19 v21 v22 v23 v24 v27,WQ (TT v13 v14 v16 v17 v18 v19 v21 v22 v23 v24 v27) (.pointer (some ⟨g,0,none⟩)) v1 b4 b5 (.int .i64 len) (.int .i64 i))∧∀(H:Hp) (n:Nat) (D:List Nat),LP88 c k (m+1) T H n D =
   (aq (aY P 44 v1 (.int .i64 i)) fun v13=>aq (aX v13) fun a=>aq (ak P H 3 a) fun v14=>aq (nilV (.pointer (some ⟨g,0,none⟩))) fun v16=>aq (ay P 117 v16 0) fun v17=>aq (ay P 35 v17 0) fun v18=>aq (aX v18) fun a=>aq (ak P H 31 a) fun v19=>
    aq (aY P 31 v19 v14) fun v21=>aq (ay P 90 v21 0) fun v22=>aq (aX v22) fun a=>aq (ak P H 3 a) fun v23=>binK P .eql 3 (.tmp 23) (.const (.int .i64 0)) v23 (.int .i64 0) fun v24=>ifK v24
    (aq (bx P 4 (.pointer (some ⟨b4,0,none⟩)) (.bool false) H) fun H=>getK (lk H D) fun H=>aq (resV P ((Tr.nil:Tm).set 4 (some (.pointer (some ⟨b4,0,none⟩)))) H dW) fun vs=>some (oneV vs,H,n))
    (aW P c 113 [.pointer (some ⟨g,0,none⟩),v14] H n fun v27 H n=>
     nW P c none 88 v27 #[28] mq mW (KN88 c k m) (upX 2 (KN88 c k m) (upX 1 (KN88 c k m) (upX 0 (KE88 c k) X0))) (aw P dW) (TT v13 v14 v16 v17 v18 v19 v21 v22 v23 v24 v27) H n D))) ∧
  (i=len→∀(H:Hp) (n:Nat) (D:List Nat),LP88 c k (m+1) T H n D =
   (aq (bx P 4 (.pointer (some ⟨b4,0,none⟩)) (.bool true) H) fun H=>getK (lk H D) fun H=>aq (resV P ((Tr.nil:Tm).set 4 (some (.pointer (some ⟨b4,0,none⟩)))) H dW) fun vs=>some (oneV vs,H,n))):=by
 obtain⟨o,ho,⟨_,rfl⟩ | rfl⟩:=hT
 ·refine⟨fun hlt=>⟨fun v13 v14 v16 v17 v18 v19 v21 v22 v23 v24 v27=>TB88 (upd (upd (upd (upd (upd (upd (upd (upd (upd (upd (upd (upd (upd (upd (upd (upd (upd o 12 (.bool (decide ((i:Int)<(len:Int))))) 13 v13) 14 v14) 7 v14) 15 (.pointer (some ⟨g,0,none⟩))) 16 v16) 17 v17) 18 v18) 19 v19) 20 v14) 21 v21) 22 v22) 23 v23) 24 v24) 25 (.pointer (some ⟨g,0,none⟩))) 26 v14) 27 v27) (.pointer (some ⟨g,0,none⟩)) v1 (.pointer (some ⟨b4,0,none⟩)) (.pointer (some ⟨b5,0,none⟩)) (.int .i64 len) (.int .i64 i),fun v13 v14 v16 v17 v18 v19 v21 v22 v23 v24 v27=>by refine⟨_,?_,.inl rfl⟩; exact ho,fun H n D=>?_⟩,fun he H n D=>?_⟩
  ·rw[loop88_A,aJ cX,ij,if_pos (by omega),ho]
  ·rw[loop88_A,aJ cX,ij,if_neg (by omega),post88_A]
 ·refine⟨fun hlt=>⟨fun v13 v14 v16 v17 v18 v19 v21 v22 v23 v24 v27=>TC88 (upd (upd (upd (upd (upd (upd (upd (upd (upd (upd (upd (upd (upd (upd (upd (upd (upd o 12 (.bool (decide ((i:Int)<(len:Int))))) 13 v13) 14 v14) 7 v14) 15 (.pointer (some ⟨g,0,none⟩))) 16 v16) 17 v17) 18 v18) 19 v19) 20 v14) 21 v21) 22 v22) 23 v23) 24 v24) 25 (.pointer (some ⟨g,0,none⟩))) 26 v14) 27 v27) (.pointer (some ⟨g,0,none⟩)) v1 (.pointer (some ⟨b4,0,none⟩)) (.pointer (some ⟨b5,0,none⟩)) (.int .i64 len) (.int .i64 i),fun v13 v14 v16 v17 v18 v19 v21 v22 v23 v24 v27=>by refine⟨_,?_,.inr rfl⟩; exact ho,fun H n D=>?_⟩,fun he H n D=>?_⟩
  ·rw[loop88_C,aJ cX,ij,if_pos (by omega),ho]
  ·rw[loop88_C,aJ cX,ij,if_neg (by omega),post88_C]
theorem loop88_spec (l k:Nat) {H0:Hp} {n0 base b4 b5 g np nj:Nat} {f:Nat→Value} {x y z v1:Value} {ps js:List Int} {L:List Nat} (hf:bV H0 g 859 117 f) (hs:SiteF f x y z js nj) (hx:cV H0 n0 2 x np ps) (hv:ListR H0 n0 v1 L.length (mZ L)) (hnp:np≤8)
  (hL:∀ p ∈ L,p<np) (hself:∀ p,p<np→kQ js nj p p=false) (hlen:L.length≤100000) (lg:g<n0) (h4:n0≤b4) (h5:n0≤b5) (l4:b4<base) (l5:b5<base) (e45:b4≠b5) :
  ∀(j i:Nat) (T:Tm) (H:Hp) (n:Nat) (D:List Nat) (tk:Nat→Bool),IsL88 T (.pointer (some ⟨g,0,none⟩)) v1 b4 b5 (.int .i64 L.length) i→i≤L.length→L.length-i≤j→base≤n→Keep n0 H0 H→(∃ w,H.get b4=some (.cells [w] 4 false none))→bV H b5 8 108 (fun q=>.bool (tk q)) →
   (∀ q,q<np→(tk q=true↔∃ p ∈ L.take i,nbr js nj p q))→apB js ps nj np (L.take i)=true→D.Nodup→(∀ d,d ∈ D→H.get d=some .deferred∧base≤d∧d<n) →
  ∃ H' n',LP88 (cal (l+2)) k (j+1) T H n D=some (.bool (apB js ps nj np L),H',n')∧n≤n'∧Keep n0 H0 H':=by
 have fin:∀(T:Tm) (H:Hp) (n:Nat) (D:List Nat),base≤n→Keep n0 H0 H→(∃ w,H.get b4=some (.cells [w] 4 false none))→D.Nodup→(∀ d,d ∈ D→H.get d=some .deferred∧base≤d∧d<n)→∀ r:Bool,
   ∃ H' n',(aq (bx P 4 (.pointer (some ⟨b4,0,none⟩)) (.bool r) H) fun H=>getK (lk H D) fun H=>aq (resV P ((Tr.nil:Tm).set 4 (some (.pointer (some ⟨b4,0,none⟩)))) H dW) fun vs=>some (oneV vs,H,n))=some (.bool r,H',n')∧n≤n'∧Keep n0 H0 H':=by
  intro T H n D hb hk ⟨w,w1⟩ hD hd r
  have hst:=dZ (vs:=[.bool r]) w1 rfl rfl
  have hb4:b4 ∉ D:=fun h=>by have:=(hd b4 h).1; rw[w1] at this; cases this
  obtain⟨H',q1,q2⟩:=end88 (b4:=b4) (r:=r) (H:=H.set b4 (some (.cells [.bool r] 4 false none))) (n:=n) (D:=D) (by rw[Tr.get_set,if_pos rfl]) hD fun d h=>by
   rw[Tr.get_set,if_neg (fun e=>hb4 (by rw[← e]; exact h))]; exact(hd d h).1
  refine⟨H',n,?_,Nat.le_refl _,fun b hbn=>?_⟩
  ·rw[gX sz4 rfl,hst,aj,q1]
  ·rw[q2 b (fun h=>by have:=(hd b h).2; omega),Tr.get_set,if_neg (by omega),hk b hbn]
 intro j
 induction j with
 | zero=>
  intro i T H n D tk hT hi hij hb hk hw h5' htk hap hD hd
  have:i=L.length:=by omega
  subst this
  obtain⟨H',n',q1,q2,q3⟩:=fin T H n D hb hk hw hD hd true
  rw[List.take_length] at hap
  exact⟨H',n',by rw[(head88 (cal (l+2)) k 0 hT).2 rfl,q1,hap],q2,q3⟩
 | succ j ih=>
  intro i T H n D tk hT hi hij hb hk hw h5' htk hap hD hd
  by_cases hlt:i<L.length
  ·obtain⟨TT,t1,t2⟩:=(head88 (cal (l+2)) k (j+1) hT).1 hlt
   have hpad:L[i]<np:=hL _ (List.getElem_mem _)
   obtain⟨pb,po,x1,_,x2⟩:=hv.at_ hlt
   have x2':ak P H 3 ⟨pb,po,none⟩=some (.int .i64 (L[i]:Nat)):=by
    obtain⟨pb',po',y1,_,y2⟩:=(hv.keep hk (Nat.le_refl _)).at_ hlt
    rw[x1] at y1
    cases y1
    rw[y2,By hlt]
   have hfH:bV H g 859 117 f:=hf.keep hk lg
   have hxH:cV H n0 2 x np ps:=hx.keep hk (Nat.le_refl _)
   have l31:ak P H 31 ⟨g,0+0+0,none⟩=some x:=by
    have:=hfH.load (P:=P) (k:=0) xJ (by omega)
    rw[hs.x] at this; exact this
   obtain⟨rb,ro,z1,_,z2⟩:=hxH.at_ Av sz90 hpad
   have z3:ak P H 3 ⟨rb,ro+L[i] * 2+0,none⟩=some (.int .i64 (ps.getD (L[i] * 2) 0)):=by
    rw[show ro+L[i] * 2+0=ro+(L[i] * 2) by omega]
    exact bJ z2 agg3 (pq (getD_some (by rw[hxH.1]; omega)))
   have htake:L.take (i+1)=L.take i++[L[i]]:=by rw[List.take_succ_eq_append_getElem hlt]
   have hpre:apB js ps nj np L=true→apB js ps nj np (L.take (i+1))=true:=fun h=>by
    rw[← List.take_append_drop (i+1) L] at h
    exact apB_pre _ _ h
   rw[t2,x1,aj,aQ,aj,x2',aj,iz,aj,mz,aj,pY,aj,aQ,aj,l31,aj,z1,aj,fa90_0,aj,aQ,aj,z3,aj,aJ mw,ij]
   by_cases hz:ps.getD (L[i] * 2) 0=0
   ·rw[if_pos hz]
    have hno:apB js ps nj np L=false:=by
     cases c:apB js ps nj np L with
     | false=>rfl
     | true=>
      have:=hpre c
      rw[htake,qek] at this
      exact absurd hz this.2.1
    obtain⟨H',n',q1,q2,q3⟩:=fin T H n D hb hk hw hD hd false
    exact⟨H',n',by rw[q1,hno],q2,q3⟩
   ·rw[if_neg hz]
    obtain⟨T',H1,n1,r1,r2,r3,r4,r5⟩:=round88 l hfH hs hxH hnp hpad (hself _ hpad) hw h5' (show n0≤n by omega) (show b4<n by omega) (show b5<n by omega) (show g<n by omega) e45 (by omega) (by omega) (TT:=TT _ _ _ _ _ _ _ _ _ _) (fun v=>t1 _ _ _ _ _ _ _ _ _ _ v)
     (KN88 (cal (l+2)) k (j+1)) (upX 2 (KN88 (cal (l+2)) k (j+1)) (upX 1 (KN88 (cal (l+2)) k (j+1)) (upX 0 (KE88 (cal (l+2)) k) X0))) D
    have hk1:Keep n0 H0 H1:=fun b hbn=>by rw[r4 b (by omega) (by omega) (by omega),hk b hbn]
    have hD1:((n+2)::D).Nodup:=List.nodup_cons.2 ⟨fun h=>by have:=(hd _ h).2; omega,hD⟩
    have hd1:∀ d,d ∈ (n+2)::D→H1.get d=some .deferred∧base≤d∧d<n1:=by
     intro d h
     rcases List.mem_cons.1 h with rfl | h
     ·exact⟨r3,by omega,by omega⟩
     ·obtain⟨d1,d2,d3⟩:=hd d h
      exact⟨by rw[r4 d d3 (by omega) (by omega)]; exact d1,d2,by omega⟩
    rcases r5 with⟨⟨q,q1,q2⟩,q3,q4⟩ | ⟨q1,q2,q3,q4⟩
    ·have hno:apB js ps nj np L=false:=by
      cases c:apB js ps nj np L with
      | false=>rfl
      | true=>
       have:=hpre c
       rw[htake,qek] at this
       obtain⟨w1,w2⟩:=(PQ hpad).1 q1
       obtain⟨a,a1,a2⟩:=(htk q w1).1 q2
       exact absurd ⟨a2,w2⟩ (this.2.2 a a1 q w1)
     rw[q4,done88 r1,hno]
     obtain⟨H',u1,u2⟩:=end88 (n:=n1) q3 hD1 fun d h=>(hd1 d h).1
     exact⟨H',n1,u1,by omega,fun b hbn=>by rw[u2 b (fun h=>by have:=(hd1 b h).2; omega),hk1 b hbn]⟩
    ·obtain⟨T'',t1',t2'⟩:=next88 (cal (l+2)) k (j+1) r1 (by omega)
     rw[q4,t2']
     obtain⟨H',n',u1,u2,u3⟩:=ih (i+1) T'' H1 n1 ((n+2)::D) _ t1' (by omega) (by omega) (by omega) hk1 (by obtain⟨w,w1⟩:=hw; exact⟨w,q2.trans w1⟩) q3 (fun q hq=>by
       rw[Bool.or_eq_true,decide_eq_true_iff,PQ hpad,htk q hq,htake]
       constructor
       ·rintro(⟨_,h⟩ | ⟨p,p1,p2⟩)
        ·exact⟨L[i],List.mem_append_right _ (List.mem_singleton.2 rfl),h⟩
        ·exact⟨p,List.mem_append_left _ p1,p2⟩
       ·rintro⟨p,p1,p2⟩
        rcases List.mem_append.1 p1 with h | h
        ·exact .inr ⟨p,h,p2⟩
        ·rw[List.mem_singleton.1 h] at p2; exact .inl ⟨hq,p2⟩) (by
       rw[htake,qek]
       refine⟨hap,hz,fun a ha q hq ⟨h1,h2⟩=>?_⟩
       have:=q1 q ((PQ hpad).2 ⟨hq,h2⟩)
       rw[(htk q hq).2 ⟨a,ha,h1⟩] at this
       cases this) hD1 hd1
     exact⟨H',n',u1,by omega,u3⟩
  ·have:i=L.length:=by omega
   subst this
   obtain⟨H',n',q1,q2,q3⟩:=fin T H n D hb hk hw hD hd true
   rw[List.take_length] at hap
   exact⟨H',n',by rw[(head88 (cal (l+2)) k (j+1) hT).2 rfl,q1,hap],q2,q3⟩
theorem apart_spec (l:Nat) {H:Hp} {n g np nj:Nat} {f:Nat→Value} {x y z v1:Value} {ps js:List Int} {L:List Nat} (hf:bV H g 859 117 f) (hs:SiteF f x y z js nj) (hx:cV H n 2 x np ps) (hv:ListR H n v1 L.length (mZ L)) (hnp:np≤8)
  (hL:∀ p ∈ L,p<np) (hself:∀ p,p<np→kQ js nj p p=false) (hlen:L.length≤1000) (lg:g<n):Ret ((cal (l+3)).call 88 [.pointer (some ⟨g,0,none⟩),v1] H n) n H (.bool (apB js ps nj np L)):=by
 rw[call88,pre88,dV (show iZ P 4=some (.bool false) from zero4),dV zero108,hv.len_eq,aj]
 simp only[bq,ptr]
 have k1:Keep n H ((H.set n (some (.cells [.bool false] 4 false none))).set (n+1) (some (.cells (List.replicate 8 (.bool false)) 108 false none))):=((Keep.refl n H).set (Nat.le_refl _) _).set (by omega) _
 obtain⟨H',n',q1,q2,q3⟩:=loop88_spec l KK (base:=n+2) (b4:=n) (b5:=n+1) (T:=TA88 (fun _=>v1) (.pointer (some ⟨g,0,none⟩)) v1 (.pointer (some ⟨n,0,none⟩)) (.pointer (some ⟨n+1,0,none⟩)) (.int .i64 L.length) (.int .i64 0)) hf hs hx hv hnp hL hself (by omega) lg (Nat.le_refl _) (by omega) (by omega) (by omega) (by omega) KK 0 _ (n+2) [] (fun _=>false)
  ⟨fun _=>v1,rfl,.inl ⟨rfl,rfl⟩⟩ (Nat.zero_le _) (by unfold KK; omega) (Nat.le_refl _) k1 ⟨.bool false,by rw[Tr.get_set,if_neg (by omega),Tr.get_set,if_pos rfl]⟩
  (bV.new (e:=108) (vs:=List.replicate 8 (.bool false)) (by simp) _ fun k hk=>by rw[List.getElem?_replicate,if_pos hk])
  (fun q _=>by simp) apB_nil List.nodup_nil (fun d h=>by cases h)
 exact⟨H',n',q1,by omega,q3⟩
end Go.Proofs.Ytekajfobmnedjaa.spec
end
section
namespace Go.Proofs.Ytekajfobmnedjaa.spec
open Go Go.Ev Go.Proofs.Ytekajfobmnedjaa.nestFits Go.Proofs.Ytekajfobmnedjaa.G
set_option maxRecDepth 100000
variable {ρ:Type}
theorem apart_call (l:Nat) {H:Hp} {n g np nj:Nat} {f:Nat→Value} {x y z v1:Value} {ps js:List Int} {L:List Nat} (hf:bV H g 859 117 f) (hs:SiteF f x y z js nj) (hx:cV H n 2 x np ps) (hv:ListR H n v1 L.length (mZ L)) (hnp:np≤8)
  (hL:∀ p ∈ L,p<np) (hself:∀ p,p<np→kQ js nj p p=false) (hlen:L.length≤1000) (lg:g<n) :
  ∃ H' n',(∀ k:Value→Hp→Nat→Option ρ,aW P (cal (l+3)) 88 [.pointer (some ⟨g,0,none⟩),v1] H n k=k (.bool (apB js ps nj np L)) H' n')∧n≤n'∧Keep n H H':=by
 obtain⟨H',n',e,h1,h2⟩:=apart_spec l hf hs hx hv hnp hL hself hlen lg
 refine⟨H',n',fun k=>?_,h1,h2⟩
 unfold aW
 have:(fj P 88 && bY [.pointer (some ⟨g,0,none⟩),v1])=false:=by rw[Bool.and_eq_false_iff]; exact .inr rfl
 rw[this,e]
 rfl
theorem nil44 (x y:Operand):binV P .eql 44 x y (.slice none 0 0) (.slice none 0 0)=some (.bool true):=by kernel_rfl
theorem some44 (x:Tmp) (b o len cap:Nat):binV P .eql 44 (.tmp x) (.const (.slice none 0 0)) (.slice (some ⟨b,o,none⟩) len cap) (.slice none 0 0)=some (.bool false):=by kernel_rfl
theorem clone76 (c:Cal) (k:Nat) (b o len cap:Nat) (H:Hp) (n:Nat):Oz c k (.slice (some ⟨b,o,none⟩) len cap) H n=KX c k (.slice (some ⟨b,o,none⟩) len cap) H n:=by
 unfold Oz B76_0
 rw[aJ (some44 _ _ _ _ _),dX]
 rfl
def fW (H:Hp) (n0 n:Nat) (v:Value) (L:List Nat):Prop:=VecAt H n0 n 1 3 v L.length (mZ L)
theorem castL_I64 {L:List Nat} (h:∀ p ∈ L,p<100):∀ x ∈ mZ L,I64 x:=by
 intro x hx
 obtain⟨p,h1,rfl⟩:=List.mem_map.1 hx
 have:=h p h1
 unfold I64
 omega
theorem fW.list {H:Hp} {n0 n:Nat} {v:Value} {L:List Nat} (h:fW H n0 n v L) (hL:∀ p ∈ L,p<100):ListR H n v L.length (mZ L):=VecAt.list h (castL_I64 hL)
theorem fW.nil (H:Hp) (n0 n:Nat):fW H n0 n (.slice none 0 0) []:=⟨rfl,.inl ⟨rfl,rfl⟩⟩
theorem fW.len_eq {H:Hp} {n0 n:Nat} {v:Value} {L:List Nat} (h:fW H n0 n v L):lenV P 44 v=some (.int .i64 L.length):=by
 rcases h.2 with⟨rfl,e⟩ | ⟨b,rfl,_⟩
 ·rw[e]; unfold lenV; simp only[und44]; rfl
 ·unfold lenV; simp only[und44]; rfl
theorem fW.low {H:Hp} {n0 n k:Nat} {v:Value} {L:List Nat} (h:fW H n0 n v L) (hb:iy v k):n0≤k∧k<n:=by
 obtain⟨o,l,cp,sp,hb⟩:=hb
 rcases h.2 with⟨rfl,_⟩ | ⟨b,rfl,h1,h2,_⟩
 ·cases hb
 ·cases hb; exact⟨h1,h2⟩
theorem fW.keep {H H':Hp} {n0 n n' lgb:Nat} {v:Value} {L:List Nat} (h:fW H n0 n v L) {w:Value} (hl:H.get lgb=some (.cells [w] 44 false none)) (hk:∀ b,b<n→b≠lgb→H'.get b=H.get b) (hn:n≤n'):fW H' n0 n' v L:=by
 obtain⟨h1,h2⟩:=h
 refine⟨h1,?_⟩
 rcases h2 with h2 | ⟨b,e,a1,a2,a3,a4⟩
 ·exact .inl h2
 ·refine .inr ⟨b,e,a1,by omega,a3,?_⟩
  rw[hk b a2 (fun c=>by rw[c,hl] at a4; simp at a4)]
  exact a4
theorem fW.up {H:Hp} {n0 n:Nat} {v:Value} {L:List Nat} (h:fW H n0 n v L) {n1:Nat} (hn:n1≤n0):fW H n1 n v L:=by
 obtain⟨h1,h2⟩:=h
 refine⟨h1,?_⟩
 rcases h2 with h2 | ⟨b,e,a1,a2,a3,a4⟩
 ·exact .inl h2
 ·exact .inr ⟨b,e,by omega,a2,a3,a4⟩
theorem clone_pads (l:Nat) {H:Hp} {n0 n:Nat} {v:Value} {L:List Nat} (h:fW H n0 n v L) (hL:∀ p ∈ L,p<100) (hlen:L.length≤1000) :
  ∃ u H' n',(∀ k:Value→Hp→Nat→Option ρ,aW P (cal (l+1)) 76 [v] H n k=k u H' n')∧n≤n'∧Keep n H H'∧fW H' n n' u L:=by
 have hl:=h.list hL
 have hu:∀ k:Value→Hp→Nat→Option ρ,aW P (cal (l+1)) 76 [v] H n k=aq (Oz (cal l) KK v H n) fun r=>k r.1 r.2.1 r.2.2:=by
  intro k
  unfold aW
  rw[flat76,call76]
  rfl
 rcases h.2 with⟨rfl,e⟩ | ⟨b,rfl,_,_,a3,_⟩
 ·refine⟨.slice none 0 0,H,n,fun k=>?_,Nat.le_refl _,Keep.refl _ _,h.1,.inl ⟨rfl,e⟩⟩
  rw[hu]
  unfold Oz B76_0
  rw[aJ (nil44 _ _),eZ]
  rfl
 ·obtain⟨H',n',q1,q2,q3,q4⟩:=list_at (cal l) KK hl (by omega) hlen
  refine⟨_,H',n',fun k=>?_,by omega,q3,h.1,.inr ⟨n+1,rfl,by omega,q2,a3,q4⟩⟩
  rw[hu,clone76,q1]
  rfl
theorem castL_snoc (L:List Nat) (i:Nat):mZ (L++[i])=mZ L++[(i:Int)]:=by simp [mZ]
theorem more_pads (l:Nat) {H:Hp} {n0 n i:Nat} {v:Value} {L:List Nat} (h:fW H n0 n v L) (hL:∀ p ∈ L,p<100) (hi:i<100) (hlen:L.length≤100) :
  ∃ u H' n',(∀ k:Value→Hp→Nat→Option ρ,(aW P (cal (l+1)) 76 [v] H n fun v_h H_i n_j=>rowK P 44 1 [(0,.int .i64 i)] H_i n_j fun v_l H_m n_n=>stK (fk P (bare H_m n_n) 44 44 v_h v_l) k)=k u H' n')∧n≤n'∧Keep n H H'∧fW H' n n' u (L++[i]):=by
 obtain⟨u,H1,n1,q1,q2,q3,q4⟩:=clone_pads (ρ:=ρ) l h hL (by omega)
 have hc:aZ (H1.set n1 (some (.cells [.int .i64 i] 3 false none))) n1 0 (ints [(i:Int)]):=aZ.new
 have hk2:∀ b,b<n1→(H1.set n1 (some (.cells [.int .i64 i] 3 false none))).get b=H1.get b:=fun b hb=>by rw[Tr.get_set,if_neg (by omega)]
 have hrow:∀ k:Value→Hp→Nat→Option ρ,(rowK P 44 1 [(0,.int .i64 i)] H1 n1 fun v_l H_m n_n=>stK (fk P (bare H_m n_n) 44 44 u v_l) k)=stK (fk P (bare (H1.set n1 (some (.cells [.int .i64 i] 3 false none))) (n1+1)) 44 44 u (.slice (some ⟨n1,0,none⟩) 1 1)) k:=by
  intro k
  unfold rowK
  rw[row44,aj]
  rfl
 generalize H1.set n1 (some (.cells [.int .i64 i] 3 false none))=H2 at hc hk2 hrow
 have v2:VecAt H2 n (n1+1) 1 3 u L.length (mZ L):=VecAt.same q4 (by omega) fun b hb _=>hk2 b hb
 obtain⟨H3,ea,ev,eo⟩:=xK (P:=P) (t:=44) (t2:=44) (cap2:=1) v2 sl44 sl44 sz3 by3 zero3 rfl hc rfl (by omega) (by omega) (by omega) (by omega)
 refine⟨.slice (some ⟨n1+1,0,none⟩) (L.length+1) capV,H3,n1+1+1,fun k=>?_,by omega,fun b hb=>?_,?_⟩
 ·rw[q1,hrow,ea]
  rfl
 ·rw[eo b (by omega) (fun hbk=>by have:=(fW.low q4 hbk).1; omega),hk2 b (by omega),q3 b hb]
 ·unfold fW
  rw[castL_snoc,List.length_append]
  exact ev
end Go.Proofs.Ytekajfobmnedjaa.spec
end
section
namespace Go.Proofs.Ytekajfobmnedjaa.spec
open Go Go.Ev Go.Proofs.Ytekajfobmnedjaa.nestFits Go.Proofs.Ytekajfobmnedjaa.G
set_option maxRecDepth 100000
variable {ρ:Type}
theorem agg170:fx P 170=some false:=by kernel_rfl
theorem sz170:szT P 170=some 1:=by kernel_rfl
def extV (lgb sb eb:Nat):Value:=.func (.func 112) ⟨[]⟩ ⟨[.pointer (some ⟨lgb,0,none⟩),.pointer (some ⟨sb,0,none⟩),.pointer (some ⟨eb,0,none⟩)]⟩
theorem call112 (l:Nat) (a b c d e:Value) (H:Hp) (n:Nat):(cal (l+1)).call 112 [a,b,c,d,e] H n=Iz (cal l) KK a b c d e H n:=by kernel_rfl
theorem ext_value (l:Nat) (a b:Value) (lgb sb eb:Nat) (H:Hp) (n:Nat) (k:Value→Hp→Nat→Option ρ):ew P (cal (l+1)) (extV lgb sb eb) [a,b] H n k=aq (Iz (cal l) KK a b (.pointer (some ⟨lgb,0,none⟩)) (.pointer (some ⟨sb,0,none⟩)) (.pointer (some ⟨eb,0,none⟩)) H n) fun r=>k r.1 r.2.1 r.2.2:=by
 unfold extV
 rw[callVK_f]
 show aW P (cal (l+1)) 112 [a,b,.pointer (some ⟨lgb,0,none⟩),.pointer (some ⟨sb,0,none⟩),.pointer (some ⟨eb,0,none⟩)] H n k=_
 unfold aW
 have:(fj P 112 && bY [a,b,.pointer (some ⟨lgb,0,none⟩),.pointer (some ⟨sb,0,none⟩),.pointer (some ⟨eb,0,none⟩)])=false:=by simp [bY,bz]
 rw[this,call112]
structure StE (H:Hp) (m0 lgb sb eb g np:Nat) (f:Nat→Value) (x:Value) (ps:List Int):Prop where
 site:H.get sb=some (.cells [.pointer (some ⟨g,0,none⟩)] 105 false none)
 self:H.get eb=some (.cells [extV lgb sb eb] 170 false none)
 cells:bV H g 859 117 f
 pads:cV H m0 2 x np ps
theorem StE.keep {H H':Hp} {m0 lgb sb eb g np n:Nat} {f:Nat→Value} {x:Value} {ps:List Int} (h:StE H m0 lgb sb eb g np f x ps) (h0:m0≤lgb) (l1:lgb<n) (l2:sb<n) (l3:eb<n) (l4:g<n) (e2:sb≠lgb) (e3:eb≠lgb) (e4:g≠lgb) (hk:∀ b,b<n→b≠lgb→H'.get b=H.get b):StE H' m0 lgb sb eb g np f x ps:=by
 refine⟨(hk _ l2 e2).trans h.site,(hk _ l3 e3).trans h.self,?_,h.pads.keep (m:=m0) (fun b hb=>hk b (by omega) (by omega)) (Nat.le_refl _)⟩
 obtain⟨c,a1,a2,a3⟩:=h.cells
 exact⟨c,(hk _ l4 e4).trans a1,a2,a3⟩
theorem loopL_step {ap:List Nat→Bool} {np i:Nat} {pads:List Nat} (h:i<np):pV ap np (np-i) pads=(if ap (pads++[i])=true then(pads++[i])::pV ap np (np-(i+1)) (pads++[i]) else[])++pV ap np (np-(i+1)) pads:=by
 have e:np-i=(np-(i+1))+1:=by omega
 have e2:np-((np-(i+1))+1)=i:=by omega
 rw[e,pV,e2]
def ExtOut (r:Res) (n:Nat) (H:Hp) (lgb:Nat) (best:List Nat):Prop:=∃ w' H' n',r=some (.tuple ⟨[]⟩,H',n')∧n≤n'∧H'.get lgb=some (.cells [w'] 44 false none)∧fW H' 0 n' w' best∧∀ b,b<n→b≠lgb→H'.get b=H.get b
theorem ext_loop (lv:Nat) {m0 base lgb sb eb g np nj d:Nat} {f:Nat→Value} {x y z v:Value} {ps js:List Int} {pads:List Nat} (hs:SiteF f x y z js nj) (hnp:np≤8) (hself:∀ p,p<np→kQ js nj p p=false)
  (h0:m0≤lgb) (l1:lgb<base) (l2:sb<base) (l3:eb<base) (l4:g<base) (e2:sb≠lgb) (e3:eb≠lgb) (e4:g≠lgb) (hd:d≤lv) (hpads:∀ q ∈ pads,q<np) (hpl:pads.length≤8)
  (hrec:∀(i:Nat) (best:List Nat) (u w:Value) (H:Hp) (n:Nat),np-d≤i→i<np→base≤n→StE H m0 lgb sb eb g np f x ps→fW H 0 n u (pads++[i])→H.get lgb=some (.cells [w] 44 false none)→fW H 0 n w best →
   ExtOut (Iz (cal (lv+3)) KK u (.int .i64 ((i+1:Nat):Int)) (.pointer (some ⟨lgb,0,none⟩)) (.pointer (some ⟨sb,0,none⟩)) (.pointer (some ⟨eb,0,none⟩)) H n) n H lgb (((pads++[i])::pV (apB js ps nj np) np (np-(i+1)) (pads++[i])).foldl xW best)) :
  ∀(m i:Nat) (best:List Nat) (w:Value) (H:Hp) (n:Nat),np-d≤i→i≤np→np-i≤m→base≤n→StE H m0 lgb sb eb g np f x ps→fW H 0 n v pads→H.get lgb=some (.cells [w] 44 false none)→fW H 0 n w best →
   ExtOut (Vz (cal (lv+4)) KK m v (.pointer (some ⟨sb,0,none⟩)) (.pointer (some ⟨eb,0,none⟩)) (.int .i64 i) H n) n H lgb ((pV (apB js ps nj np) np (np-i) pads).foldl xW best):=by
 have body:∀(b2:Value→Value→Value→Value→Hp→Nat→Res) (m i:Nat) (best:List Nat) (w:Value) (H:Hp) (n:Nat),np-d≤i→i≤np→base≤n→StE H m0 lgb sb eb g np f x ps→fW H 0 n v pads→H.get lgb=some (.cells [w] 44 false none)→fW H 0 n w best →
   (∀(best:List Nat) (w:Value) (H:Hp) (n:Nat),i<np→base≤n→StE H m0 lgb sb eb g np f x ps→fW H 0 n v pads→H.get lgb=some (.cells [w] 44 false none)→fW H 0 n w best →
    ExtOut (b2 v (.pointer (some ⟨sb,0,none⟩)) (.pointer (some ⟨eb,0,none⟩)) (.int .i64 ((i+1:Nat):Int)) H n) n H lgb ((pV (apB js ps nj np) np (np-(i+1)) pads).foldl xW best)) →
   ExtOut (Vy (cal (lv+4)) KK m b2 v (.pointer (some ⟨sb,0,none⟩)) (.pointer (some ⟨eb,0,none⟩)) (.int .i64 i) H n) n H lgb ((pV (apB js ps nj np) np (np-i) pads).foldl xW best):=by
  intro b2 m i best w H n hdi hi hb st hv hw hbest ih
  have l31:∀ H:Hp,StE H m0 lgb sb eb g np f x ps→ak P H 31 ⟨g,0+0+0,none⟩=some x:=fun H st=>by
   have:=st.cells.load (P:=P) (k:=0) xJ (by omega)
   rw[hs.x] at this; exact this
  unfold Vy B112_2
  rw[aQ,aj,fQ st.site pK rfl rfl,aj,iz,aj,mz,aj,pY,aj,aQ,aj,l31 H st,aj,show lenV P 31 x=some (.int .i64 np) from st.pads.len_eq Av,aj,aJ cX,ij]
  by_cases hlt:i<np
  ·rw[if_pos (by omega)]
   have hI1:I64 ((i:Int)+1):=by unfold I64; omega
   have hcast:((i:Int)+1)=((i+1:Nat):Int):=by omega
   obtain⟨u,H1,n1,q1,q2,q3,q4⟩:=more_pads (ρ:=Value×Hp×Nat) (lv+3) hv (fun q hq=>by have:=hpads q hq; omega) (show i<100 by omega) (by omega)
   rw[q1]
   have st1:StE H1 m0 lgb sb eb g np f x ps:=st.keep (n:=n) h0 (by omega) (by omega) (by omega) (by omega) e2 e3 e4 fun b hb' _=>q3 b hb'
   have hmore:∀ q ∈ pads++[i],q<np:=fun q hq=>by
    rcases List.mem_append.1 hq with h | h
    ·exact hpads q h
    ·rw[List.mem_singleton.1 h]; exact hlt
   obtain⟨H2,n2,s1,s2,s3⟩:=apart_call (ρ:=Value×Hp×Nat) (lv+1) st1.cells hs ((st1.pads).up (show m0≤n1 by omega)) (fW.list q4 fun q hq=>by have:=hmore q hq; omega) hnp hmore hself (by simp; omega) (show g<n1 by omega)
   have st2:StE H2 m0 lgb sb eb g np f x ps:=st1.keep (n:=n1) h0 (by omega) (by omega) (by omega) (by omega) e2 e3 e4 fun b hb' _=>s3 b hb'
   have hw1:H1.get lgb=some (.cells [w] 44 false none):=(q3 _ (by omega)).trans hw
   have hw2:H2.get lgb=some (.cells [w] 44 false none):=(s3 _ (by omega)).trans hw1
   have hk2:∀ b,b<n→b≠lgb→H2.get b=H.get b:=fun b hb' _=>(s3 b (by omega)).trans (q3 b hb')
   have hv2:fW H2 0 n2 v pads:=hv.keep hw hk2 (by omega)
   have hb2:fW H2 0 n2 w best:=hbest.keep hw hk2 (by omega)
   have hu2:fW H2 0 n2 u (pads++[i]):=(q4.up (Nat.zero_le _)).keep hw1 (fun b hb' _=>s3 b hb') s2
   rw[aQ,aj,fQ st1.site pK rfl rfl,aj,s1,loopL_step hlt]
   cases ha:apB js ps nj np (pads++[i]) with
   | true=>
    rw[eZ,aj,fQ st2.self agg170 rfl rfl,aj,aJ (bK hI1),hcast,ext_value (lv+3),if_pos rfl,List.foldl_append]
    obtain⟨w3,H3,n3,t1,t2,t3,t4,t5⟩:=hrec i best u w H2 n2 hdi hlt (by omega) st2 hu2 hw2 hb2
    rw[t1,aj]
    unfold Vx B112_3
    rw[aJ (bK hI1),hcast]
    have st3:StE H3 m0 lgb sb eb g np f x ps:=st2.keep (n:=n2) h0 (by omega) (by omega) (by omega) (by omega) e2 e3 e4 t5
    obtain⟨w4,H4,n4,u1,u2,u3,u4,u5⟩:=ih _ w3 H3 n3 hlt (by omega) st3 (hv2.keep hw2 t5 t2) t3 t4
    exact⟨w4,H4,n4,u1,by omega,u3,u4,fun b hb' hne=>by rw[u5 b (by omega) hne,t5 b (by omega) hne,hk2 b hb' hne]⟩
   | false=>
    rw[dX,if_neg (by simp),List.nil_append]
    unfold Vx B112_3
    rw[aJ (bK hI1),hcast]
    obtain⟨w4,H4,n4,u1,u2,u3,u4,u5⟩:=ih best w H2 n2 hlt (by omega) st2 hv2 hw2 hb2
    exact⟨w4,H4,n4,u1,by omega,u3,u4,fun b hb' hne=>by rw[u5 b (by omega) hne,hk2 b hb' hne]⟩
  ·rw[if_neg (by omega)]
   have:i=np:=by omega
   subst this
   rw[Nat.sub_self]
   exact⟨w,H,n,rfl,Nat.le_refl _,hw,hbest,fun _ _ _=>rfl⟩
 intro m
 induction m with
 | zero=>
  intro i best w H n h1 h2 h3 h4 h5 h6 h7 h8
  exact body _ 0 i best w H n h1 h2 h4 h5 h6 h7 h8 (fun _ _ _ _ h=>by omega)
 | succ m ih=>
  intro i best w H n h1 h2 h3 h4 h5 h6 h7 h8
  exact body _ (m+1) i best w H n h1 h2 h4 h5 h6 h7 h8 (fun best w H n q1 q2 q3 q4 q5 q6=>ih (i+1) best w H n (by omega) (by omega) (by omega) q2 q3 q4 q5 q6)
theorem ext_spec {m0 base lgb sb eb g np nj:Nat} {f:Nat→Value} {x y z:Value} {ps js:List Int} (hs:SiteF f x y z js nj) (hnp:np≤8) (hself:∀ p,p<np→kQ js nj p p=false)
  (h0:m0≤lgb) (l1:lgb<base) (l2:sb<base) (l3:eb<base) (l4:g<base) (e2:sb≠lgb) (e3:eb≠lgb) (e4:g≠lgb):∀(d lv:Nat),d≤lv→d≤np→∀(pads best:List Nat) (v w:Value) (H:Hp) (n:Nat),
  base≤n→StE H m0 lgb sb eb g np f x ps→fW H 0 n v pads→H.get lgb=some (.cells [w] 44 false none)→fW H 0 n w best→(∀ q ∈ pads,q<np)→pads.length≤np-d →
  ExtOut (Iz (cal (lv+4)) KK v (.int .i64 ((np-d:Nat):Int)) (.pointer (some ⟨lgb,0,none⟩)) (.pointer (some ⟨sb,0,none⟩)) (.pointer (some ⟨eb,0,none⟩)) H n) n H lgb ((pads::pV (apB js ps nj np) np d pads).foldl xW best):=by
 intro d
 induction d using Nat.strongRecOn with
 | _ d IH=>
  intro lv hlv hd pads best v w H n hb st hv hw hbest hpads hpl
  have lp:=fun(best:List Nat) (w:Value) (H:Hp) (n:Nat)=>ext_loop lv (v:=v) (d:=d) (ps:=ps) hs hnp hself h0 l1 l2 l3 l4 e2 e3 e4 hlv hpads (show pads.length≤8 by omega)
   (fun i best u w H n hdi hi hb st hu hw hbest=>by
    have:=IH (np-(i+1)) (by omega) (lv-1) (by omega) (by omega) (pads++[i]) best u w H n hb st hu hw hbest (fun q hq=>by
     rcases List.mem_append.1 hq with h | h
     ·exact hpads q h
     ·rw[List.mem_singleton.1 h]; exact hi) (by simp; omega)
    rw[show lv-1+4=lv+3 by omega,show np-(np-(i+1))=i+1 by omega] at this
    exact this) KK (np-d) best w H n (Nat.le_refl _) (by omega) (by unfold KK; omega)
  rw[show np-(np-d)=d by omega] at lp
  unfold Iz B112_0
  generalize hC:C112_1 (cal (lv+4)) KK=J
  have hJ:∀(H:Hp) (n:Nat),J v (.int .i64 ((np-d:Nat):Int)) (.pointer (some ⟨sb,0,none⟩)) (.pointer (some ⟨eb,0,none⟩)) H n=Vz (cal (lv+4)) KK KK v (.pointer (some ⟨sb,0,none⟩)) (.pointer (some ⟨eb,0,none⟩)) (.int .i64 ((np-d:Nat):Int)) H n:=fun H n=>by rw[← hC]; rfl
  rw[hv.len_eq,aj,aQ,aj,fQ hw agg44 (VecAt.leaf hbest).2.1 (VecAt.leaf hbest).2.2,aj,hbest.len_eq,aj,aJ wk,ij,List.foldl_cons]
  by_cases c:best.length<pads.length
  ·rw[if_pos (by omega)]
   have hst:=dZ (vs:=[v]) hw rfl (by simp [(VecAt.leaf hv).1])
   rw[gX sz44 (VecAt.leaf hv).1,hst,aj,hJ]
   have k1:∀ b,b<n→b≠lgb→(H.set lgb (some (.cells [v] 44 false none))).get b=H.get b:=fun b _ hne=>by rw[Tr.get_set,if_neg hne]
   have g1:(H.set lgb (some (.cells [v] 44 false none))).get lgb=some (.cells [v] 44 false none):=by rw[Tr.get_set,if_pos rfl]
   generalize H.set lgb (some (.cells [v] 44 false none))=H1 at k1 g1
   have st1:StE H1 m0 lgb sb eb g np f x ps:=st.keep (n:=n) h0 (by omega) (by omega) (by omega) (by omega) e2 e3 e4 k1
   have hv1:fW H1 0 n v pads:=hv.keep hw k1 (Nat.le_refl _)
   obtain⟨w',H',n',u1,u2,u3,u4,u5⟩:=lp pads v H1 n hb st1 hv1 g1 hv1
   rw[show xW best pads=pads from if_pos c]
   exact⟨w',H',n',u1,u2,u3,u4,fun b hb' hne=>by rw[u5 b hb' hne,k1 b hb' hne]⟩
  ·rw[if_neg (by omega),hJ,show xW best pads=best from if_neg c]
   exact lp best w H n hb st hv hw hbest
end Go.Proofs.Ytekajfobmnedjaa.spec
end
section
namespace Go.Proofs.Ytekajfobmnedjaa.spec
open Go Go.Ev Go.Proofs.Ytekajfobmnedjaa.nestFits Go.Proofs.Ytekajfobmnedjaa.G
set_option maxRecDepth 100000
variable {ρ:Type}
open Classical in
theorem Good.self {np nj nk p:Nat} {ps js ks:List Int} (good:Good np nj nk ps js ks):kQ js nj p p=false:=by
 cases c:kQ js nj p p with
 | false=>rfl
 | true=>
 unfold kQ at c
 obtain⟨q,h1,h2⟩:=of_decide_eq_true c
 have hj:js[q * 2]?=some (p:Int)∧js[q * 2+1]?=some (p:Int):=by
  rcases h2 with h | h <;> exact h
 exact absurd (.inr (.inr ⟨q,h1,p,p,hj.1,hj.2,.inr (.inr (.inl rfl))⟩)) good.ok
theorem Good.need {np nj nk p:Nat} {ps js ks:List Int} (good:Good np nj nk ps js ks) (hp:p<np):0≤ps.getD (p * 2) 0:=by
 refine Classical.byContradiction fun h=>good.ok (.inl ⟨p,hp,fun hb=>h hb.1⟩)
theorem zero170:iZ P 170=some .nilFunc:=by kernel_rfl
theorem proof_spec (l:Nat) {H:Hp} {n g np nj:Nat} {f:Nat→Value} {x y z:Value} {ps js:List Int} (hf:bV H g 859 117 f) (hs:SiteF f x y z js nj) (hx:cV H n 2 x np ps) (hnp:np≤8) (hself:∀ p,p<np→kQ js nj p p=false) (hg:g<n) :
  ∃ w H' n',C85_0 (cal (l+13)) KK (.pointer (some ⟨g,0,none⟩)) H n=some (w,H',n')∧n≤n'∧Keep n H H'∧fW H' 0 n' w (DK (apB js ps nj np) np):=by
 unfold C85_0 B85_0
 rw[cY,dV zero44,dV zero170]
 simp only[bq,ptr]
 have a1:(((H.set n (some (.cells [.pointer (some ⟨g,0,none⟩)] 105 false none))).set (n+1) (some (.cells [.slice none 0 0] 44 false none))).set (n+1+1) (some (.cells [.nilFunc] 170 false none))).get n=some (.cells [.pointer (some ⟨g,0,none⟩)] 105 false none):=by rw[Tr.get_set,if_neg (by omega),Tr.get_set,if_neg (by omega),Tr.get_set,if_pos rfl]
 have a2:(((H.set n (some (.cells [.pointer (some ⟨g,0,none⟩)] 105 false none))).set (n+1) (some (.cells [.slice none 0 0] 44 false none))).set (n+1+1) (some (.cells [.nilFunc] 170 false none))).get (n+1)=some (.cells [.slice none 0 0] 44 false none):=by rw[Tr.get_set,if_neg (by omega),Tr.get_set,if_pos rfl]
 have a3:(((H.set n (some (.cells [.pointer (some ⟨g,0,none⟩)] 105 false none))).set (n+1) (some (.cells [.slice none 0 0] 44 false none))).set (n+1+1) (some (.cells [.nilFunc] 170 false none))).get (n+1+1)=some (.cells [.nilFunc] 170 false none):=by rw[Tr.get_set,if_pos rfl]
 have a4:Keep n H (((H.set n (some (.cells [.pointer (some ⟨g,0,none⟩)] 105 false none))).set (n+1) (some (.cells [.slice none 0 0] 44 false none))).set (n+1+1) (some (.cells [.nilFunc] 170 false none))):=(((Keep.refl n H).set (Nat.le_refl _) _).set (by omega) _).set (by omega) _
 generalize ((H.set n (some (.cells [.pointer (some ⟨g,0,none⟩)] 105 false none))).set (n+1) (some (.cells [.slice none 0 0] 44 false none))).set (n+1+1) (some (.cells [.nilFunc] 170 false none))=H1 at a1 a2 a3 a4 ⊢
 have s1:=dZ (vs:=[extV (n+1) n (n+1+1)]) a3 rfl rfl
 have s2:bx P 170 (.pointer (some ⟨n+1+1,0,none⟩)) (.func (.func 112) ⟨[]⟩ ⟨[.pointer (some ⟨n+1,0,none⟩),.pointer (some ⟨n,0,none⟩),.pointer (some ⟨n+1+1,0,none⟩)]⟩) H1=_:=(gX sz170 rfl).trans s1
 rw[s2,aj]
 have b1:(H1.set (n+1+1) (some (.cells [extV (n+1) n (n+1+1)] 170 false none))).get (n+1+1)=some (.cells [extV (n+1) n (n+1+1)] 170 false none):=by rw[Tr.get_set,if_pos rfl]
 have b2:∀ b,b<n+2→(H1.set (n+1+1) (some (.cells [extV (n+1) n (n+1+1)] 170 false none))).get b=H1.get b:=fun b hb=>by rw[Tr.get_set,if_neg (by omega)]
 generalize H1.set (n+1+1) (some (.cells [extV (n+1) n (n+1+1)] 170 false none))=H2 at b1 b2 ⊢
 have kk:Keep n H H2:=fun b hb=>by rw[b2 b (by omega),a4 b hb]
 have st:StE H2 n (n+1) n (n+1+1) g np f x ps:=⟨(b2 n (by omega)).trans a1,b1,hf.keep kk hg,hx.keep kk (Nat.le_refl _)⟩
 have hw:H2.get (n+1)=some (.cells [.slice none 0 0] 44 false none):=(b2 (n+1) (by omega)).trans a2
 obtain⟨w',H',n',u1,u2,u3,u4,u5⟩:=ext_spec (base:=n+3) hs hnp hself (show n≤n+1 by omega) (by omega) (by omega) (by omega) (by omega) (by omega) (by omega) (by omega) np (l+8) (by omega) (Nat.le_refl _) [] [] (.slice none 0 0) (.slice none 0 0) H2 (n+1+1+1) (by omega) st (fW.nil _ _ _) hw (fW.nil _ _ _) (fun q h=>by cases h) (Nat.zero_le _)
 rw[Nat.sub_self] at u1
 rw[aQ,aj,fQ b1 agg170 rfl rfl,aj,ext_value (l+12)]
 have u1':Iz (cal (l+12)) KK (.slice none 0 0) (.int .i64 0) (.pointer (some ⟨n+1,0,none⟩)) (.pointer (some ⟨n,0,none⟩)) (.pointer (some ⟨n+1+1,0,none⟩)) H2 (n+1+1+1)=_:=u1
 rw[u1',aj,aQ,aj,fQ u3 agg44 (VecAt.leaf u4).2.1 (VecAt.leaf u4).2.2,aj]
 exact⟨w',H',n',rfl,by omega,fun b hb=>by rw[u5 b (by omega) (by omega),kk b hb],u4⟩
theorem call85 (l:Nat) (a:Value) (H:Hp) (n:Nat):(cal (l+1)).call 85 [a] H n=C85_0 (cal l) KK a H n:=by kernel_rfl
theorem proof_call (l:Nat) {H:Hp} {n g np nj:Nat} {f:Nat→Value} {x y z:Value} {ps js:List Int} (hf:bV H g 859 117 f) (hs:SiteF f x y z js nj) (hx:cV H n 2 x np ps) (hnp:np≤8) (hself:∀ p,p<np→kQ js nj p p=false) (hg:g<n) :
  ∃ w H' n',(∀ k:Value→Hp→Nat→Option ρ,aW P (cal (l+14)) 85 [.pointer (some ⟨g,0,none⟩)] H n k=k w H' n')∧n≤n'∧Keep n H H'∧fW H' 0 n' w (DK (apB js ps nj np) np):=by
 obtain⟨w,H',n',e1,e2,e3,e4⟩:=proof_spec l hf hs hx hnp hself hg
 refine⟨w,H',n',fun k=>?_,e2,e3,e4⟩
 unfold aW
 have:(fj P 85 && bY [.pointer (some ⟨g,0,none⟩)])=false:=by simp [bY,bz]
 rw[this,call85,e1]
 rfl
theorem flat48:fj P 48=false:=by kernel_rfl
theorem call48 (l:Nat) (a:Value) (H:Hp) (n:Nat):(cal (l+1)).call 48 [a] H n=WX (cal l) KK a H n:=by kernel_rfl
theorem Apart_call (l:Nat) (a:Value) (H:Hp) (n:Nat) (k:Value→Hp→Nat→Option ρ):aW P (cal (l+1)) 48 [a] H n k=aq (WX (cal l) KK a H n) fun r=>k r.1 r.2.1 r.2.2:=by
 unfold aW
 rw[flat48,call48]
 rfl
theorem Apart_spec (l:Nat) {np nj nk:Nat} {ps js ks:List Int} {H:Hp} {n:Nat} {v:Value} (hg:eY H n v np nj nk ps js ks) (hnp:np≤1000) (hnj:nj≤1000) (hnk:nk≤1000) :
  (dj np nj nk ps js ks≠0→Ret (WX (cal (l+16)) KK v H n) n H (.tuple ⟨[.slice none 0 0,.int .i64 (dj np nj nk ps js ks)]⟩)) ∧
  (dj np nj nk ps js ks=0→∃ w H' n',WX (cal (l+16)) KK v H n=some (.tuple ⟨[w,.int .i64 0]⟩,H',n')∧n≤n'∧Keep n H H'∧fW H' 0 n' w (DK (apB js ps nj np) np)):=by
 have hg0:=hg
 obtain⟨x,y,z,rfl,h1,h2,h3⟩:=hg
 unfold WX B48_0
 rw[cY]
 simp only[bq,ptr]
 have hk:Keep n H (H.set n (some (.cells [x,y,z] 35 false none))):=(Keep.refl n H).set (Nat.le_refl _) _
 have hb:aZ (H.set n (some (.cells [x,y,z] 35 false none))) n 0 [x,y,z]:=aZ.new
 generalize H.set n (some (.cells [x,y,z] 35 false none))=H1 at hk hb ⊢
 have lg:ak P H1 35 ⟨n,0,none⟩=some (.agg ⟨[x,y,z]⟩):=cj (o:=0) (k:=0) hb Fy sz35 (by simp) (by simp [h1.hole.1,h2.hole.1,h3.hole.1])
 obtain⟨o1,o2⟩:=Mk (l+10) (hg0.keep hk (show n≤n+1 by omega)) hnp hnj hnk
 rw[aQ,aj,lg,aj,MJ (l+10)]
 by_cases he:dj np nj nk ps js ks=0
 ·refine⟨fun h=>absurd he h,fun _=>?_⟩
  obtain⟨g,x',y',z',f,H2,n2,e1,e2,e3,e4,e5,e6,e7,e8,e9⟩:=o2 he
  simp only[Value.agg.injEq,Array.mk.injEq,List.cons.injEq,and_true] at e6
  obtain⟨rfl,rfl,rfl⟩:=e6
  have good:=nJ he
  have kk:Keep n H H2:=hk.trans e3 (by omega)
  have t0:tupV (.tuple ⟨[.pointer (some ⟨g,0,none⟩),.int .i64 0]⟩) 0=some (.pointer (some ⟨g,0,none⟩)):=rfl
  have t1:tupV (.tuple ⟨[.pointer (some ⟨g,0,none⟩),.int .i64 0]⟩) 1=some (.int .i64 0):=rfl
  have d0:decide ((0:Int)=0)=true:=rfl
  rw[e1,aj,t0,aj,t1,aj,aJ gW,d0,Bool.not_true,dX]
  dsimp only
  obtain⟨w,H3,n3,b1,b2,b3,b4⟩:=proof_call (ρ:=Value×Hp×Nat) (l+2) e7 e8 ((h1.keep kk (Nat.le_refl _)).up (show n≤n2 by omega)) good.np8 (fun p _=>good.self) e5
  rw[b1]
  exact⟨w,H3,n3,rfl,by omega,fun b hb=>by rw[b3 b (by omega),kk b hb],b4⟩
 ·refine⟨fun _=>?_,fun h=>absurd h he⟩
  obtain⟨H2,n2,e1,e2,e3⟩:=o1 he
  have t0:tupV (.tuple ⟨[.pointer none,.int .i64 (dj np nj nk ps js ks)]⟩) 0=some (.pointer none):=rfl
  have t1:tupV (.tuple ⟨[.pointer none,.int .i64 (dj np nj nk ps js ks)]⟩) 1=some (.int .i64 (dj np nj nk ps js ks)):=rfl
  rw[e1,aj,t0,aj,t1,aj,aJ gW,decide_eq_false he,Bool.not_false,eZ]
  exact⟨H2,n2,rfl,by omega,hk.trans e3 (by omega)⟩
end Go.Proofs.Ytekajfobmnedjaa.spec
end
section
namespace Go.Proofs.Ytekajfobmnedjaa.spec
open Go Go.Ev Go.Proofs.Ytekajfobmnedjaa.nestFits Go.Proofs.Ytekajfobmnedjaa.G
set_option maxRecDepth 100000
variable {ρ:Type}
def HoldsI (c:Cal) (fv:Value) (xs:List Int) (len:Nat) (p:Nat→Prop) (H0:Hp) (n0:Nat):Prop:=
 ∀ i,i<len→∀(H:Hp) (n:Nat),n0≤n→Keep n0 H0 H→∃(b:Bool) (H':Hp) (n':Nat),(b=true↔p i) ∧
  (∀ k:Value→Hp→Nat→Res,ew P c fv [.int .i64 (xs.getD i 0)] H n k=k (.bool b) H' n')∧n≤n'∧Keep n H H'
theorem each86_loop (c:Cal) (k:Nat) (fv v:Value) (xs:List Int) (len:Nat) (p:Nat→Prop) (H0:Hp) (n0:Nat) (hx:ListR H0 n0 v len xs) (hlen:len≤1000) (hf:HoldsI c fv xs len p H0 n0) :
  ∀(m i:Nat) (H:Hp) (n:Nat),n0≤n→Keep n0 H0 H→i≤len→len-i≤m →
  ∃ r,Ret (S86_1 c k m fv v (.int .i64 len) (.int .i64 i) H n) n H (.bool r)∧(r=true↔∀ q,i≤q→q<len→p q):=by
 have body:∀(b1:Value→Value→Value→Value→Hp→Nat→Res) (m i:Nat) (H:Hp) (n:Nat),n0≤n→Keep n0 H0 H→i≤len →
   (∀ H' n',n≤n'→Keep n H H'→i<len→∃ r,Ret (b1 fv v (.int .i64 len) (.int .i64 ((i+1:Nat):Int)) H' n') n' H' (.bool r)∧(r=true↔∀ q,i+1≤q→q<len→p q)) →
   ∃ r,Ret (C86_1 c k m b1 fv v (.int .i64 len) (.int .i64 i) H n) n H (.bool r)∧(r=true↔∀ q,i≤q→q<len→p q):=by
  intro b1 m i H n hn hk hi ih
  unfold C86_1 B86_1
  rw[aJ cX,ij]
  by_cases hlt:i<len
  ·rw[if_pos (by omega)]
   obtain⟨bb,o,hix,hbn,hld⟩:=(hx.keep hk hn).at_ hlt
   obtain⟨b,H2,n2,e1,e2,e3,e4⟩:=hf i hlt H n hn hk
   rw[hix,aj,aQ,aj,hld,aj,e2]
   cases b with
   | false=>
    rw[oZ,aj,eZ]
    refine⟨false,⟨H2,n2,rfl,by omega,e4⟩,⟨fun h=>(by cases h),fun h=>?_⟩⟩
    exact absurd (e1.2 (h i (Nat.le_refl _) hlt)) (by simp)
   | true=>
    have hI:I64 ((i:Int)+1):=by unfold I64; omega
    have hcast:((i:Int)+1)=((i+1:Nat):Int):=by omega
    rw[mQ,aj,dX,aJ (bK hI),hcast]
    obtain⟨r,⟨H',n',q1,q2,q3⟩,q4⟩:=ih H2 n2 (by omega) e4 hlt
    refine⟨r,⟨H',n',q1,by omega,e4.trans q3 (by omega)⟩,q4.trans ⟨fun h q h1 h2=>?_,fun h q h1 h2=>h q (by omega) h2⟩⟩
    rcases Nat.eq_or_lt_of_le h1 with z | z
    ·subst z; exact e1.1 rfl
    ·exact h q z h2
  ·rw[if_neg (by omega)]
   exact⟨true,⟨H,n,rfl,Nat.le_refl _,Keep.refl _ _⟩,⟨fun _ q h1 h2=>by omega,fun _=>rfl⟩⟩
 intro m
 induction m with
 | zero=>
  intro i H n h1 h2 h3 h4
  exact body _ 0 i H n h1 h2 h3 (fun _ _ _ _ h=>by omega)
 | succ m ih=>
  intro i H n h1 h2 h3 h4
  exact body _ (m+1) i H n h1 h2 h3 (fun H' n' q1 q2 q3=>ih (i+1) H' n' (by omega) (h2.trans q2 h1) (by omega) (by omega))
theorem call86 (l:Nat) (a b:Value) (H:Hp) (n:Nat):(cal (l+1)).call 86 [a,b] H n=C86_0 (cal l) KK a b H n:=by kernel_rfl
theorem each86_call (l:Nat) (fv v:Value) (xs:List Int) (len:Nat) (p:Nat→Prop) {H:Hp} {n:Nat} (hx:ListR H n v len xs) (hlen:len≤1000) (hf:HoldsI (cal l) fv xs len p H n) (hf0:bz fv=true→HoldsI (cal l) fv xs len p .nil 0) :
  ∃(b:Bool) (H':Hp) (n':Nat),(b=true↔∀ q,q<len→p q)∧(∀ k:Value→Hp→Nat→Option ρ,aW P (cal (l+1)) 86 [v,fv] H n k=k (.bool b) H' n')∧n≤n'∧Keep n H H':=by
 obtain⟨r,H',n',⟨b',rfl,hb⟩,e1,e2,e3⟩:=eQ (ρ:=ρ) (P:=P) (cal:=cal (l+1)) (f:=86) (args:=[v,fv]) (H:=H) (n:=n)
  (Pre:=fun H n=>ListR H n v len xs∧HoldsI (cal l) fv xs len p H n) (Q:=fun r=>∃ b':Bool,r=.bool b'∧(b'=true↔∀ q,q<len→p q))
  (fun H n h=>by
   obtain⟨r,h1,h2⟩:=each86_loop (cal l) KK fv v xs len p H n h.1 hlen h.2 KK 0 H n (Nat.le_refl _) (Keep.refl _ _) (Nat.zero_le _) (by unfold KK; omega)
   refine⟨.bool r,?_,r,rfl,h2.trans ⟨fun h q=>h q (by omega),fun h q _=>h q⟩⟩
   rw[call86]
   unfold C86_0 B86_0
   rw[h.1.len_eq,aj]
   exact h1) (fun r ⟨b,e,_⟩ _=>by subst e; rfl) ⟨hx,hf⟩ (fun hp=>by
    simp only[bY,Bool.and_eq_true] at hp
    exact⟨hx.nil hp.1,hf0 hp.2.1⟩)
 exact⟨b',H',n',hb,e1,e2,e3⟩
theorem rises87_loop (c:Cal) (k:Nat) {H:Hp} {n len:Nat} {v:Value} {xs:List Int} (hx:ListR H n v len xs) (hlen:len≤1000):∀(m i:Nat),1≤i→len-i≤m →
  ∃ r:Bool,S87_1 c k m v (.int .i64 i) H n=some (.bool r,H,n)∧(r=true↔∀ q,i≤q→q<len→xs.getD (q-1) 0<xs.getD q 0):=by
 have body:∀(b1:Value→Value→Hp→Nat→Res) (m i:Nat),1≤i →
   (i<len→∃ r:Bool,b1 v (.int .i64 ((i+1:Nat):Int)) H n=some (.bool r,H,n)∧(r=true↔∀ q,i+1≤q→q<len→xs.getD (q-1) 0<xs.getD q 0)) →
   ∃ r:Bool,C87_1 c k m b1 v (.int .i64 i) H n=some (.bool r,H,n)∧(r=true↔∀ q,i≤q→q<len→xs.getD (q-1) 0<xs.getD q 0):=by
  intro b1 m i h1 ih
  unfold C87_1 B87_1
  rw[hx.len_eq,aj,aJ cX,ij]
  by_cases hlt:i<len
  ·rw[if_pos (by omega)]
   obtain⟨bb,o,hix,_,hld⟩:=hx.at_ hlt
   obtain⟨bb',o',hix',_,hld'⟩:=hx.at_ (show i-1<len by omega)
   have hI:I64 ((i:Int)-1):=by unfold I64; omega
   have hc:((i:Int)-1)=((i-1:Nat):Int):=by omega
   have hI1:I64 ((i:Int)+1):=by unfold I64; omega
   have hc1:((i:Int)+1)=((i+1:Nat):Int):=by omega
   rw[hix,aj,aQ,aj,hld,aj,aJ (zV hI),hc,hix',aj,aQ,aj,hld',aj,aJ uz,ij]
   by_cases hle:xs.getD i 0≤xs.getD (i-1) 0
   ·rw[if_pos hle]
    refine⟨false,rfl,⟨fun h=>(by cases h),fun h=>?_⟩⟩
    have:=h i (Nat.le_refl _) hlt
    omega
   ·rw[if_neg hle,aJ (bK hI1),hc1]
    obtain⟨r,q1,q2⟩:=ih hlt
    refine⟨r,q1,q2.trans ⟨fun h q a b=>?_,fun h q a b=>h q (by omega) b⟩⟩
    rcases Nat.eq_or_lt_of_le a with z | z
    ·subst z; omega
    ·exact h q z b
  ·rw[if_neg (by omega)]
   exact⟨true,rfl,⟨fun _ q a b=>by omega,fun _=>rfl⟩⟩
 intro m
 induction m with
 | zero=>intro i h1 h2; exact body _ 0 i h1 (fun h=>by omega)
 | succ m ih=>intro i h1 h2; exact body _ (m+1) i h1 (fun h=>ih (i+1) (by omega) (by omega))
theorem call87 (l:Nat) (a:Value) (H:Hp) (n:Nat):(cal (l+1)).call 87 [a] H n=C87_0 (cal l) KK a H n:=by kernel_rfl
theorem rises87_call (l:Nat) {H:Hp} {n len:Nat} {v:Value} {xs:List Int} (hx:ListR H n v len xs) (hlen:len≤1000) :
  ∃(b:Bool) (H':Hp) (n':Nat),(b=true↔∀ q,1≤q→q<len→xs.getD (q-1) 0<xs.getD q 0)∧(∀ k:Value→Hp→Nat→Option ρ,aW P (cal (l+1)) 87 [v] H n k=k (.bool b) H' n')∧n≤n'∧Keep n H H':=by
 obtain⟨r,H',n',⟨b',rfl,hb⟩,e1,e2,e3⟩:=eQ (ρ:=ρ) (P:=P) (cal:=cal (l+1)) (f:=87) (args:=[v]) (H:=H) (n:=n)
  (Pre:=fun H n=>ListR H n v len xs) (Q:=fun r=>∃ b':Bool,r=.bool b'∧(b'=true↔∀ q,1≤q→q<len→xs.getD (q-1) 0<xs.getD q 0))
  (fun H n h=>by
   obtain⟨r,h1,h2⟩:=rises87_loop (cal l) KK h hlen KK 1 (Nat.le_refl _) (by unfold KK; omega)
   refine⟨.bool r,⟨H,n,?_,Nat.le_refl _,Keep.refl _ _⟩,r,rfl,h2⟩
   rw[call87]
   exact h1) (fun r ⟨b,e,_⟩ _=>by subst e; rfl) hx (fun hp=>by
    simp only[bY,Bool.and_eq_true] at hp
    exact hx.nil hp.1)
 exact⟨b',H',n',hb,e1,e2,e3⟩
theorem rises_of:∀ {t:List Nat} {a:Nat},(∀ x,t[0]?=some x→a≤x)→(∀ i x y,t[i]?=some x→t[i+1]?=some y→x<y)→pk a t
 | [],_,_,_=>trivial
 | x::t,a,h0,h=>⟨h0 x rfl,rises_of (fun y hy=>h 0 x y rfl hy) fun i y z hy hz=>h (i+1) y z hy hz⟩
theorem rises_to:∀ {t:List Nat} {a:Nat},pk a t→∀ i x y,t[i]?=some x→t[i+1]?=some y→x<y
 | [],_,_,_,_,_,h,_=>by cases h
 | x::t,a,hr,0,u,w,hu,hw=>by
  cases hu
  cases t with
  | nil=>cases hw
  | cons y t=>cases hw; exact hr.2.1
 | x::t,a,hr,i+1,u,w,hu,hw=>rises_to hr.2 i u w hu hw
def MY (js ps:List Int) (nj np:Nat) (xs:List Int):Prop:=∃ t:List Nat,xs=mZ t∧Rk (apB js ps nj np) np t
theorem cast_back {xs:List Int} {np:Nat} (h:∀ q,q<xs.length→0≤xs.getD q 0∧xs.getD q 0<np):∃ t:List Nat,xs=mZ t∧∀ p ∈ t,p<np:=by
 refine⟨xs.map Int.toNat,?_,fun p hp=>?_⟩
 ·apply List.ext_getElem?
  intro i
  unfold mZ
  rw[List.map_map,List.getElem?_map]
  cases c:xs[i]? with
  | none=>rfl
  | some x=>
   have hi:i<xs.length:=by
    rcases Nat.lt_or_ge i xs.length with q | q
    ·exact q
    ·rw[List.getElem?_eq_none q] at c; cases c
   have:=h i hi
   rw[List.getD_eq_getElem?_getD,c] at this
   simp only[Option.getD_some] at this
   simp only[Option.map_some,Function.comp,Int.toNat_of_nonneg this.1]
 ·obtain⟨x,hx,rfl⟩:=List.mem_map.1 hp
  obtain⟨i,hi,e⟩:=List.mem_iff_getElem.1 hx
  have:=h i hi
  rw[List.getD_eq_getElem?_getD,List.getElem?_eq_getElem hi,e] at this
  simp only[Option.getD_some] at this
  omega
theorem cast_rises {t:List Nat}:(∀ q,1≤q→q<t.length→(mZ t).getD (q-1) 0<(mZ t).getD q 0)↔pk 0 t:=by
 constructor
 ·intro h
  refine rises_of (fun _ _=>Nat.zero_le _) fun i x y hx hy=>?_
  have hi:i+1<t.length:=by
   rcases Nat.lt_or_ge (i+1) t.length with q | q
   ·exact q
   ·rw[List.getElem?_eq_none q] at hy; cases hy
  have:=h (i+1) (by omega) hi
  rw[By hi,Nat.add_sub_cancel,By (by omega)] at this
  rw[List.getElem?_eq_getElem (by omega)] at hx
  rw[List.getElem?_eq_getElem hi] at hy
  cases hx
  cases hy
  omega
 ·intro h q h1 h2
  have:=rises_to h (q-1) t[q-1] t[q] (List.getElem?_eq_getElem _) (by rw[show q-1+1=q by omega]; exact List.getElem?_eq_getElem _)
  rw[By h2,By (by omega)]
  omega
theorem call49 (l:Nat) (a b:Value) (H:Hp) (n:Nat):(cal (l+1)).call 49 [a,b] H n=C49_0 (cal l) KK a b H n:=by kernel_rfl
theorem Ux {s t:List Nat} (h:mZ s=mZ t):s=t:=by
 unfold mZ at h
 exact List.map_inj_right (fun a b e=>by omega) |>.1 h
theorem ProveApart_spec (l:Nat) {np nj nk nl:Nat} {ps js ks xs:List Int} {H:Hp} {n:Nat} {v w:Value} (hg:eY H n v np nj nk ps js ks) (hw:ListR H n w nl xs) (hnp:np≤1000) (hnj:nj≤1000) (hnk:nk≤1000) (hnl:nl≤1000) :
  ∃ r:Bool,Ret (C49_0 (cal (l+6)) KK v w H n) n H (.bool r)∧(r=true↔dj np nj nk ps js ks=0∧MY js ps nj np xs):=by
 have hg0:=hg
 obtain⟨x,y,z,rfl,h1,h2,h3⟩:=hg
 unfold C49_0 B49_0
 rw[cY]
 simp only[bq,ptr]
 have hk:Keep n H (H.set n (some (.cells [x,y,z] 35 false none))):=(Keep.refl n H).set (Nat.le_refl _) _
 have hb:aZ (H.set n (some (.cells [x,y,z] 35 false none))) n 0 [x,y,z]:=aZ.new
 generalize H.set n (some (.cells [x,y,z] 35 false none))=H1 at hk hb ⊢
 have lg:ak P H1 35 ⟨n,0,none⟩=some (.agg ⟨[x,y,z]⟩):=cj (o:=0) (k:=0) hb Fy sz35 (by simp) (by simp [h1.hole.1,h2.hole.1,h3.hole.1])
 obtain⟨o1,o2⟩:=Mk l (hg0.keep hk (show n≤n+1 by omega)) hnp hnj hnk
 rw[aQ,aj,lg,aj,MJ l]
 by_cases he:dj np nj nk ps js ks=0
 ·obtain⟨g,x',y',z',f,H2,n2,e1,e2,e3,e4,e5,e6,e7,e8,e9⟩:=o2 he
  simp only[Value.agg.injEq,Array.mk.injEq,List.cons.injEq,and_true] at e6
  obtain⟨rfl,rfl,rfl⟩:=e6
  have good:=nJ he
  have kk:Keep n H H2:=hk.trans e3 (by omega)
  have t0:tupV (.tuple ⟨[.pointer (some ⟨g,0,none⟩),.int .i64 0]⟩) 0=some (.pointer (some ⟨g,0,none⟩)):=rfl
  have t1:tupV (.tuple ⟨[.pointer (some ⟨g,0,none⟩),.int .i64 0]⟩) 1=some (.int .i64 0):=rfl
  have d0:decide ((0:Int)=0)=true:=rfl
  have lgr:ak P H2 35 ⟨g,0+0,none⟩=some (.agg ⟨[x,y,z]⟩):=by
   rw[Nat.add_zero,e7.load_agg (k:=0) Fy sz35 (by omega)]
   have:(List.range 3).map (fun j=>f (0+j))=[x,y,z]:=by
    show[f (0+0),f (0+1),f (0+2)]=_
    rw[e8.x,e8.y,e8.z]
   rw[this]
  have hg2:eY H2 n2 (.agg ⟨[x,y,z]⟩) np nj nk ps js ks:=hg0.keep kk (by omega)
  have hw2:=hw.keep kk (show n≤n2 by omega)
  obtain⟨b1,H3,n3,a1,a2,a3,a4⟩:=each86_call (ρ:=Value×Hp×Nat) (l+5) (.func (.func 71) ⟨[.agg ⟨[x,y,z]⟩]⟩ ⟨[]⟩) w xs nl (fun q=>0≤xs.getD q 0∧xs.getD q 0<np) hw2 hnl
   (fun i _ H4 n4 hn4 hk4=>by
    obtain⟨r,H5,n5,q1,q2,q3,q4⟩:=Rw (ρ:=Value×Hp×Nat) (l+4) (hg2.keep hk4 hn4) (xs.getD i 0)
    exact⟨r,H5,n5,q1,fun k=>q2 k,q3,q4⟩)
   (fun hp i _ H4 n4 hn4 hk4=>by
    have hg3:eY .nil 0 (.agg ⟨[x,y,z]⟩) np nj nk ps js ks:=hg2.nil (by
     simp only[bz,Bool.and_eq_true] at hp
     have h:=hp.1.2
     simp only[lQ,bY,Bool.and_true] at h
     exact h)
    obtain⟨r,H5,n5,q1,q2,q3,q4⟩:=Rw (ρ:=Value×Hp×Nat) (l+4) (hg3.keep hk4 hn4) (xs.getD i 0)
    exact⟨r,H5,n5,q1,fun k=>q2 k,q3,q4⟩)
  rw[e1,aj,t0,aj,t1,aj,aJ mw,d0]
  dsimp only
  simp only[dQ,iz,aj,mz,aQ,lgr,a2,dw]
  have kA:Keep n H H3:=fun b hb=>by rw[a4 b (by omega),kk b hb]
  cases b1 with
  | false=>
   simp only[eK,eX,cK,aj]
   refine⟨false,⟨H3,n3,rfl,by omega,kA⟩,⟨fun h=>(by cases h),?_⟩⟩
   rintro⟨_,t,rfl,_,t2,_⟩
   refine absurd (a1.2 fun q hq=>?_) (by simp)
   have hq':q<t.length:=by have:=hw.1; rw[castL_len] at this; omega
   rw[By hq']
   have:=t2 _ (List.getElem_mem hq')
   omega
  | true=>
   obtain⟨t,rfl,ht⟩:=cast_back (np:=np) (fun q hq=>a1.1 rfl q (by have:=hw.1; omega))
   have hlt:t.length=nl:=by have:=hw.1; rw[castL_len] at this; exact this
   have hw3:=hw2.keep a4 a3
   obtain⟨b2,H4,n4,c1,c2,c3,c4⟩:=rises87_call (ρ:=Value×Hp×Nat) (l+5) hw3 hnl
   simp only[dQ,c2,dw,aj]
   have kB:Keep n H H4:=fun b hb=>by rw[c4 b (by omega),kA b hb]
   rw[← hlt,cast_rises] at c1
   cases b2 with
   | false=>
    simp only[eK,eX,cK,aj]
    refine⟨false,⟨H4,n4,rfl,by omega,kB⟩,⟨fun h=>(by cases h),?_⟩⟩
    rintro⟨_,s,hs,s1,_⟩
    rw[Ux hs] at c1
    exact absurd (c1.2 s1) (by simp)
   | true=>
    subst hlt
    have kC:Keep n2 H2 H4:=fun b hb=>by rw[c4 b (by omega),a4 b hb]
    obtain⟨H5,n5,s1,s2,s3⟩:=apart_call (ρ:=Value×Hp×Nat) (l+3) (e7.keep kC e5) e8 ((h1.keep kB (Nat.le_refl _)).up (show n≤n4 by omega)) (hw3.keep c4 c3) good.np8 ht (fun p _=>good.self) hnl (show g<n4 by omega)
    simp only[dQ,s1,dw,aj]
    refine⟨_,⟨H5,n5,rfl,by omega,fun b hb=>by rw[s3 b (by omega),kB b hb]⟩,⟨fun h=>⟨he,t,rfl,c1.1 rfl,ht,h⟩,?_⟩⟩
    rintro⟨_,s,hs,_,_,s3⟩
    rw[Ux hs]
    exact s3
 ·obtain⟨H2,n2,e1,e2,e3⟩:=o1 he
  have t0:tupV (.tuple ⟨[.pointer none,.int .i64 (dj np nj nk ps js ks)]⟩) 0=some (.pointer none):=rfl
  have t1:tupV (.tuple ⟨[.pointer none,.int .i64 (dj np nj nk ps js ks)]⟩) 1=some (.int .i64 (dj np nj nk ps js ks)):=rfl
  rw[e1,aj,t0,aj,t1,aj,aJ mw,decide_eq_false he]
  simp only[eK,eX,cK,aj]
  exact⟨false,⟨H2,n2,rfl,by omega,hk.trans e3 (by omega)⟩,⟨fun h=>(by cases h),fun h=>absurd h.1 he⟩⟩
theorem ProveApart_call (l:Nat) {np nj nk nl:Nat} {ps js ks xs:List Int} {H:Hp} {n:Nat} {v w:Value} (hg:eY H n v np nj nk ps js ks) (hw:ListR H n w nl xs) (hnp:np≤1000) (hnj:nj≤1000) (hnk:nk≤1000) (hnl:nl≤1000) :
  ∃(r:Bool) (H':Hp) (n':Nat),(r=true↔dj np nj nk ps js ks=0∧MY js ps nj np xs)∧(∀ k:Value→Hp→Nat→Option ρ,aW P (cal (l+7)) 49 [v,w] H n k=k (.bool r) H' n')∧n≤n'∧Keep n H H':=by
 obtain⟨r,H',n',⟨b,rfl,hb⟩,e1,e2,e3⟩:=eQ (ρ:=ρ) (P:=P) (cal:=cal (l+7)) (f:=49) (args:=[v,w]) (H:=H) (n:=n)
  (Pre:=fun H n=>eY H n v np nj nk ps js ks∧ListR H n w nl xs) (Q:=fun r=>∃ b:Bool,r=.bool b∧(b=true↔dj np nj nk ps js ks=0∧MY js ps nj np xs))
  (fun H n h=>by
   obtain⟨r,h1,h2⟩:=ProveApart_spec l h.1 h.2 hnp hnj hnk hnl
   exact⟨.bool r,by rw[call49]; exact h1,r,rfl,h2⟩) (fun r ⟨b,e,_⟩ _=>by subst e; rfl) ⟨hg,hw⟩ (fun hp=>by
    simp only[bY,Bool.and_eq_true] at hp
    exact⟨hg.nil hp.1,hw.nil hp.2.1⟩)
 exact⟨b,H',n',hb,e1,e2,e3⟩
end Go.Proofs.Ytekajfobmnedjaa.spec
end
section
namespace Go.Ev
open Go
variable {P:Program} {t:TypeId} {x y:Operand} {a:Int} {ρ:Type}
theorem bin_shr {kd:IntKind} {b:Nat} (hb:b<64):binV P .shr t x y (.int .i64 a) (.int kd (b:Int))=some (.int .i64 (a.fdiv (2 ^ b))):=by
 have hq:BJ .shr (.int .i64 a) (.int kd (b:Int))=none:=by
  unfold BJ
  cases a <;> cases kd <;> rfl
 have h0:(bz (.int .i64 a) && bz (.int kd (b:Int)))=true:=rfl
 have h1:GQ P .shr t (.int .i64 a) (.int kd (b:Int))=none:=by unfold GQ; rfl
 have h2:binOp .shr t (.int .i64 a) (.int kd (b:Int))=pure (.int .i64 (a.fdiv (2 ^ b))):=by
  have hn:¬ ((b:Int)<0):=by omega
  have hm:min b 64=b:=by omega
  show Op.shift .shr .i64 a kd (b:Int)=_
  unfold Op.shift
  rw[if_neg hn]
  show(pure (.int .i64 (a.fdiv (2 ^ min (b:Int).toNat IntKind.i64.bits))):Sem Value)=_
  rw[Int.toNat_natCast,show IntKind.i64.bits=64 from rfl,hm]
 unfold binV
 rw[hq]
 unfold GV
 rw[h0]
 simp only[h1,semPure_guard eqGuard_ints h2]
 rfl
theorem fdiv_pow (m b:Nat):((m:Int).fdiv (2 ^ b))=((m >>> b:Nat):Int):=by
 rw[Int.fdiv_eq_ediv_of_nonneg _ (by exact Int.pow_nonneg (by omega)),Nat.shiftRight_eq_div_pow]
 simp
end Go.Ev
end
section
namespace Go.Proofs.Ytekajfobmnedjaa.spec
open Go Go.Ev Go.Proofs.Ytekajfobmnedjaa.nestFits Go.Proofs.Ytekajfobmnedjaa.G
set_option maxRecDepth 100000
variable {ρ:Type}
theorem push_pads {H:Hp} {n0 n i:Nat} {v:Value} {L:List Nat} (h:fW H n0 n v L) (hn:n0≤n) (hlen:L.length≤1000) :
  ∃ u H' n',(∀ k:Value→Hp→Nat→Option ρ,(rowK P 44 1 [(0,.int .i64 i)] H n fun v_l H_m n_n=>stK (fk P (bare H_m n_n) 44 44 v v_l) k)=k u H' n')∧n≤n'∧fW H' n0 n' u (L++[i])∧∀ b,b<n→¬ iy v b→H'.get b=H.get b:=by
 have hc:aZ (H.set n (some (.cells [.int .i64 i] 3 false none))) n 0 (ints [(i:Int)]):=aZ.new
 have hk2:∀ b,b<n→(H.set n (some (.cells [.int .i64 i] 3 false none))).get b=H.get b:=fun b hb=>by rw[Tr.get_set,if_neg (by omega)]
 have hrow:∀ k:Value→Hp→Nat→Option ρ,(rowK P 44 1 [(0,.int .i64 i)] H n fun v_l H_m n_n=>stK (fk P (bare H_m n_n) 44 44 v v_l) k)=stK (fk P (bare (H.set n (some (.cells [.int .i64 i] 3 false none))) (n+1)) 44 44 v (.slice (some ⟨n,0,none⟩) 1 1)) k:=by
  intro k
  unfold rowK
  rw[row44,aj]
  rfl
 generalize H.set n (some (.cells [.int .i64 i] 3 false none))=H2 at hc hk2 hrow
 have v2:VecAt H2 n0 (n+1) 1 3 v L.length (mZ L):=VecAt.same h (by omega) fun b hb _=>hk2 b hb
 obtain⟨H3,ea,ev,eo⟩:=xK (P:=P) (t:=44) (t2:=44) (cap2:=1) v2 sl44 sl44 sz3 by3 zero3 rfl hc rfl (by omega) (by omega) (by omega) (by omega)
 refine⟨.slice (some ⟨n+1,0,none⟩) (L.length+1) capV,H3,n+1+1,fun k=>?_,by omega,?_,fun b hb hne=>?_⟩
 ·rw[hrow,ea]
  rfl
 ·unfold fW
  rw[castL_snoc,List.length_append]
  exact ev
 ·rw[eo b (by omega) hne,hk2 b (by omega)]
def bitB (b p:Nat):Bool:=decide ((b >>> p) % 2=1)
def WV (b:Nat):List Nat:=(List.range 8).filter (bitB b)
theorem conv138 {a:Nat} (ha:a<1000):cW P (.int .i64 (a:Int)) (convert 3 138 (.int .i64 (a:Int)))=some (.int .u64 (a:Int)):=by
 have h:lj P (convert 3 138 (.int .i64 (a:Int)))=some (.int .u64 (IntKind.u64.wrap (a:Int))):=by kernel_rfl
 have hw:IntKind.u64.wrap (a:Int)=a:=by
  simp [IntKind.wrap,IntKind.bits,IntKind.signed]
  omega
 unfold cW
 rw[h,hw]
 rfl
theorem bits_end {b p:Nat} (hp:p≤8) (h:b >>> p=0):(List.range p).filter (bitB b)=WV b:=by
 unfold WV
 have key:∀ d,(List.range (p+d)).filter (bitB b)=(List.range p).filter (bitB b):=by
  intro d
  induction d with
  | zero=>rfl
  | succ d ih=>
   have hb:bitB b (p+d)=false:=by
    unfold bitB
    rw[Nat.shiftRight_add,h,Nat.zero_shiftRight]
    rfl
   rw[show p+(d+1)=(p+d)+1 by omega,List.range_succ,List.filter_append,ih]
   simp [List.filter_cons,hb]
 have:=key (8-p)
 rw[show p+(8-p)=8 by omega] at this
 exact this.symm
theorem bits_loop (c:Cal) (k:Nat) {b:Nat} (hb:b<256) {H0:Hp} {n0:Nat}:∀(m p:Nat) (u:Value) (H:Hp) (n:Nat),n0≤n→Keep n0 H0 H→p≤8→8-p≤m→fW H n0 n u ((List.range p).filter (bitB b)) →
  ∃ u' H' n',S57_1 c k m (.int .i64 b) u (.int .i64 p) H n=some (u',H',n')∧n≤n'∧Keep n0 H0 H'∧fW H' n0 n' u' (WV b):=by
 have body:∀(b1:Value→Value→Value→Hp→Nat→Res) (m p:Nat) (u:Value) (H:Hp) (n:Nat),n0≤n→Keep n0 H0 H→p≤8→fW H n0 n u ((List.range p).filter (bitB b)) →
   (∀(u:Value) (H':Hp) (n':Nat),p<8→n≤n'→Keep n0 H0 H'→fW H' n0 n' u ((List.range (p+1)).filter (bitB b))→∃ u' H2 n2,b1 (.int .i64 b) u (.int .i64 ((p+1:Nat):Int)) H' n'=some (u',H2,n2)∧n'≤n2∧Keep n0 H0 H2∧fW H2 n0 n2 u' (WV b)) →
   ∃ u' H' n',C57_1 c k m b1 (.int .i64 b) u (.int .i64 p) H n=some (u',H',n')∧n≤n'∧Keep n0 H0 H'∧fW H' n0 n' u' (WV b):=by
  intro b1 m p u H n hn hk hp hu ih
  unfold C57_1 B57_1
  rw[conv138 (by omega),aj,aJ (bin_shr (by omega)),fdiv_pow,aJ wk,ij]
  by_cases hpos:0<b >>> p
  ·have hp8:p<8:=by
    refine Classical.byContradiction fun h=>?_
    have:p=8:=by omega
    subst this
    rw[Nat.shiftRight_eq_div_pow] at hpos
    omega
   have hI1:I64 ((p:Int)+1):=by unfold I64; omega
   have hc1:((p:Int)+1)=((p+1:Nat):Int):=by omega
   rw[if_pos (by omega),aj,aJ (bin_shr (by omega)),fdiv_pow,aJ (bin_rem (by omega))]
   have hrem:((b >>> p:Nat):Int).tmod 2=((b >>> p % 2:Nat):Int):=rem_small (n:=2) (by omega)
   rw[hrem,aJ mw,ij]
   by_cases hbit:b >>> p % 2=1
   ·rw[if_pos (by omega)]
    obtain⟨u2,H2,n2,q1,q2,q3,q4⟩:=push_pads (ρ:=Value×Hp×Nat) (i:=p) hu hn (by have:=List.length_filter_le (bitB b) (List.range p); rw[List.length_range] at this; omega)
    rw[q1]
    unfold C57_2 B57_2
    rw[aJ (bK hI1),hc1]
    obtain⟨u',H',n',r1,r2,r3,r4⟩:=ih u2 H2 n2 hp8 q2 (fun x hx=>by rw[q4 x (by omega) (fun hbk=>by have:=(hu.low hbk).1; omega),hk x hx]) (by
     rw[List.range_succ,List.filter_append]
     have:bitB b p=true:=decide_eq_true hbit
     simp only[List.filter_cons,this,if_true,List.filter_nil]
     exact q3)
    exact⟨u',H',n',r1,by omega,r3,r4⟩
   ·rw[if_neg (by omega)]
    unfold C57_2 B57_2
    rw[aJ (bK hI1),hc1]
    obtain⟨u',H',n',r1,r2,r3,r4⟩:=ih u H n hp8 (Nat.le_refl _) hk (by
     rw[List.range_succ,List.filter_append]
     have:bitB b p=false:=decide_eq_false hbit
     simp only[List.filter_cons,this,List.filter_nil,Bool.false_eq_true,if_false,List.append_nil]
     exact hu)
    exact⟨u',H',n',r1,by omega,r3,r4⟩
  ·rw[if_neg (by omega)]
   have hz:b >>> p=0:=Nat.le_zero.1 (Nat.not_lt.1 hpos)
   refine⟨u,H,n,rfl,Nat.le_refl _,hk,?_⟩
   rw[← bits_end hp hz]
   exact hu
 intro m
 induction m with
 | zero=>intro p u H n h1 h2 h3 h4 h5; exact body _ 0 p u H n h1 h2 h3 h5 (fun _ _ _ h=>by omega)
 | succ m ih=>intro p u H n h1 h2 h3 h4 h5; exact body _ (m+1) p u H n h1 h2 h3 h5 (fun u H' n' q1 q2 q3 q4=>ih (p+1) u H' n' (by omega) q3 (by omega) (by omega) q4)
theorem flat57:fj P 57=false:=by kernel_rfl
theorem call57 (l:Nat) (a:Value) (H:Hp) (n:Nat):(cal (l+1)).call 57 [a] H n=C57_0 (cal l) KK a H n:=by kernel_rfl
theorem Bits_call (l:Nat) {b:Nat} (hb:b<256) (H:Hp) (n:Nat) :
  ∃ u H' n',(∀ k:Value→Hp→Nat→Option ρ,aW P (cal (l+1)) 57 [.int .i64 b] H n k=k u H' n')∧n≤n'∧Keep n H H'∧fW H' n n' u (WV b):=by
 obtain⟨u,H',n',e1,e2,e3,e4⟩:=bits_loop (cal l) KK hb (H0:=H) (n0:=n) KK 0 (.slice none 0 0) H n (Nat.le_refl _) (Keep.refl _ _) (Nat.zero_le _) (by unfold KK; omega) (fW.nil _ _ _)
 refine⟨u,H',n',fun k=>?_,e2,e3,e4⟩
 unfold aW
 rw[flat57,call57]
 show aq (S57_1 (cal l) KK KK (.int .i64 b) (.slice none 0 0) (.int .i64 0) H n) _=_
 have e1':S57_1 (cal l) KK KK (.int .i64 b) (.slice none 0 0) (.int .i64 0) H n=some (u,H',n'):=e1
 rw[e1']
 rfl
end Go.Proofs.Ytekajfobmnedjaa.spec
end
section
namespace Go.Proofs.Ytekajfobmnedjaa.spec
open Go Go.Ev Go.Proofs.Ytekajfobmnedjaa.nestFits Go.Proofs.Ytekajfobmnedjaa.G
set_option maxRecDepth 100000
variable {ρ:Type}
end Go.Proofs.Ytekajfobmnedjaa.spec
end
section
namespace Go.Proofs.Ytekajfobmnedjaa.spec
open Go Go.Ev Go.Proofs.Ytekajfobmnedjaa.nestFits Go.Proofs.Ytekajfobmnedjaa.G
set_option maxRecDepth 100000
variable {ρ:Type}
def StB (H:Hp) (n np:Nat) (u:Value):Option (List Int)→Prop
 | none=>u=.slice none 0 0
 | some B=>ListR H n u np B
theorem StB.keep {H H':Hp} {n m np:Nat} {u:Value}:∀ {o:Option (List Int)},StB H n np u o→Keep n H H'→n≤m→StB H' m np u o
 | none,h,_,_=>h
 | some _,h,hk,hm=>ListR.keep h hk hm
end Go.Proofs.Ytekajfobmnedjaa.spec
end
section
namespace Go.Proofs.Ytekajfobmnedjaa.spec
open Go Go.Ev Go.Proofs.Ytekajfobmnedjaa.nestFits Go.Proofs.Ytekajfobmnedjaa.G
set_option maxRecDepth 100000
variable {ρ:Type}
end Go.Proofs.Ytekajfobmnedjaa.spec
end
section
namespace Go.Proofs.Ytekajfobmnedjaa.spec
open Go Go.Ev Go.Proofs.Ytekajfobmnedjaa.nestFits Go.Proofs.Ytekajfobmnedjaa.G
set_option maxRecDepth 100000
theorem cntL_more {L:List Int}:∀ {p d:Nat},cntL L p (d+1)=cntL L p d+(if L.getD (p+d) 0=-1 then 0 else 1)
 | p,0=>by simp [cntL]
 | p,d+1=>by
  have ih:=cntL_more (L:=L) (p:=p+1) (d:=d)
  have e:cntL L p (d+1+1)=(if L.getD p 0=-1 then 0 else 1)+cntL L (p+1) (d+1):=rfl
  have e2:cntL L p (d+1)=(if L.getD p 0=-1 then 0 else 1)+cntL L (p+1) d:=rfl
  rw[e,ih,e2,show p+1+d=p+(d+1) by omega]
  omega
theorem MZ {L:List Int}:∀ {d:Nat},(cntL L 0 d:Int)=cntI L d
 | 0=>rfl
 | d+1=>by
  have ih:=MZ (L:=L) (d:=d)
  rw[cntL_more,Nat.zero_add]
  unfold cntI at ih ⊢
  simp only[dY]
  rw[← ih]
  split <;> omega
theorem cntI_end {L:List Int} {np:Nat}:∀ {j:Nat},(∀ q,np≤q→q<np+j→L.getD q 0=-1)→cntI L (np+j)=cntI L np
 | 0,_=>rfl
 | j+1,h=>by
  have ih:=cntI_end (j:=j) fun q h1 h2=>h q h1 (by omega)
  unfold cntI at ih ⊢
  rw[show np+(j+1)=(np+j)+1 by omega]
  simp only[dY]
  rw[ih,if_pos (h (np+j) (by omega) (by omega))]
  omega
theorem nests_laid {B:List Int} {np:Nat} (hB:B.length=np) (h:∀ p,p<np→-1≤B.getD p 0):eW B np=cntI (fq B np) np:=by
 unfold eW cntI
 refine yj fun k hk=>?_
 rw[wV hB hk]
 have:=h k hk
 by_cases c:B.getD k 0=-1
 ·rw[if_pos c,if_neg (by omega)]
 ·rw[if_neg c,if_pos (by omega)]
theorem laid_range {js ks B:List Int} {nj np nk:Nat} (h:nY js ks B nj np nk):∀ p,p<np→-1≤B.getD p 0∧B.getD p 0<nk:=by
 intro p hp
 rcases h p hp with z | ⟨z1,z2,_⟩ <;> omega
theorem goes_of {js ks B:List Int} {nj np nk:Nat} (hB:B.length=np) (hnp:np≤8) (h:nY js ks B nj np nk):GoesOn (fitD js ks nj np) nk noL 0 np (cntL (fq B np) 0 np) (fq B np):=by
 refine⟨Bw hB hnp,fun q hq=>absurd hq (by omega),fun q _ h2=>?_,fun q h1 h2=>Bx hB (by omega) h2,rfl⟩
 rw[wV hB (by omega)]
 rcases h q (by omega) with z | ⟨z1,z2,z3⟩
 ·exact .inl z
 ·exact .inr ⟨(B.getD q 0).toNat,by omega,z3,by omega⟩
theorem KQ {M:List Int} {np q:Nat} (hq:q<np):(M.take np).getD q 0=M.getD q 0:=by
 rw[List.getD_eq_getElem?_getD,List.getElem?_take,if_pos hq,← List.getD_eq_getElem?_getD]
theorem take_laid {tk:Nat→Nat→Bool} {nk np i:Nat} {M:List Int} (h:GoesOn tk nk noL 0 np i M) (hnp:np≤8):(M.take np).length=np∧fq (M.take np) np=M:=by
 have l:(M.take np).length=np:=by
  have:=h.len
  simp [this]; omega
 refine⟨l,list_ext8 (Bw l hnp) h.len fun q hq=>?_⟩
 by_cases c:q<np
 ·rw[wV l c,KQ c]
 ·rw[Bx l (by omega) hq,h.after q (by omega) hq]
theorem take_ok {js ks M:List Int} {nj np nk i:Nat} (h:GoesOn (fitD js ks nj np) nk noL 0 np i M):nY js ks (M.take np) nj np nk:=by
 intro p hp
 rw[KQ hp]
 rcases h.kinds p (Nat.zero_le _) (by omega) with z | ⟨kd,h1,h2,h3⟩
 ·exact .inl z
 ·refine .inr ⟨by omega,by omega,?_⟩
  rw[h3,Int.toNat_natCast]
  exact h2
theorem lexLt_same {A B C D:List Int} {np:Nat} (h1:∀ q,q<np→A.getD q 0=C.getD q 0) (h2:∀ q,q<np→B.getD q 0=D.getD q 0) (h:Rz A B 0 np):Rz C D 0 np:=by
 obtain⟨q,q1,q2,q3,q4⟩:=h
 exact⟨q,q1,q2,by rw[← h1 q q2,← h2 q q2]; exact q3,fun k k1 k2=>by rw[← h1 k (by omega),← h2 k (by omega)]; exact q4 k k1 k2⟩
theorem nests_cnt {js ks B:List Int} {nj np nk:Nat} (hB:B.length=np) (h:nY js ks B nj np nk):eW B np=(cntL (fq B np) 0 np:Nat):=by
 rw[nests_laid hB fun p hp=>(laid_range h p hp).1,MZ]
theorem Ax {ps js ks M:List Int} {nj np nk:Nat} (hnp:np≤8) (hks:jV ks nk) (h:xX ps js ks nj np nk=some M) :
  M.length=8∧(M.take np).length=np∧fq (M.take np) np=M∧nY js ks (M.take np) nj np nk∧pz js ks ps M nj np∧cntI M 8=eW (M.take np) np ∧
  ∀ B,B.length=np→nY js ks B nj np nk→pz js ks ps (fq B np) nj np→M.take np=B∨Ow (M.take np) B np:=by
 obtain⟨i,i1,i2,i3,i4,i5⟩:=Pk hnp hks h
 obtain⟨t1,t2⟩:=take_laid i2 hnp
 have ok:=take_ok i2
 have ec:cntI M 8=cntI M np:=by
  have:=cntI_end (L:=M) (np:=np) (j:=8-np) fun q h1 h2=>i2.after q (by omega) (by omega)
  rw[show np+(8-np)=8 by omega] at this
  exact this
 have hc:eW (M.take np) np=(i:Nat):=by rw[nests_cnt t1 ok,t2,i2.cnt]
 refine⟨i2.len,t1,t2,ok,i3,?_,fun B hB hok hR=>?_⟩
 ·rw[ec,hc,← MZ,i2.cnt]
 ·have hg:=goes_of hB hnp hok
  have hcB:=nests_cnt hB hok
  rcases Nat.lt_trichotomy (cntL (fq B np) 0 np) i with c | c | c
  ·exact absurd hR (i5 _ _ c hg)
  ·rw[c] at hg
   rcases i4 _ hg hR with e | e
   ·refine .inl (list_extN (by rw[t1,hB]) fun q hq=>?_)
    rw[t1] at hq
    rw[KQ hq,e,wV hB hq]
   ·refine .inr (.inr ⟨by rw[hc,hcB,c],lexLt_same (fun q hq=>(KQ hq).symm) (fun q hq=>wV hB hq) e⟩)
  ·exact .inr (.inl (by rw[hc,hcB]; omega))
theorem bestL_not {ps js ks:List Int} {nj np nk:Nat} (hnp:np≤8) (hks:jV ks nk) (h:xX ps js ks nj np nk=none):∀ B,B.length=np→nY js ks B nj np nk→¬ pz js ks ps (fq B np) nj np:=
 fun B hB hok=>bestL_none hnp hks h _ _ (by have:=Yv (L:=fq B np) (p:=0) (d:=np); exact this) (goes_of hB hnp hok)
end Go.Proofs.Ytekajfobmnedjaa.spec
end
section
namespace Go.Proofs.Ytekajfobmnedjaa.spec
open Go Go.Ev Go.Proofs.Ytekajfobmnedjaa.nestFits Go.Proofs.Ytekajfobmnedjaa.G
set_option maxRecDepth 100000
theorem RV {L:List Int} {p q:Nat} {a:Int} (hp:p<L.length):(L.set p a).getD q 0=if q=p then a else L.getD q 0:=by
 by_cases e:q=p
 ·rw[if_pos e,e,tK hp]
 ·rw[if_neg e,vK e]
theorem nestsR_less {B:List Int} {p:Nat} (hp:p<B.length) (hb:0≤B.getD p 0):∀ {i:Nat},p<i→eW (B.set p (-1)) i=eW B i-1
 | 0,h=>by omega
 | i+1,h=>by
  have same:∀ {j:Nat},j≤p→eW (B.set p (-1)) j=eW B j:=fun {j} hj=>yj fun k hk=>by rw[RV hp,if_neg (show ¬ k=p by omega)]
  unfold eW at same ⊢
  simp only[dY]
  by_cases e:i=p
  ·rw[same (by omega),RV hp,if_pos e,e,if_neg (by omega),if_pos hb]
   omega
  ·have ih:=nestsR_less hp hb (i:=i) (by omega)
   unfold eW at ih
   rw[ih,RV hp,if_neg e]
   omega
theorem best_no_spare {ps js ks M:List Int} {nj np nk:Nat} (hnp:np≤8) (hks:jV ks nk) (h:xX ps js ks nj np nk=some M):rk (yy js ks ps M nj np) 8=[]:=by
 obtain⟨b1,b2,b3,b4,b5,b6,b7⟩:=Ax hnp hks h
 have none:∀ p,p<8→yy js ks ps M nj np p=false:=by
  intro p hp
  cases c:yy js ks ps M nj np p with
  | false=>rfl
  | true=>
   exfalso
   obtain⟨c1,c2⟩:=Py.1 c
   have hpn:p<np:=by
    refine Classical.byContradiction fun hno=>c1 ?_
    rw[← b3]
    exact Bx b2 (by omega) hp
   have hB:(M.take np).getD p 0=M.getD p 0:=KQ hpn
   have hlen:p<(M.take np).length:=by omega
   have hpos:0≤(M.take np).getD p 0:=by
    have:=(laid_range b4 p hpn).1
    omega
   have ok:nY js ks ((M.take np).set p (-1)) nj np nk:=fun q hq=>by
    rw[RV hlen]
    by_cases e:q=p
    ·rw[if_pos e]; exact .inl rfl
    ·rw[if_neg e]; exact b4 q hq
   have hR:pz js ks ps (fq ((M.take np).set p (-1)) np) nj np:=by
    rw[laidL_set b2 hpn,b3]
    exact c2
   have hn:=nestsR_less hlen hpos hpn
   rcases b7 _ (by simpa using b2) ok hR with e | e | e
   ·rw[← e] at hn; omega
   ·omega
   ·omega
 have:∀ i,i≤8→rk (yy js ks ps M nj np) i=[]:=by
  intro i
  induction i with
  | zero=>intro _; rfl
  | succ i ih=>
   intro hi
   rw[Kx,ih (by omega),none i (by omega)]
   rfl
 exact this 8 (Nat.le_refl _)
def PL (ps js ks:List Int) (nj np nk len:Nat) (xs:List Int) (a:Int):Prop:=iY np nj nk len ps js ks xs=0∧pz js ks ps (fq xs np) nj np∧cntI (fq xs np) 8≤a
theorem placed_of {np nj nk:Nat} {ps js ks B:List Int} (hF:dj np nj nk ps js ks=0) (h:nY js ks B nj np nk):iY np nj nk np ps js ks B=0:=by
 unfold iY
 rw[if_neg (by omega),if_pos ⟨rfl,h⟩]
theorem placed_ok {np nj nk nl:Nat} {ps js ks ls:List Int} (h:iY np nj nk nl ps js ks ls=0):nl=np∧nY js ks ls nj np nk:=by
 unfold iY at h
 by_cases c1:dj np nj nk ps js ks≠0
 ·rw[if_pos c1] at h; exact absurd h c1
 ·rw[if_neg c1] at h
  by_cases c2:nl=np∧nY js ks ls nj np nk
  ·exact c2
  ·rw[if_neg c2] at h; omega
theorem less_not {a b:List Int} {np:Nat} (h:a=b∨Ow a b np):¬ Ow b a np:=by
 rintro(c | ⟨c,d⟩)
 ·rcases h with rfl | h | ⟨h,_⟩ <;> omega
 ·rcases h with rfl | h | ⟨h,e⟩
  ·obtain⟨q,_,_,q3,_⟩:=d; omega
  ·omega
  ·obtain⟨q,q1,q2,q3,q4⟩:=d
   obtain⟨r,r1,r2,r3,r4⟩:=e
   rcases Nat.lt_trichotomy q r with z | z | z
   ·have:=r4 q q1 z; omega
   ·subst z; omega
   ·have:=q4 r r1 z; omega
end Go.Proofs.Ytekajfobmnedjaa.spec
end
section
namespace Go.Proofs.Ytekajfobmnedjaa.spec
open Go Go.Ev Go.Proofs.Ytekajfobmnedjaa.nestFits Go.Proofs.Ytekajfobmnedjaa.G
set_option maxRecDepth 100000
variable {ρ:Type}
theorem zero105s:iZ P 105=some (.pointer none):=by kernel_rfl
theorem sz105s:szT P 105=some 1:=by kernel_rfl
theorem zero44s:iZ P 44=some (.slice none 0 0):=by kernel_rfl
theorem Spare_spec (l:Nat) {np nj nk nl:Nat} {ps js ks ls:List Int} {H:Hp} {n:Nat} {v w:Value} (hg:eY H n v np nj nk ps js ks) (hw:ListR H n w nl ls) (hnp:np≤1000) (hnj:nj≤1000) (hnk:nk≤1000) :
  (iY np nj nk nl ps js ks ls≠0→Ret ((cal (l+8)).call 47 [v,w] H n) n H (.tuple ⟨[.slice none 0 0,.int .i64 (iY np nj nk nl ps js ks ls)]⟩)) ∧
  (iY np nj nk nl ps js ks ls=0→∃ u H' n',(cal (l+8)).call 47 [v,w] H n=some (.tuple ⟨[u,.int .i64 0]⟩,H',n')∧n≤n'∧Keep n H H'∧ListR H' n' u (rk (yy js ks ps (fq ls np) nj np) 8).length (rk (yy js ks ps (fq ls np) nj np) 8)):=by
 have hg0:=hg
 obtain⟨x,y,z,rfl,h1,h2,h3⟩:=hg
 rw[call47,pre47,cY]
 simp only[bq,ptr]
 have hk:Keep n H (H.set n (some (.cells [x,y,z] 35 false none))):=(Keep.refl n H).set (Nat.le_refl _) _
 have hb:aZ (H.set n (some (.cells [x,y,z] 35 false none))) n 0 [x,y,z]:=aZ.new
 generalize H.set n (some (.cells [x,y,z] 35 false none))=H1 at hk hb ⊢
 have lg:ak P H1 35 ⟨n,0,none⟩=some (.agg ⟨[x,y,z]⟩):=cj (o:=0) (k:=0) hb Fy sz35 (by simp) (by simp [h1.hole.1,h2.hole.1,h3.hole.1])
 obtain⟨o1,o2⟩:=openLaid_spec l (hg0.keep hk (show n≤n+1 by omega)) (hw.keep hk (show n≤n+1 by omega)) hnp hnj hnk
 rw[aQ,aj,lg,aj,openLaid_call]
 have cells:∀(H2:Hp) (n2:Nat) (q:Option Addr) (L:List Int),L.length=8→∃ H3,Keep n2 H2 H3∧H3.get n2=some (.cells [.pointer q] 105 false none)∧H3.get (n2+1)=some (.cells (ints L) 121 false none) ∧
   ∀ k:Value→Value→Hp→Nat→Res,(cQ P 105 H2 n2 fun v6 H n=>cQ P 121 H n fun v7 H n=>aq (bx P 105 v6 (.pointer q) H) fun H=>aq (bx P 121 v7 (.agg ⟨ints L⟩) H) fun H=>k v6 v7 H n)=k (.pointer (some ⟨n2,0,none⟩)) (.pointer (some ⟨n2+1,0,none⟩)) H3 (n2+1+1):=by
  intro H2 n2 q L hL
  have lens:(ints L).length=8:=by rw[bj,hL]
  have e1:((H2.set n2 (some (.cells [.pointer none] 105 false none))).set (n2+1) (some (.cells (ints (List.replicate 8 0)) 121 false none))).get n2=some (.cells [.pointer none] 105 false none):=by rw[Tr.get_set,if_neg (by omega),Tr.get_set,if_pos rfl]
  have e2:((H2.set n2 (some (.cells [.pointer none] 105 false none))).set (n2+1) (some (.cells (ints (List.replicate 8 0)) 121 false none))).get (n2+1)=some (.cells (ints (List.replicate 8 0)) 121 false none):=by rw[Tr.get_set,if_pos rfl]
  have e3:Keep n2 H2 ((H2.set n2 (some (.cells [.pointer none] 105 false none))).set (n2+1) (some (.cells (ints (List.replicate 8 0)) 121 false none))):=((Keep.refl n2 H2).set (Nat.le_refl _) _).set (by omega) _
  have ha:∀ k:Value→Value→Hp→Nat→Res,(cQ P 105 H2 n2 fun v6 H n=>cQ P 121 H n fun v7 H n=>k v6 v7 H n)=k (.pointer (some ⟨n2,0,none⟩)) (.pointer (some ⟨n2+1,0,none⟩)) ((H2.set n2 (some (.cells [.pointer none] 105 false none))).set (n2+1) (some (.cells (ints (List.replicate 8 0)) 121 false none))) (n2+1+1):=by
   intro k
   rw[dV zero105s,dV wQ]
   rfl
  generalize (H2.set n2 (some (.cells [.pointer none] 105 false none))).set (n2+1) (some (.cells (ints (List.replicate 8 0)) 121 false none))=H3 at e1 e2 e3 ha
  have s1:=dZ (vs:=[.pointer q]) e1 rfl rfl
  have f2:(H3.set n2 (some (.cells [.pointer q] 105 false none))).get (n2+1)=some (.cells (ints (List.replicate 8 0)) 121 false none):=by rw[Tr.get_set,if_neg (by omega)]; exact e2
  have s2:=dZ (vs:=ints L) f2 (by rw[lens]; rfl) (eV _)
  refine⟨_,(e3.set (Nat.le_refl _) (some (.cells [.pointer q] 105 false none))).set (show n2≤n2+1 by omega) (some (.cells (ints L) 121 false none)),by rw[Tr.get_set,if_neg (by omega),Tr.get_set,if_pos rfl],by rw[Tr.get_set,if_pos rfl],fun k=>?_⟩
  rw[ha,gX sz105s rfl,s1,aj,jX kK lens,s2,aj]
 constructor
 ·intro hne
  obtain⟨H2,n2,e1,e2,e3⟩:=o1 hne
  have t0:tupV (.tuple ⟨[.pointer none,.agg ⟨ints (List.replicate 8 0)⟩,.int .i64 (iY np nj nk nl ps js ks ls)]⟩) 0=some (.pointer none):=rfl
  have t1:tupV (.tuple ⟨[.pointer none,.agg ⟨ints (List.replicate 8 0)⟩,.int .i64 (iY np nj nk nl ps js ks ls)]⟩) 1=some (.agg ⟨ints (List.replicate 8 0)⟩):=rfl
  have t2:tupV (.tuple ⟨[.pointer none,.agg ⟨ints (List.replicate 8 0)⟩,.int .i64 (iY np nj nk nl ps js ks ls)]⟩) 2=some (.int .i64 (iY np nj nk nl ps js ks ls)):=rfl
  obtain⟨H3,k1,_,_,k4⟩:=cells H2 n2 none (List.replicate 8 0) rfl
  rw[e1,aj,t0,aj,t1,aj,t2,aj]
  dsimp only
  rw[k4,aJ gW,decide_eq_false hne,Bool.not_false,eZ]
  exact⟨H3,n2+1+1,rfl,by omega,(hk.trans e3 (by omega)).trans k1 (by omega)⟩
 ·intro he
  obtain⟨⟨g,x',y',z',f,H2,n2,e1,e2,e3,e4,e5,e6,e7,e8,e9⟩,hnl,hok,hft⟩:=o2 he
  simp only[Value.agg.injEq,Array.mk.injEq,List.cons.injEq,and_true] at e6
  obtain⟨rfl,rfl,rfl⟩:=e6
  have good:=nJ hft
  subst hnl
  have np8:=good.np8
  have nk3:=good.nk3
  have l8:=Bw hw.1 good.np8
  generalize hLL:fq ls nl=L at *
  have hK:nQ L nl nk:=by rw[← hLL]; exact laid_kinds hw.1 hok
  have lens:(ints L).length=8:=by rw[bj,l8]
  have t0:tupV (.tuple ⟨[.pointer (some ⟨g,0,none⟩),.agg ⟨ints L⟩,.int .i64 0]⟩) 0=some (.pointer (some ⟨g,0,none⟩)):=rfl
  have t1:tupV (.tuple ⟨[.pointer (some ⟨g,0,none⟩),.agg ⟨ints L⟩,.int .i64 0]⟩) 1=some (.agg ⟨ints L⟩):=rfl
  have t2:tupV (.tuple ⟨[.pointer (some ⟨g,0,none⟩),.agg ⟨ints L⟩,.int .i64 0]⟩) 2=some (.int .i64 0):=rfl
  have d0:decide ((0:Int)=0)=true:=rfl
  obtain⟨H3,k1,k2,k3,k4⟩:=cells H2 n2 (some ⟨g,0,none⟩) L l8
  rw[e1,aj,t0,aj,t1,aj,t2,aj]
  dsimp only
  rw[k4,aJ gW,d0,Bool.not_true,dX,dV zero44s]
  simp only[bq,ptr]
  have p6:(H3.set (n2+1+1) (some (.cells [.slice none 0 0] 44 false none))).get n2=some (.cells [.pointer (some ⟨g,0,none⟩)] 105 false none):=by rw[Tr.get_set,if_neg (by omega)]; exact k2
  have p7:(H3.set (n2+1+1) (some (.cells [.slice none 0 0] 44 false none))).get (n2+1)=some (.cells (ints L) 121 false none):=by rw[Tr.get_set,if_neg (by omega)]; exact k3
  have p9:(H3.set (n2+1+1) (some (.cells [.slice none 0 0] 44 false none))).get (n2+1+1)=some (.cells [.slice none 0 0] 44 false none):=by rw[Tr.get_set,if_pos rfl]
  have kk:Keep n2 H2 (H3.set (n2+1+1) (some (.cells [.slice none 0 0] 44 false none))):=k1.set (by omega) _
  generalize H3.set (n2+1+1) (some (.cells [.slice none 0 0] 44 false none))=H4 at p6 p7 p9 kk ⊢
  have l6:ak P H4 105 ⟨n2,0,none⟩=some (.pointer (some ⟨g,0,none⟩)):=bw (o:=0) (k:=0) (ej p6) pK rfl rfl rfl
  rw[aQ,aj,l6,aj,aQ,aj,bZ p7 nX kK lens,aj,Kq (l+6),range47]
  generalize hH5:(H4.set (n2+1+1+1) (some (.cells [.pointer (some ⟨g,0,none⟩)] 105 false none))).set (n2+1+1+1+1) (some (.cells (ints L) 121 false none))=H5
  have q1:∀ b,b<n2+1+1+1→H5.get b=H4.get b:=fun b hb=>by rw[← hH5,Tr.get_set,if_neg (by omega),Tr.get_set,if_neg (by omega)]
  have q3:H5.get (n2+1+1+1)=some (.cells [.pointer (some ⟨g,0,none⟩)] 105 false none):=by rw[← hH5,Tr.get_set,if_neg (by omega),Tr.get_set,if_pos rfl]
  have q4:H5.get (n2+1+1+1+1)=some (.cells (ints L) 121 false none):=by rw[← hH5,Tr.get_set,if_pos rfl]
  clear hH5
  generalize hT:T47 (.agg ⟨[x,y,z]⟩) w (.pointer (some ⟨n,0,none⟩)) (.agg ⟨[x,y,z]⟩) (.tuple ⟨[.pointer (some ⟨g,0,none⟩),.agg ⟨ints L⟩,.int .i64 0]⟩) (.pointer (some ⟨g,0,none⟩)) (.agg ⟨ints L⟩) (.int .i64 0) (.pointer (some ⟨n2,0,none⟩)) (.pointer (some ⟨n2+1,0,none⟩)) (.bool false) (.pointer (some ⟨n2+1+1,0,none⟩)) (.pointer (some ⟨g,0,none⟩)) (.agg ⟨ints L⟩) (.func (.func 104) ⟨[]⟩ ⟨[.pointer (some ⟨n2+1+1+1+1,0,none⟩),.pointer (some ⟨n2+1+1+1,0,none⟩)]⟩)=T
  have hc104:∀(a b c:Value) (H:Hp) (n:Nat) (k:Value→Hp→Nat→Res),bz b=false→aW P (cal (l+7)) 104 [a,b,c] H n k=aq (zk (cal (l+6)) KK a b c H n) fun r=>k r.1 r.2.1 r.2.2:=by
   intro a b c H n k hb
   unfold aW
   have:(fj P 104 && bY [a,b,c])=false:=by simp [bY,hb]
   rw[this,call104]
  rw[hc104 _ _ _ _ _ _ rfl]
  generalize hH6:(H5.set (n2+1+1+1+2) (some .deferred)).set (n2+1+1+1+2+1) (some (.loop .ready none 47 T (ntm P 47) #[25,26] tY tZ (n2+1+1+1+2)))=H6
  have r1:∀ b,b<n2+1+1+1+2→H6.get b=H5.get b:=fun b hb=>by rw[← hH6,Tr.get_set,if_neg (by omega),Tr.get_set,if_neg (by omega)]
  have r2:H6.get (n2+1+1+1+2)=some .deferred:=by rw[← hH6,Tr.get_set,if_neg (by omega),Tr.get_set,if_pos rfl]
  have r3:H6.get (n2+1+1+1+2+1)=some (.loop .ready none 47 T (ntm P 47) #[25,26] tY tZ (n2+1+1+1+2)):=by rw[← hH6,Tr.get_set,if_pos rfl]
  clear hH6
  have low:∀ b,b<n2→H6.get b=H2.get b:=fun b hb=>by rw[r1 _ (by omega),q1 _ (by omega),kk _ hb]
  have l104:ak P H6 121 ⟨n2+1+1+1+1,0,none⟩=some (.agg ⟨ints L⟩):=bZ (by rw[r1 _ (by omega)]; exact q4) nX kK lens
  have hx6:cV H6 (n+1) 2 x nl ps:=(h1.keep (fun b hb=>by rw[low b (by omega),e3 b (by omega),hk b hb]) (Nat.le_refl _)).up (by omega)
  have hf6:bV H6 g 859 117 f:=by
   obtain⟨c,a1,a2,a3⟩:=e7
   exact⟨c,(low g e5).trans a1,a2,a3⟩
  generalize hsp:yy js ks ps L nj nl=sp
  obtain⟨H7,n7,i0,i1,i2,u,i3,i4,i5⟩:=Hw (cal (l+6)) KK (.func (.yield (n2+1+1+1+2+1)) #[] #[]) (n2+1+1+1) g nl nj nk js ks L l8 hK good.np8 good.nk3
   (fun i Hc nc=>n2+1+1+1+2+2≤nc∧Hc.get (n2+1+1+1+2+1)=some (.loop .ready none 47 T (ntm P 47) #[25,26] tY tZ (n2+1+1+1+2))∧∃ u,Hc.get (n2+1+1)=some (.cells [u] 44 false none)∧VecAt Hc (n2+1+1+1+2+2) nc 1 3 u (rk sp i).length (rk sp i)∧∀ b,b<n2+1+1+1+2+2→b≠n2+1+1+1+2+1→b≠n2+1+1→Hc.get b=H6.get b)
   (fun i Hc nc ⟨_,_,u,_,_,h⟩=>by
    refine⟨bw (o:=0) (k:=0) (ej (by rw[h _ (by omega) (by omega) (by omega),r1 _ (by omega)]; exact q3)) pK rfl rfl rfl,fun p kd hp hkd=>?_⟩
    have cg:bV Hc g 859 117 f:=by
     obtain⟨c,a1,a2,a3⟩:=hf6
     exact⟨c,by rw[h _ (by omega) (by omega) (by omega)]; exact a1,a2,a3⟩
    exact MV cg (e9 p kd hp hkd) (by omega) (by omega))
   (fun i Hc nc kd B ⟨j1,j2,u,j3,j4,j5⟩ hip hkd hLi hB=>by
    have hsm:=(listOf_small sp i (by omega)).1
    rw[← hT] at j2
    obtain⟨u',H',n',z1,z2,z3,z4,z5,z6⟩:=yield47 (ρ:=Value×Hp×Nat) (l+1) (n:=nc) (n0:=n+1) (ps:=ps) (js:=js) (ks:=ks) (np:=nl) (nj:=nj) (nk:=nk) (p:=i) (x:=x) (y:=y) (z:=z) (f:=f) (g:=g) (q0:=.agg ⟨ints (cq (ks.getD (kd * 5) 0) (shP js ks nj nl i kd) B)⟩) j2
     (by rw[j5 _ (by omega) (by omega) (by omega),r1 _ (by omega),q1 _ (by omega)]; exact p6) (by rw[j5 _ (by omega) (by omega) (by omega),r1 _ (by omega),q1 _ (by omega)]; exact p7) j3 j4 (by omega)
     (by
      obtain⟨c,a1,a2,a3⟩:=hf6
      exact⟨c,by rw[j5 _ (by omega) (by omega) (by omega)]; exact a1,a2,a3⟩) e8 e9 good.kinds good.np8 good.nk3 (hx6.keep (fun b hb=>j5 b (by omega) (by omega) (by omega)) (Nat.le_refl _)) l8 hK hip (by omega)
     j1 (by omega) (by omega) (by omega) (by omega) (by omega) (by omega) (by omega) (by omega) (by omega) (by omega)
    refine⟨H',n',z1,by omega,by rw[z3,j2,hT],u',z4,?_,fun b hb hb1 hb2=>(z6 b hb hb1 hb2).trans (j5 b hb hb1 hb2)⟩
    rw[hsp] at z5
    rw[Kx sp]
    by_cases c:sp i=true
    ·rw[if_pos c] at z5 ⊢
     rw[List.length_append]
     exact z5
    ·rw[if_neg c] at z5 ⊢
     rw[List.append_nil]
     exact z5)
   (fun i Hc nc ⟨j1,j2,u,j3,j4,j5⟩ hLi=>⟨j1,j2,u,j3,by
    have:¬ sp i=true:=by
     rw[← hsp,Py]
     exact fun h=>h.1 hLi
    rw[Kx sp,if_neg this,List.append_nil]
    exact j4,j5⟩)
   KK 0 H6 (n2+1+1+1+2+2) ⟨Nat.le_refl _,r3,.slice none 0 0,by rw[r1 _ (by omega),q1 _ (by omega)]; exact p9,⟨rfl,.inl ⟨rfl,rfl⟩⟩,fun _ _ _ _=>rfl⟩ (by omega) (by unfold KK; omega)
  have e3':zk (cal (l+6)) KK (.func (.yield (n2+1+1+1+2+1)) #[] #[]) (.pointer (some ⟨n2+1+1+1+1,0,none⟩)) (.pointer (some ⟨n2+1+1+1,0,none⟩)) H6 (n2+1+1+1+2+2)=some (.tuple ⟨[]⟩,H7,n7):=by
   unfold zk B104_0
   rw[aQ,aj,l104,aj]
   exact i0
  rw[e3',aj]
  have hout:fX (n2+1+1+1+2+1) { T:=T,H:=H7,n:=n7,D:=[n2+1+1+1+2] }=some (.norm,{ T:=T,H:=H7.set (n2+1+1+1+2+1) (some (.loop .exhausted none 47 T (ntm P 47) #[25,26] tY tZ (n2+1+1+1+2))),n:=n7,D:=[n2+1+1+1+2] }):=by
   unfold fX
   simp only[i2]
  rw[hout]
  show ∃ u H' n',K47 (cal (l+7)) KK T (H7.set (n2+1+1+1+2+1) (some (.loop .exhausted none 47 T (ntm P 47) #[25,26] tY tZ (n2+1+1+1+2)))) n7 [n2+1+1+1+2]=some (.tuple ⟨[u,.int .i64 0]⟩,H',n')∧n≤n'∧Keep n H H'∧ListR H' n' u (rk sp 8).length (rk sp 8)
  generalize hH8:H7.set (n2+1+1+1+2+1) (some (.loop .exhausted none 47 T (ntm P 47) #[25,26] tY tZ (n2+1+1+1+2)))=H8
  have o8:∀ b,b≠n2+1+1+1+2+1→H8.get b=H7.get b:=fun b hb=>by rw[← hH8,Tr.get_set,if_neg hb]
  clear hH8 hout
  have o9:=(o8 (n2+1+1) (by omega)).trans i3
  have l9:ak P H8 44 ⟨n2+1+1,0,none⟩=some u:=bw (o:=0) (k:=0) (ej o9) agg44 rfl i4.leaf.2.1 i4.leaf.2.2
  have ht:lk H8 [n2+1+1+1+2]=some (H8.set (n2+1+1+1+2) none):=by
   have:H8.get (n2+1+1+1+2)=some .deferred:=by rw[o8 _ (by omega),i5 _ (by omega) (by omega) (by omega)]; exact r2
   unfold lk
   simp only[this]
   rfl
  have hkeep:Keep n H (H8.set (n2+1+1+1+2) none):=fun b hb=>by
   rw[Tr.get_set,if_neg (by omega),o8 _ (by omega),i5 _ (by omega) (by omega) (by omega),low _ (by omega),e3 _ (by omega),hk _ hb]
  have hv9:VecAt (H8.set (n2+1+1+1+2) none) (n2+1+1+1+2+2) n7 1 3 u (rk sp 8).length (rk sp 8):=i4.same (Nat.le_refl _) fun b hb q=>by
   have:=(i4.low q).1
   rw[Tr.get_set,if_neg (by omega),o8 b (by omega)]
  rw[← hT,post47,aQ,aj,l9,aj,ht]
  refine⟨u,H8.set (n2+1+1+1+2) none,n7,?_,by omega,hkeep,VecAt.list hv9 (listOf_small sp 8 (by omega)).2⟩
  show(aq (resV P (((Tr.nil:Tm).set 5 (some (.int .i64 0))).set 4 (some u)) (H8.set (n2+1+1+1+2) none) yx) fun vs=>some (oneV vs,H8.set (n2+1+1+1+2) none,n7))=_
  rw[res47]
  rfl
theorem flat47:fj P 47=false:=by kernel_rfl
theorem Spare_call (c:Cal) (v w:Value) (H:Hp) (n:Nat) (k:Value→Hp→Nat→Option ρ):aW P c 47 [v,w] H n k=aq (c.call 47 [v,w] H n) fun r=>k r.1 r.2.1 r.2.2:=by
 unfold aW
 rw[flat47]
 rfl
end Go.Proofs.Ytekajfobmnedjaa.spec
end
section
namespace Go.Proofs.Ytekajfobmnedjaa.spec
open Go Go.Ev Go.Proofs.Ytekajfobmnedjaa.nestFits Go.Proofs.Ytekajfobmnedjaa.G
set_option maxRecDepth 100000
variable {ρ:Type}
end Go.Proofs.Ytekajfobmnedjaa.spec
end
section
namespace Go.Proofs.Ytekajfobmnedjaa.spec
open Go Go.Ev Go.Proofs.Ytekajfobmnedjaa.nestFits Go.Proofs.Ytekajfobmnedjaa.G
set_option maxRecDepth 100000
variable {ρ:Type}
noncomputable def T12 (c:Cal) (v_1 v1 v_19 v_1a v_1b v_1q v_23:Value) (H_5c:Hp) (n_5d:Nat):Res:=
binK P BinOp.neq 29 (Operand.tmp 74) (Operand.const (Value.int IntKind.i64 0)) v_1b (Value.int IntKind.i64 0) fun v_5i=>
ifK v_5i (
binK P BinOp.eql 29 (Operand.tmp 76) (Operand.const (Value.int IntKind.i64 10)) v_1b (Value.int IntKind.i64 10) fun v_5k=>
aV v_5k true (fun k_5m=>
k_5m v_1q H_5c n_5d) H_5c n_5d fun v_5n H_5o n_5p=>
aV v_5k true (fun k_5r=>
aq (cW P v_5n (Op.unary UnOp.not v_5n)) fun v_5v=>
k_5r v_5v H_5o n_5p) H_5o n_5p fun v_5s H_5t n_5u=>
aq (dv v_5k v_5s (Value.bool false)) fun v_5w=>
aV v_5w true (fun k_5y=>
aW P c 16 [] H_5t n_5u fun v_62 H_63 n_64=>
k_5y v_62 H_63 n_64) H_5t n_5u fun v_5z H_60 n_61=>
aq (dv v_5w v_5z (Value.bool false)) fun v_65=>
some (v_65,H_60,n_61)) (
aq (aX v_1) fun a_68=>aq (ak P H_5c 26 a_68) fun v_67=>
aW P c 18 [v_67] H_5c n_5d fun v_69 H_6a n_6b=>
aW P c 23 [v_19] H_6a n_6b fun v_6d H_6e n_6f=>
aW P c 47 [v_69,v_6d] H_6e n_6f fun v_6g H_6h n_6i=>
aq (tupV v_6g 0) fun v_6k=>
aq (tupV v_6g 1) fun v_6l=>
aq (aX v_1) fun a_6p=>aq (ak P H_6h 26 a_6p) fun v_6o=>
aW P c 58 [v_6o,v_19] H_6h n_6i fun v_6r H_6s n_6t=>
aq (cW P v_6r (Op.unary UnOp.not v_6r)) fun v_6u=>
aV v_6u false (fun k_6w=>
k_6w v_19 H_6s n_6t) H_6s n_6t fun v_6x H_6y n_6z=>
aV v_6u false (fun k_71=>
aW P c 45 [v_6x] H_6y n_6z fun v_75 H_76 n_77=>
k_71 v_75 H_76 n_77) H_6y n_6z fun v_72 H_73 n_74=>
aV v_6u false (fun k_78=>
k_78 v_1a H_73 n_74) H_73 n_74 fun v_79 H_7a n_7b=>
aV v_6u false (fun k_7d=>
binK P BinOp.neq 3 (Operand.tmp 99) (Operand.tmp 100) v_72 v_79 fun v_7h=>
k_7d v_7h H_7a n_7b) H_7a n_7b fun v_7e H_7f n_7g=>
aq (dv v_6u (Value.bool true) v_7e) fun v_7i=>
aV v_7i false (fun k_7k=>
aq (aX v_1) fun a_7p=>aq (ak P H_7f 26 a_7p) fun v_7o=>
k_7k v_7o H_7f n_7g) H_7f n_7g fun v_7l H_7m n_7n=>
aV v_7i false (fun k_7q=>
aW P c 18 [v_7l] H_7m n_7n fun v_7u H_7v n_7w=>
k_7q v_7u H_7v n_7w) H_7m n_7n fun v_7r H_7s n_7t=>
aV v_7i false (fun k_7x=>
k_7x v_19 H_7s n_7t) H_7s n_7t fun v_7y H_7z n_80=>
aV v_7i false (fun k_82=>
aW P c 23 [v_7y] H_7z n_80 fun v_86 H_87 n_88=>
k_82 v_86 H_87 n_88) H_7z n_80 fun v_83 H_84 n_85=>
aV v_7i false (fun k_89=>
k_89 v_1a H_84 n_85) H_84 n_85 fun v_8a H_8b n_8c=>
aV v_7i false (fun k_8e=>
aW P c 43 [v_7r,v_83,v_8a] H_8b n_8c fun v_8i H_8j n_8k=>
k_8e v_8i H_8j n_8k) H_8b n_8c fun v_8f H_8g n_8h=>
aV v_7i false (fun k_8l=>
aq (cW P v_8f (Op.unary UnOp.not v_8f)) fun v_8p=>
k_8l v_8p H_8g n_8h) H_8g n_8h fun v_8m H_8n n_8o=>
aq (dv v_7i (Value.bool true) v_8m) fun v_8q=>
aV v_8q false (fun k_8s=>
aq (aX v_1) fun a_8x=>aq (ak P H_8n 26 a_8x) fun v_8w=>
k_8s v_8w H_8n n_8o) H_8n n_8o fun v_8t H_8u n_8v=>
aV v_8q false (fun k_8y=>
aW P c 18 [v_8t] H_8u n_8v fun v_92 H_93 n_94=>
k_8y v_92 H_93 n_94) H_8u n_8v fun v_8z H_90 n_91=>
aV v_8q false (fun k_95=>
k_95 v_19 H_90 n_91) H_90 n_91 fun v_96 H_97 n_98=>
aV v_8q false (fun k_9a=>
aW P c 23 [v_96] H_97 n_98 fun v_9e H_9f n_9g=>
k_9a v_9e H_9f n_9g) H_97 n_98 fun v_9b H_9c n_9d=>
aV v_8q false (fun k_9h=>
k_9h v_1a H_9c n_9d) H_9c n_9d fun v_9i H_9j n_9k=>
aV v_8q false (fun k_9m=>
binK P BinOp.sub 3 (Operand.tmp 117) (Operand.const (Value.int IntKind.i64 1)) v_9i (Value.int IntKind.i64 1) fun v_9q=>
k_9m v_9q H_9j n_9k) H_9j n_9k fun v_9n H_9o n_9p=>
aV v_8q false (fun k_9r=>
aW P c 43 [v_8z,v_9b,v_9n] H_9o n_9p fun v_9v H_9w n_9x=>
k_9r v_9v H_9w n_9x) H_9o n_9p fun v_9s H_9t n_9u=>
aq (dv v_8q (Value.bool true) v_9s) fun v_9y=>
aV v_9y false (fun k_a0=>
k_a0 v_6l H_9t n_9u) H_9t n_9u fun v_a1 H_a2 n_a3=>
aV v_9y false (fun k_a5=>
binK P BinOp.neq 29 (Operand.tmp 122) (Operand.const (Value.int IntKind.i64 0)) v_a1 (Value.int IntKind.i64 0) fun v_a9=>
k_a5 v_a9 H_a2 n_a3) H_a2 n_a3 fun v_a6 H_a7 n_a8=>
aq (dv v_9y (Value.bool true) v_a6) fun v_aa=>
aV v_aa false (fun k_ac=>
k_ac v_6k H_a7 n_a8) H_a7 n_a8 fun v_ad H_ae n_af=>
aV v_aa false (fun k_ah=>
aq (lenV P 44 v_ad) fun v_al=>
k_ah v_al H_ae n_af) H_ae n_af fun v_ai H_aj n_ak=>
aV v_aa false (fun k_am=>
binK P BinOp.neq 3 (Operand.tmp 127) (Operand.const (Value.int IntKind.i64 0)) v_ai (Value.int IntKind.i64 0) fun v_aq=>
k_am v_aq H_aj n_ak) H_aj n_ak fun v_an H_ao n_ap=>
aq (dv v_aa (Value.bool true) v_an) fun v_ar=>
aV v_ar false (fun k_at=>
k_at v_1a H_ao n_ap) H_ao n_ap fun v_au H_av n_aw=>
aV v_ar false (fun k_ay=>
k_ay v_23 H_av n_aw) H_av n_aw fun v_az H_b0 n_b1=>
aV v_ar false (fun k_b3=>
aq (lenV P 44 v_az) fun v_b7=>
k_b3 v_b7 H_b0 n_b1) H_b0 n_b1 fun v_b4 H_b5 n_b6=>
aV v_ar false (fun k_b8=>
binK P BinOp.lss 3 (Operand.tmp 131) (Operand.tmp 133) v_au v_b4 fun v_bc=>
k_b8 v_bc H_b5 n_b6) H_b5 n_b6 fun v_b9 H_ba n_bb=>
aq (dv v_ar (Value.bool true) v_b9) fun v_bd=>
ifK v_bd (
some ((Value.bool false),H_ba,n_bb)) (
aq (cW P v_1q (Op.unary UnOp.not v_1q)) fun v_bg=>
aV v_bg false (fun k_bi=>
k_bi v1 H_ba n_bb) H_ba n_bb fun v_bj H_bk n_bl=>
aV v_bg false (fun k_bn=>
k_bn v_19 H_bk n_bl) H_bk n_bl fun v_bo H_bp n_bq=>
aV v_bg false (fun k_bs=>
aW P c 59 [v_bj,v_bo] H_bp n_bq fun v_bw H_bx n_by=>
k_bs v_bw H_bx n_by) H_bp n_bq fun v_bt H_bu n_bv=>
aV v_bg false (fun k_bz=>
aq (cW P v_bt (Op.unary UnOp.not v_bt)) fun v_c3=>
k_bz v_c3 H_bu n_bv) H_bu n_bv fun v_c0 H_c1 n_c2=>
aV v_bg false (fun k_c4=>
k_c4 v_c0 H_c1 n_c2) H_c1 n_c2 fun v_c5 H_c6 n_c7=>
aV v_c5 true (fun k_c9=>
k_c9 v1 H_c6 n_c7) H_c6 n_c7 fun v_ca H_cb n_cc=>
aV v_c5 true (fun k_ce=>
aW P c 45 [v_ca] H_cb n_cc fun v_ci H_cj n_ck=>
k_ce v_ci H_cj n_ck) H_cb n_cc fun v_cf H_cg n_ch=>
aV v_c5 true (fun k_cl=>
k_cl v_23 H_cg n_ch) H_cg n_ch fun v_cm H_cn n_co=>
aV v_c5 true (fun k_cq=>
aq (lenV P 44 v_cm) fun v_cu=>
k_cq v_cu H_cn n_co) H_cn n_co fun v_cr H_cs n_ct=>
aV v_c5 true (fun k_cv=>
binK P BinOp.geq 3 (Operand.tmp 145) (Operand.tmp 147) v_cf v_cr fun v_cz=>
k_cv v_cz H_cs n_ct) H_cs n_ct fun v_cw H_cx n_cy=>
aV v_bg false (fun k_d0=>
aq (dv v_c5 v_cw (Value.bool false)) fun v_d4=>
k_d0 v_d4 H_cx n_cy) H_cx n_cy fun v_d1 H_d2 n_d3=>
aq (dv v_bg (Value.bool true) v_d1) fun v_d5=>
aV v_d5 true (fun k_d7=>
aW P c 16 [] H_d2 n_d3 fun v_db H_dc n_dd=>
k_d7 v_db H_dc n_dd) H_d2 n_d3 fun v_d8 H_d9 n_da=>
aq (dv v_d5 v_d8 (Value.bool false)) fun v_de=>
some (v_de,H_d9,n_da)))
theorem fewer_tail (c:Cal) {np nj nk nl m:Nat} {ps js ks ls:List Int} {x y z w bv av:Value} {E cnt:Int} {is:Bool} {O:Option (List Int)} {A:List Nat}
  (Hawake:∀(H:Hp) (n:Nat) (k:Value→Hp→Nat→Res),aW P c 16 [] H n k=k (.bool true) H n)
  (Hgrove:∀(H:Hp) (n:Nat) (v:Value),GroveI H n v np nj nk ps js ks→∃ u H' n',(∀ k:Value→Hp→Nat→Res,aW P c 18 [v] H n k=k u H' n')∧n≤n'∧Keep n H H'∧eY H' n' u np nj nk ps js ks)
  (Hlist:∀(H:Hp) (n:Nat) (u:Value) (len:Nat) (xs:List Int),ListR H n u len xs→len≤100→∃ u' H' n',(∀ k:Value→Hp→Nat→Res,aW P c 23 [u] H n k=k u' H' n')∧n≤n'∧Keep n H H'∧ListR H' n' u' len xs)
  (HP:∀(H:Hp) (n:Nat) (v u:Value) (len:Nat) (xs:List Int) (a:Int),eY H n v np nj nk ps js ks→ListR H n u len xs→∃(r:Bool) (H':Hp) (n':Nat),(r=true↔PL ps js ks nj np nk len xs a)∧(∀ k:Value→Hp→Nat→Res,aW P c 43 [v,u,.int .i64 a] H n k=k (.bool r) H' n')∧n≤n'∧Keep n H H')
  (HS:∀ B,O=some B→∀(H:Hp) (n:Nat) (v u:Value),eY H n v np nj nk ps js ks→ListR H n u np B→∃ sv H' n',(∀ k:Value→Hp→Nat→Res,aW P c 47 [v,u] H n k=k (.tuple ⟨[sv,.int .i64 0]⟩) H' n')∧n≤n'∧Keep n H H'∧ListR H' n' sv 0 [])
  (HL:∀ B,O=some B→∀(H:Hp) (n:Nat) (v u:Value),GroveI H n v np nj nk ps js ks→ListR H n u np B→∃ H' n',(∀ k:Value→Hp→Nat→Res,aW P c 58 [v,u] H n k=k (.bool true) H' n')∧n≤n'∧Keep n H H')
  (HN:∀(H:Hp) (n:Nat) (u:Value) (len:Nat) (xs:List Int),ListR H n u len xs→len≤100→∃ H' n',(∀ k:Value→Hp→Nat→Res,aW P c 45 [u] H n k=k (.int .i64 (eW xs len)) H' n')∧n≤n'∧Keep n H H')
  (HLess:∀(H:Hp) (n:Nat) (u v:Value) (us bs:List Int),ListR H n u np us→ListR H n v np bs→∃(r:Bool) (H':Hp) (n':Nat),(r=true↔Ow us bs np)∧(∀ k:Value→Hp→Nat→Res,aW P c 59 [u,v] H n k=k (.bool r) H' n')∧n≤n'∧Keep n H H')
  (his:is=true↔PL ps js ks nj np nk nl ls nl) (hnp:np≤8) (hnl:nl≤100)
  (f3:O=none→E=10∧¬ PL ps js ks nj np nk nl ls nl)
  (f4:∀ B,O=some B→E=0∧cnt=eW B np∧PL ps js ks nj np nk np B cnt∧¬ PL ps js ks nj np nk np B (cnt-1)∧(A.length:Int)≤cnt∧cnt≤8∧(PL ps js ks nj np nk nl ls nl→nl=np∧¬ Ow ls B np∧(A.length:Int)≤eW ls nl))
  {H:Hp} {n:Nat} (hg:GroveI H n (.agg ⟨[x,y,z]⟩) np nj nk ps js ks) (hb:aZ H m 0 [x,y,z]) (hm:m<n) (hw:ListR H n w nl ls) (hbv:StB H n np bv O) (hav:ListR H n av A.length (mZ A)) :
  ∃ H' n',T12 c (.pointer (some ⟨m,0,none⟩)) w bv (.int .i64 cnt) (.int .i64 E) (.bool is) av H n=some (.bool true,H',n'):=by
 obtain⟨x',y',z',e',h1,h2,h3⟩:=hg.eq
 cases e'
 have ld:∀ H2,aZ H2 m 0 [x,y,z]→ak P H2 26 ⟨m,0,none⟩=some (.agg ⟨[x,y,z]⟩):=fun H2 h=>TQ h h1.hole.1 h2.hole.1 h3.hole.1
 unfold T12
 cases hO:O with
 | none=>
  obtain⟨rfl,hno⟩:=f3 hO
  have hf:is=false:=by
   cases is with
   | false=>rfl
   | true=>exact absurd (his.1 rfl) hno
  subst hf
  have d1:decide ((10:Int)=0)=false:=rfl
  have d2:decide ((10:Int)=10)=true:=rfl
  simp only[aJ gW,d1,Bool.not_false,eZ,aJ mw,d2,dQ,oZ,aj,dw,Hawake]
  exact⟨_,_,rfl⟩
 | some B=>
  obtain⟨rfl,hcnt,p1,p2,p3,p4,p5⟩:=f4 B hO
  rw[hO] at hbv
  have hbv:ListR H n bv np B:=hbv
  obtain⟨g1,H1,n1,a1,a2,a3,a4⟩:=Hgrove H n _ hg
  obtain⟨l1,H2,n2,b1,b2,b3,b4⟩:=Hlist H1 n1 bv np B (hbv.keep a3 a2) (by omega)
  obtain⟨sv,H3,n3,c1,c2,c3,c4⟩:=HS B hO H2 n2 g1 l1 (a4.keep b3 b2) b4
  have k3:Keep n H H3:=(a3.trans b3 a2).trans c3 (by omega)
  have hg3:=hg.keep k3 (show n≤n3 by omega)
  have hb3:=hb.keep k3 hm
  have hbv3:=hbv.keep k3 (show n≤n3 by omega)
  obtain⟨H4,n4,d1,d2,d3⟩:=HL B hO H3 n3 _ bv hg3 hbv3
  have k4:Keep n H H4:=k3.trans d3 (by omega)
  have hb4:=hb.keep k4 hm
  obtain⟨H5,n5,e1,e2,e3⟩:=HN H4 n4 bv np B (hbv.keep k4 (by omega)) (by omega)
  rw[← hcnt] at e1
  have k5:Keep n H H5:=k4.trans e3 (by omega)
  have hb5:=hb.keep k5 hm
  obtain⟨g2,H6,n6,i1,i2,i3,i4⟩:=Hgrove H5 n5 _ (hg.keep k5 (by omega))
  have k6:Keep n H H6:=k5.trans i3 (by omega)
  obtain⟨l2,H7,n7,j1,j2,j3,j4⟩:=Hlist H6 n6 bv np B (hbv.keep k6 (by omega)) (by omega)
  obtain⟨r1,H8,n8,m0,m1,m2,m3⟩:=HP H7 n7 g2 l2 np B cnt (i4.keep j3 j2) j4
  have hr1:r1=true:=m0.2 p1
  subst hr1
  have k8:Keep n H H8:=(k6.trans j3 (by omega)).trans m3 (by omega)
  have hb8:=hb.keep k8 hm
  obtain⟨g3,H9,n9,o1,o2,o3,o4⟩:=Hgrove H8 n8 _ (hg.keep k8 (by omega))
  have k9:Keep n H H9:=k8.trans o3 (by omega)
  obtain⟨l3,H10,n10,q1,q2,q3,q4⟩:=Hlist H9 n9 bv np B (hbv.keep k9 (by omega)) (by omega)
  obtain⟨r2,H11,n11,s0,s1,s2,s3⟩:=HP H10 n10 g3 l3 np B (cnt-1) (o4.keep q3 q2) q4
  have hr2:r2=false:=by
   cases r2 with
   | false=>rfl
   | true=>exact absurd (s0.1 rfl) p2
  subst hr2
  have k11:Keep n H H11:=(k9.trans q3 (by omega)).trans s3 (by omega)
  have hsv:lenV P 44 sv=some (.int .i64 0):=c4.len_eq
  have hlav:lenV P 44 av=some (.int .i64 A.length):=hav.len_eq
  have t0:tupV (.tuple ⟨[sv,.int .i64 0]⟩) 0=some sv:=rfl
  have t1:tupV (.tuple ⟨[sv,.int .i64 0]⟩) 1=some (.int .i64 0):=rfl
  have d0:decide ((0:Int)=0)=true:=rfl
  have dc:decide (cnt=cnt)=true:=decide_eq_true rfl
  have hI:I64 (cnt-1):=by unfold I64; omega
  have dl:decide (cnt<(A.length:Int))=false:=decide_eq_false (by omega)
  rw[aJ gW,d0,Bool.not_true,dX]
  simp only[aQ,aj,ld H hb,a1,b1,c1,t0,t1,ld H3 hb3,d1,mQ,iJ,e1,aJ gW,dc,decide_true,Bool.not_true,cK,ld H5 hb5,i1,j1,m1,ld H8 hb8,o1,q1,aJ (zV hI),s1,aJ gW,d0,hsv,hlav,aJ cX,dl,dX]
  cases is with
  | false=>
   simp only[oZ,aj,kX,eX,dw,dQ,Hawake]
   exact⟨_,_,rfl⟩
  | true=>
   obtain⟨w1,w2,w3⟩:=p5 (his.1 rfl)
   subst w1
   obtain⟨r3,H12,n12,u0,u1,u2,u3⟩:=HLess H11 n11 w bv ls B (hw.keep k11 (by omega)) (hbv.keep k11 (by omega))
   have hr3:r3=false:=by
    cases r3 with
    | false=>rfl
    | true=>exact absurd (u0.1 rfl) w2
   subst hr3
   have k12:Keep n H H12:=k11.trans u3 (by omega)
   obtain⟨H13,n13,v1,v2,v3⟩:=HN H12 n12 w nl ls (hw.keep k12 (by omega)) (by omega)
   have dg:decide ((A.length:Int)≤eW ls nl)=true:=decide_eq_true w3
   simp only[mQ,oZ,aj,iJ,dQ,u1,v1,hlav,aJ Dv,dg,dw,cK,Hawake]
   exact⟨_,_,rfl⟩
end Go.Proofs.Ytekajfobmnedjaa.spec
end
section
namespace Go.Proofs.Ytekajfobmnedjaa.spec
open Go Go.Ev Go.Proofs.Ytekajfobmnedjaa.nestFits Go.Proofs.Ytekajfobmnedjaa.G
set_option maxRecDepth 100000
variable {ρ:Type}
theorem fewer_core (c:Cal) {np nj nk nl bits:Nat} {ps js ks ls:List Int} {w:Value} {F E cnt:Int} {O:Option (List Int)} {A:List Nat}
  (Hawake:∀(H:Hp) (n:Nat) (k:Value→Hp→Nat→Res),aW P c 16 [] H n k=k (.bool true) H n)
  (Hthin:∀(H:Hp) (n:Nat) (v:Value),GroveI H n v np nj nk ps js ks→ListR H n w nl ls→∃(r:Bool) (H':Hp) (n':Nat),(r=true↔thin np nj nk nl)∧(∀ k:Value→Hp→Nat→Res,aW P c 15 [v,w] H n k=k (.bool r) H' n')∧n≤n'∧Keep n H H')
  (Hfault:∀(H:Hp) (n:Nat) (v:Value),GroveI H n v np nj nk ps js ks→∃ H' n',(∀ k:Value→Hp→Nat→Res,aW P c 20 [v] H n k=k (.int .i64 F) H' n')∧n≤n'∧Keep n H H')
  (Hgrove:thin np nj nk nl→∀(H:Hp) (n:Nat) (v:Value),GroveI H n v np nj nk ps js ks→∃ u H' n',(∀ k:Value→Hp→Nat→Res,aW P c 18 [v] H n k=k u H' n')∧n≤n'∧Keep n H H'∧eY H' n' u np nj nk ps js ks)
  (Hlist:∀(H:Hp) (n:Nat) (u:Value) (len:Nat) (xs:List Int),ListR H n u len xs→len≤100→∃ u' H' n',(∀ k:Value→Hp→Nat→Res,aW P c 23 [u] H n k=k u' H' n')∧n≤n'∧Keep n H H'∧ListR H' n' u' len xs)
  (HB:F=0→∀(H:Hp) (n:Nat) (v:Value),eY H n v np nj nk ps js ks→∃(u:Value) (H':Hp) (n':Nat),(∀ k:Value→Hp→Nat→Res,aW P c 42 [v] H n k=k (.tuple ⟨[u,.int .i64 cnt,.int .i64 E]⟩) H' n')∧n≤n'∧Keep n H H'∧StB H' n' np u O)
  (HP:F=0→∀(H:Hp) (n:Nat) (v u:Value) (len:Nat) (xs:List Int) (a:Int),eY H n v np nj nk ps js ks→ListR H n u len xs→∃(r:Bool) (H':Hp) (n':Nat),(r=true↔PL ps js ks nj np nk len xs a)∧(∀ k:Value→Hp→Nat→Res,aW P c 43 [v,u,.int .i64 a] H n k=k (.bool r) H' n')∧n≤n'∧Keep n H H')
  (HA:F=0→∀(H:Hp) (n:Nat) (v:Value),eY H n v np nj nk ps js ks→∃(u:Value) (H':Hp) (n':Nat),(∀ k:Value→Hp→Nat→Res,aW P c 48 [v] H n k=k (.tuple ⟨[u,.int .i64 0]⟩) H' n')∧n≤n'∧Keep n H H'∧ListR H' n' u A.length (mZ A))
  (HBits:∀(H:Hp) (n:Nat),∃ u H' n',∃ L:List Nat,(∀ k:Value→Hp→Nat→Res,aW P c 57 [.int .i64 ((bits % 256:Nat):Int)] H n k=k u H' n')∧n≤n'∧Keep n H H'∧L.length≤100∧ListR H' n' u L.length (mZ L))
  (HPA:F=0→∀(H:Hp) (n:Nat) (v u:Value) (len:Nat) (xs:List Int),eY H n v np nj nk ps js ks→ListR H n u len xs→len≤100→∃(r:Bool) (H':Hp) (n':Nat),(r=true↔MY js ps nj np xs)∧(∀ k:Value→Hp→Nat→Res,aW P c 49 [v,u] H n k=k (.bool r) H' n')∧n≤n'∧Keep n H H')
  (HS:F=0→∀ B,O=some B→∀(H:Hp) (n:Nat) (v u:Value),eY H n v np nj nk ps js ks→ListR H n u np B→∃ sv H' n',(∀ k:Value→Hp→Nat→Res,aW P c 47 [v,u] H n k=k (.tuple ⟨[sv,.int .i64 0]⟩) H' n')∧n≤n'∧Keep n H H'∧ListR H' n' sv 0 [])
  (HL:F=0→∀ B,O=some B→∀(H:Hp) (n:Nat) (v u:Value),GroveI H n v np nj nk ps js ks→ListR H n u np B→∃ H' n',(∀ k:Value→Hp→Nat→Res,aW P c 58 [v,u] H n k=k (.bool true) H' n')∧n≤n'∧Keep n H H')
  (HN:∀(H:Hp) (n:Nat) (u:Value) (len:Nat) (xs:List Int),ListR H n u len xs→len≤100→∃ H' n',(∀ k:Value→Hp→Nat→Res,aW P c 45 [u] H n k=k (.int .i64 (eW xs len)) H' n')∧n≤n'∧Keep n H H')
  (HLess:F=0→∀(H:Hp) (n:Nat) (u v:Value) (us bs:List Int),ListR H n u np us→ListR H n v np bs→∃(r:Bool) (H':Hp) (n':Nat),(r=true↔Ow us bs np)∧(∀ k:Value→Hp→Nat→Res,aW P c 59 [u,v] H n k=k (.bool r) H' n')∧n≤n'∧Keep n H H')
  (hnp:F=0→np≤8) (hA:F=0→A.length≤100) (f1:F=0→MY js ps nj np (mZ A)) (f2:F=0→∀ L:List Nat,MY js ps nj np (mZ L)→L.length≤A.length)
  (f3:F=0→O=none→E=10∧¬ PL ps js ks nj np nk nl ls nl)
  (f4:F=0→∀ B,O=some B→E=0∧cnt=eW B np∧PL ps js ks nj np nk np B cnt∧¬ PL ps js ks nj np nk np B (cnt-1)∧(A.length:Int)≤cnt∧cnt≤8∧(PL ps js ks nj np nk nl ls nl→nl=np∧¬ Ow ls B np∧(A.length:Int)≤eW ls nl))
  (hbits:bits<65536) {H:Hp} {n:Nat} {v:Value} (hg:GroveI H n v np nj nk ps js ks) (hw:ListR H n w nl ls):∃ H' n',B12_0 c KK v w (.int .u16 (bits:Int)) H n=some (.bool true,H',n'):=by
 have hg0:=hg
 obtain⟨x,y,z,rfl,h1,h2,h3⟩:=hg.eq
 unfold B12_0
 rw[cY]
 simp only[bq,ptr]
 have hk:Keep n H (H.set n (some (.cells [x,y,z] 26 false none))):=(Keep.refl n H).set (Nat.le_refl _) _
 have hb:aZ (H.set n (some (.cells [x,y,z] 26 false none))) n 0 [x,y,z]:=aZ.new
 generalize H.set n (some (.cells [x,y,z] 26 false none))=H1 at hk hb ⊢
 have ld:∀ H2,aZ H2 n 0 [x,y,z]→ak P H2 26 ⟨n,0,none⟩=some (.agg ⟨[x,y,z]⟩):=fun H2 h=>TQ h h1.hole.1 h2.hole.1 h3.hole.1
 have hg1:GroveI H1 (n+1) (.agg ⟨[x,y,z]⟩) np nj nk ps js ks:=hg0.keep hk (by omega)
 have hw1:ListR H1 (n+1) w nl ls:=hw.keep hk (by omega)
 obtain⟨t,H2,n2,t1,t2,t3,t4⟩:=Hthin H1 (n+1) _ hg1 hw1
 rw[aQ,aj,ld H1 hb,aj,t2]
 cases t with
 | false=>
  simp only[oZ,aj,kX,eX,dw,eZ,Hawake]
  exact⟨_,_,rfl⟩
 | true=>
  have ht:=t1.1 rfl
  have hnl:nl≤100:=by have:=ht.2.2.2; omega
  have hb2:=hb.keep t4 (by omega)
  have hg2:=hg1.keep t4 t3
  have hw2:=hw1.keep t4 t3
  obtain⟨H3,n3,a1,a2,a3⟩:=Hfault H2 n2 _ hg2
  have hb3:=hb2.keep a3 (by omega)
  have hg3:=hg2.keep a3 a2
  have hw3:=hw2.keep a3 a2
  by_cases he:F=0
  ·have hF:decide (F=0)=true:=decide_eq_true he
   simp only[mQ,aj,iJ,ld H2 hb2,a1,aJ gW,hF,Bool.not_true,cK,dX]
   obtain⟨gv,H4,n4,b1,b2,b3,b4⟩:=Hgrove ht H3 n3 _ hg3
   obtain⟨bv,H5,n5,c1,c2,c3,c4⟩:=HB he H4 n4 gv b4
   have k5:Keep n3 H3 H5:=b3.trans c3 b2
   have u0:tupV (.tuple ⟨[bv,.int .i64 cnt,.int .i64 E]⟩) 0=some bv:=rfl
   have u1:tupV (.tuple ⟨[bv,.int .i64 cnt,.int .i64 E]⟩) 1=some (.int .i64 cnt):=rfl
   have u2:tupV (.tuple ⟨[bv,.int .i64 cnt,.int .i64 E]⟩) 2=some (.int .i64 E):=rfl
   have hb5:=hb3.keep k5 (show n<n3 by omega)
   obtain⟨gw,H6,n6,d1,d2,d3,d4⟩:=Hgrove ht H5 n5 _ (hg3.keep k5 (by omega))
   have k6:Keep n3 H3 H6:=k5.trans d3 (by omega)
   obtain⟨lv,H7,n7,e1,e2,e3,e4⟩:=Hlist H6 n6 w nl ls (hw3.keep k6 (by omega)) hnl
   obtain⟨is,H8,n8,g0,g1,g2,g3⟩:=HP he H7 n7 gw lv nl ls nl (d4.keep e3 e2) e4
   have k8:Keep n3 H3 H8:=(k6.trans e3 (by omega)).trans g3 (by omega)
   have hb8:=hb3.keep k8 (show n<n3 by omega)
   obtain⟨ga,H9,n9,i1,i2,i3,i4⟩:=Hgrove ht H8 n8 _ (hg3.keep k8 (by omega))
   obtain⟨av,H10,n10,j1,j2,j3,j4⟩:=HA he H9 n9 ga i4
   obtain⟨pv,H11,n11,L,m1,m2,m3,m4,m5⟩:=HBits H10 n10
   have k11:Keep n3 H3 H11:=((k8.trans i3 (by omega)).trans j3 (by omega)).trans m3 (by omega)
   have hb11:=hb3.keep k11 (show n<n3 by omega)
   have hav11:=j4.keep m3 m2
   obtain⟨gb,H12,n12,o1,o2,o3,o4⟩:=Hgrove ht H11 n11 _ (hg3.keep k11 (by omega))
   obtain⟨av2,H13,n13,p1,p2,p3,p4⟩:=Hlist H12 n12 av A.length (mZ A) (hav11.keep o3 o2) (hA he)
   obtain⟨r1,H14,n14,q0,q1,q2,q3⟩:=HPA he H13 n13 gb av2 A.length (mZ A) (o4.keep p3 p2) p4 (hA he)
   have hr1:r1=true:=q0.2 (f1 he)
   subst hr1
   have k14:Keep n3 H3 H14:=((k11.trans o3 (by omega)).trans p3 (by omega)).trans q3 (by omega)
   have l14:Keep n11 H11 H14:=(o3.trans p3 (by omega)).trans q3 (by omega)
   have hb14:=hb3.keep k14 (show n<n3 by omega)
   obtain⟨gc,H15,n15,r1,r2,r3,r4⟩:=Hgrove ht H14 n14 _ (hg3.keep k14 (by omega))
   have l15:Keep n11 H11 H15:=l14.trans r3 (by omega)
   obtain⟨pv2,H16,n16,s1,s2,s3,s4⟩:=Hlist H15 n15 pv L.length (mZ L) (m5.keep l15 (by omega)) m4
   obtain⟨pa,H17,n17,v0,v1,v2,v3⟩:=HPA he H16 n16 gc pv2 L.length (mZ L) (r4.keep s3 s2) s4 m4
   have l17:Keep n11 H11 H17:=(l15.trans s3 (by omega)).trans v3 (by omega)
   have k17:Keep n3 H3 H17:=((k14.trans r3 (by omega)).trans s3 (by omega)).trans v3 (by omega)
   have s5:Keep n5 H5 H17:=(((((d3.trans e3 d2).trans g3 (by omega)).trans i3 (by omega)).trans j3 (by omega)).trans m3 (by omega)).trans l17 (by omega)
   have hrem:((bits:Int)).tmod ((256:Nat):Int)=((bits % 256:Nat):Int):=rem_small (by omega)
   have hrem':binV P .rem 3 (.tmp 47) (.const (.int .i64 256)) (.int .i64 (bits:Int)) (.int .i64 256)=some (.int .i64 ((bits % 256:Nat):Int)):=by
    rw[bin_rem (by omega)]
    exact congrArg (fun z=>some (Value.int .i64 z)) hrem
   have hlw:lenV P 44 w=some (.int .i64 nl):=hw.len_eq
   have hlav:lenV P 44 av=some (.int .i64 A.length):=j4.len_eq
   have hlpv:lenV P 44 pv=some (.int .i64 L.length):=m5.len_eq
   have w0:tupV (.tuple ⟨[av,.int .i64 0]⟩) 0=some av:=rfl
   have w1:tupV (.tuple ⟨[av,.int .i64 0]⟩) 1=some (.int .i64 0):=rfl
   have tail:∃ H' n',T12 c (.pointer (some ⟨n,0,none⟩)) w bv (.int .i64 cnt) (.int .i64 E) (.bool is) av H17 n17=some (.bool true,H',n'):=
    fewer_tail c Hawake (Hgrove ht) Hlist (HP he) (HS he) (HL he) HN (HLess he) g0 (hnp he) hnl (f3 he) (f4 he) (hg3.keep k17 (by omega)) (hb3.keep k17 (by omega)) (by omega) (hw3.keep k17 (by omega)) (c4.keep s5 (by omega)) (hav11.keep l17 (by omega))
   unfold T12 at tail
   simp only[aQ,aj,aJ gW] at tail
   simp only[aQ,aj,ld H3 hb3,b1,c1,u0,u1,u2,ld H5 hb5,d1,e1,hlw,g1,ld H8 hb8,i1,j1,w0,w1,conv97 (show I64 (bits:Int) by unfold I64; omega),aJ hrem',m1,aJ gW,decide_true,Bool.not_true,iJ,ld H11 hb11,o1,p1,q1,mQ,cK,ld H14 hb14,r1,s1,v1]
   cases pa with
   | false=>
    simp only[eK,eX,cK,aj,dX]
    exact tail
   | true=>
    have dg:decide ((A.length:Int)<(L.length:Int))=false:=decide_eq_false (by have:=f2 he L (v0.1 rfl); omega)
    simp only[dQ,hlpv,hlav,aj,aJ wk,dg,dw,dX]
    exact tail
  ·have hF:decide (F=0)=false:=decide_eq_false he
   simp only[mQ,aj,iJ,ld H2 hb2,a1,aJ gW,hF,Bool.not_false,cK,eZ,Hawake]
   exact⟨_,_,rfl⟩
end Go.Proofs.Ytekajfobmnedjaa.spec
end
section
namespace Go.Proofs.Ytekajfobmnedjaa.nestBounds
open Go.ChangeShapes Go.WideShapes Go.ChangeAt Go.RowKit Go.Ev Go.Proofs.Ytekajfobmnedjaa.nestFits
theorem flat3:NZ Try.prog 5 3=some 1:=by kernel_rfl
theorem bytes3:1≤Try.prog.bytesOf 3:=by decide +kernel
def Says (f:Nat):Prop:=∀(H:Hp) (n:Nat) (v w:Value) np nj nk ps js ks nl ls,GroveI H n v np nj nk ps js ks→spec.ListR H n w nl ls →
 ∃ l H' n',(calE G.P G.A (G.KK+1) G.tab.get l).call f [v,w] H n=some (.bool true,H',n')
set_option maxRecDepth 100000
theorem there {W:World} {base:Nat} {b o len cap:Nat} {H:Hp} (hH:∀ i,H.get i=BK W i) (hok:Cell.okWide Try.prog W .any base 44 (.slice (some ⟨b,o,none⟩) len cap)):∃ c,H.get b=some (.rows c):=by
 simp only[Cell.okWide,Try.underlying44,Cell.ok] at hok
 obtain⟨_,_,_,hsp,row,cells,hshape,_⟩:=hok
 rw[hH]
 unfold BK
 unfold World.shape? at hshape
 dsimp only at hshape
 cases hb:W.heap[b]? with
 | none=>rw[hb] at hshape; simp at hshape
 | some B=>
  rw[hb] at hshape
  cases B with
  | cells arr x y=>exact⟨_,rfl⟩
  | _=>simp at hshape
theorem list_in {W:World} {base n len:Nat} {w:Value} {xs:List Int} {H:Hp} (hH:∀ i,H.get i=BK W i) (hok:Cell.okWide Try.prog W .any base 44 w) (h:SliceI H n 1 w len xs):spec.ListR H n w len xs:=by
 obtain⟨h1,h2,h3⟩:=h
 refine⟨by omega,h2,?_⟩
 rcases h3 with h3 | ⟨b,o,cap,e,a1,a2,a3,a4⟩
 ·exact .inl h3
 ·refine .inr ⟨b,o,cap,e,a3,?_⟩
  rcases a4 with rfl | a4
  ·subst e
   obtain⟨c,hc⟩:=there hH hok
   have:xs=[]:=List.length_eq_zero_iff.1 (by omega)
   subst this
   exact⟨_,c,hc,rfl,fun k v h=>by simp [ints] at h⟩
  ·exact a4
theorem cells_one {W:World} {base:Nat} {w:Value} (hok:Cell.okWide Try.prog W .any base 44 w):w.cells.toList=[w]:=by
 cases w with
 | slice a l c=>rfl
 | _=>simp only[Cell.okWide,Try.underlying44,Cell.ok] at hok
end Go.Proofs.Ytekajfobmnedjaa.nestBounds
end
