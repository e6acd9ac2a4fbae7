/- Texts S20 to S72. -/
import Derived.Test.YtgojjellogiglaaB1
section
namespace Go.Proofs.Ytgojjellogiglaa.spec
open Go.Ev Go.Proofs.Ytgojjellogiglaa.nestFits Go.Proofs.Ytgojjellogiglaa.G
set_option maxRecDepth 100000
variable {ρ:Type}
noncomputable def ext (y:Int) (L:List Int) (e p:Nat):Int:=lim e (L.getD (p * 2+e) 0) (y-(kK L (1-e)-L.getD (p * 2+(1-e)) 0))
theorem VK (b o:Nat) {i:Nat} (hi:i<8):aY P 111 (.pointer (some ⟨b,o,none⟩)) (.int .i64 i)=some (.pointer (some ⟨b,o+i * 2,none⟩)):=by
  unfold aY
  have:qw (.int .i64 (i:Int)) 8=some i:=by
    show qw (.int .i64 (.ofNat i)) 8=some i
    simp [qw,hi]
  simp only[und111,this,sz53]
  rfl
theorem nest_share {y:Int} {L B:List Int} (hL:L.length=16) {i:Nat} (hi:i<8):((ints (bK y L B)).drop (1+i * 2)).take 2=((ints L).drop (i * 2)).take 2:=by
  rw[zV,zV]
  congr 1
  unfold bK
  rw[Nat.add_comm,List.drop_succ_cons,List.drop_append_of_le_length (by omega),List.take_append_of_le_length (by simp; omega)]
theorem total_range {L:List Int} (hb:pq L) (e:Nat):0≤kK L e∧kK L e≤8000:=by
  have:=Kq (f:=fun p=>L.getD (p * 2+e) 0) (c:=1000) (i:=8) (fun p _=>hb _)
  exact⟨this.1,by unfold kK; omega⟩
theorem row44 (x:Int):EW P 44 1 [(0,.int .i64 x)]=some ([.int .i64 x],3):=by kernel_rfl
theorem extreme_spec (l:Nat) {e:Nat} (he:e<2) {y:Int} {L B:List Int} (hL:L.length=16) (hB:B.length=16) (hb:pq L) (hy:0≤y∧y≤1000) {p:Nat} (hp:p<8) :
    ∃ H' n',Vy (cal (l+2)) KK (.agg ⟨ints (bK y L B)⟩) (.int .i64 p) (endV e) .nil 0=some (.int .i64 (ext y L e p),H',n'):=by
  unfold Vy B120_0
  simp only[cQ,bj,ptr,endV]
  have hg0:(((Tr.nil:Hp).set 0 (some (.cells (ints (bK y L B)) 113 false none))).set (0+1) (some (.cells [endF e,endF (1-e),Aq e] 179 false none))).get 0=some (.cells (ints (bK y L B)) 113 false none):=by rw[Tr.get_set,if_neg (by omega),Tr.get_set,if_pos rfl]
  have hg1:(((Tr.nil:Hp).set 0 (some (.cells (ints (bK y L B)) 113 false none))).set (0+1) (some (.cells [endF e,endF (1-e),Aq e] 179 false none))).get 1=some (.cells [endF e,endF (1-e),Aq e] 179 false none):=by rw[Tr.get_set,if_pos rfl]
  generalize ((Tr.nil:Hp).set 0 (some (.cells (ints (bK y L B)) 113 false none))).set (0+1) (some (.cells [endF e,endF (1-e),Aq e] 179 false none))=H1 at hg0 hg1 ⊢
  simp only[Nat.zero_add]
  have lens:(ints (bK y L B)).length=33:=by rw[aK,jx hL hB]
  have loads:∀ H:Hp,H.get 0=H1.get 0→H.get 1=H1.get 1 →
      az P H 113 ⟨0,0,none⟩=some (.agg ⟨ints (bK y L B)⟩)∧az P H 129 ⟨1,0+0,none⟩=some (endF e)∧az P H 129 ⟨1,0+1,none⟩=some (endF (1-e))∧az P H 160 ⟨1,0+2,none⟩=some (Aq e) ∧
      az P H 53 ⟨0,0+1+p * 2,none⟩=some (.agg ⟨((ints L).drop (p * 2)).take 2⟩)∧az P H 3 ⟨0,0+0,none⟩=some (.int .i64 y):=by
    intro H q0 q1
    have c0:aX H 0 0 (ints (bK y L B)):=fx (q0.trans hg0)
    have c1:aX H 1 0 [endF e,endF (1-e),Aq e]:=fx (q1.trans hg1)
    refine⟨bZ (q0.trans hg0) Ty IK lens,bq c1 agg129 rfl (Fq _).2.1 (Fq _).2.2.1,bq c1 agg129 rfl (Fq _).2.1 (Fq _).2.2.1,bq c1 agg160 rfl (Oz _).2.1 (Oz _).2.2.1,?_,bw c0 agg3 (by simp [ints,bK])⟩
    have:=bY (P:=P) (k:=1+p * 2) c0 VY sz53 (by rw[lens]; omega) (dY _)
    rw[nest_share hL hp,← Nat.add_assoc] at this
    exact this
  obtain⟨a0,a1,a2,a3,a4,a5⟩:=loads H1 rfl rfl
  have h1e:1-e<2:=by omega
  rw[aJ,aj,a0,aj,fa179_1,aj,aJ,aj,a2,aj,aj,aJ,aj,a2,aj,fa113_1,aj,VK 0 (0+1) hp,aj,aJ,aj,a4,aj]
  obtain⟨H2,s2,e2⟩:=uv (P:=P) (ρ:=Value × Hp × Nat) (ex:=[.l 53 ⟨0,0+1+p * 2,none⟩,.l 129 ⟨1,0+1,none⟩]) (H:=H1) (n:=1+1) (v:=.int .i64 (kK L (1-e)))
    (op:=fun H n k=>aV P (cal (l+2)) 98 [.agg ⟨ints (bK y L B)⟩,endF (1-e)] H n fun v H n=>k v H n)
    ⟨fun q hq=>.inl (by
      simp only[List.mem_cons,List.not_mem_nil,or_false] at hq
      rcases hq with rfl | rfl
      · exact⟨_,_,rfl,.inl ⟨_,_,_,_,hg0⟩⟩
      · exact⟨_,_,rfl,.inl ⟨_,_,_,_,hg1⟩⟩),fun t a id c e h1 h2=>by simp at h2⟩ (fun H k=>qcx l h1e hL hB hb H _ _)
  rw[e2,qcz (l+1) h1e L (p * 2) (by omega)]
  obtain⟨t0,t1⟩:=total_range hb (1-e)
  obtain⟨u0,u1⟩:=hb (p * 2+(1-e))
  have hI:I64 (kK L (1-e)-L.getD (p * 2+(1-e)) 0):=by unfold I64; omega
  have hI2:I64 (y-(kK L (1-e)-L.getD (p * 2+(1-e)) 0)):=by unfold I64; omega
  obtain⟨b0,b1,b2,b3,b4,b5⟩:=loads H2 (s2 0) (s2 1)
  rw[ak (wy hI),fa179_2,aj,aJ,aj,b3,aj,fa179_0,aj,aJ,aj,b1,aj,aj,VK 0 (0+1) hp,aj,aJ,aj,b4,aj,fa113_0,aj,aJ,aj,b5,aj,
    ak (wy hI2),row44,aj]
  unfold newK
  have hg0':(H2.set (1+1) (some (.cells [.int .i64 (y-(kK L (1-e)-L.getD (p * 2+(1-e)) 0))] 3 false none))).get 0=some (.cells (ints (bK y L B)) 113 false none):=by rw[Tr.get_set,if_neg (by omega),s2]; exact hg0
  have hg1':(H2.set (1+1) (some (.cells [.int .i64 (y-(kK L (1-e)-L.getD (p * 2+(1-e)) 0))] 3 false none))).get 1=some (.cells [endF e,endF (1-e),Aq e] 179 false none):=by rw[Tr.get_set,if_neg (by omega),s2]; exact hg1
  have hrow:aX (H2.set (1+1) (some (.cells [.int .i64 (y-(kK L (1-e)-L.getD (p * 2+(1-e)) 0))] 3 false none))) 2 0 [.int .i64 (y-(kK L (1-e)-L.getD (p * 2+(1-e)) 0))]:=aX.new
  obtain⟨H3,s3,e3⟩:=uv (P:=P) (ρ:=Value × Hp × Nat) (ex:=[.a (1+1) [.int .i64 (y-(kK L (1-e)-L.getD (p * 2+(1-e)) 0))] 3,.l 3 ⟨0,0+0,none⟩,.l 160 ⟨1,0+2,none⟩])
    (H:=H2.set (1+1) (some (.cells [.int .i64 (y-(kK L (1-e)-L.getD (p * 2+(1-e)) 0))] 3 false none))) (n:=1+1+1) (v:=.int .i64 (L.getD (p * 2+e) 0))
    (op:=fun H n k=>gk P (cal (l+2)) (endF e) [.agg ⟨((ints L).drop (p * 2)).take 2⟩] H n fun v H n=>k v H n)
    ⟨fun q hq=>by
      simp only[List.mem_cons,List.not_mem_nil,or_false] at hq
      rcases hq with rfl | rfl | rfl
      · exact .inr ⟨_,_,_,rfl⟩
      · exact .inl ⟨_,_,rfl,.inl ⟨_,_,_,_,hg0'⟩⟩
      · exact .inl ⟨_,_,rfl,.inl ⟨_,_,_,_,hg1'⟩⟩,fun t a id c e h1 h2=>by
      simp only[List.mem_cons,List.not_mem_nil,or_false,Extra.a.injEq,reduceCtorEq,Extra.l.injEq,false_or] at h1 h2
      obtain⟨rfl,_⟩:=h2
      rcases h1 with⟨_,rfl⟩ | ⟨_,rfl⟩ <;> simp⟩ (fun H k=>qcz (l+1) he L (p * 2) (by omega) H _ _)
  have ee:∀ k,effK P [.a (1+1) [.int .i64 (y-(kK L (1-e)-L.getD (p * 2+(1-e)) 0))] 3,.l 3 ⟨0,0+0,none⟩,.l 160 ⟨1,0+2,none⟩] (H2.set (1+1) (some (.cells [.int .i64 (y-(kK L (1-e)-L.getD (p * 2+(1-e)) 0))] 3 false none))) (1+1+1)
    (fun H n k=>gk P (cal (l+2)) (endF e) [.agg ⟨((ints L).drop (p * 2)).take 2⟩] H n fun v H n=>k v H n) k=k (.int .i64 (L.getD (p * 2+e) 0)) H3 (1+1+1):=e3
  simp only[ee]
  have hx:aX H3 (1+1) 0 [.int .i64 (y-(kK L (1-e)-L.getD (p * 2+(1-e)) 0))]:=aX.of_get hrow (s3 2)
  rw[with_call (l+1) he _ _ hx]
  exact⟨_,_,rfl⟩
theorem flat120:fw P 120=true:=by kernel_rfl
theorem call120 (l:Nat) (a b c:Value) (H:Hp) (n:Nat):(cal (l+1)).call 120 [a,b,c] H n=Vy (cal l) KK a b c H n:=
  (show(cal (l+1)).call 120 [a,b,c] H n=Gy ent120 (cal l) [a,b,c] H n by kernel_rfl).trans (Gz ..)
theorem extreme_call (l:Nat) {e:Nat} (he:e<2) {y:Int} {L B:List Int} (hL:L.length=16) (hB:B.length=16) (hb:pq L) (hy:0≤y∧y≤1000) {p:Nat} (hp:p<8) (H:Hp) (n:Nat) (k:Value→Hp→Nat→Option ρ) :
    aV P (cal (l+3)) 120 [.agg ⟨ints (bK y L B)⟩,.int .i64 p,endV e] H n k=k (.int .i64 (ext y L e p)) H n:=by
  obtain⟨H',n',h⟩:=extreme_spec l he (B:=B) hL hB hb hy hp
  refine fQ flat120 ?_ ((call120 ..).trans h) rfl
  simp only[endV,bW,bz,lY,vk,(Fq _).2.2.2,(Oz _).2.2.2,Bool.and_self]
end Go.Proofs.Ytgojjellogiglaa.spec
end
section
namespace Go.Proofs.Ytgojjellogiglaa.spec
open Go.Ev Go.Proofs.Ytgojjellogiglaa.nestFits Go.Proofs.Ytgojjellogiglaa.G
set_option maxRecDepth 100000
variable {ρ:Type}
noncomputable def ox:List Int:=List.replicate 16 0
theorem rY:ox.length=16:=rfl
theorem Xz:kV P 113=some (.agg ⟨ints (bK 0 ox ox)⟩):=by kernel_rfl
theorem build113 (y:Int) {L:List Int} (hL:L.length=16):fK P 113 [(0,.int .i64 y),(1,.agg ⟨ints L⟩)]=some (.agg ⟨ints (bK y L ox)⟩):=by
  match L,hL with
  | [a0,a1,a2,a3,a4,a5,a6,a7,a8,a9,a10,a11,a12,a13,a14,a15],_=>
    show fK P 113 [(0,.int .i64 y),(1,.agg ⟨ints [a0,a1,a2,a3,a4,a5,a6,a7,a8,a9,a10,a11,a12,a13,a14,a15]⟩)]=some (.agg ⟨ints (bK y [a0,a1,a2,a3,a4,a5,a6,a7,a8,a9,a10,a11,a12,a13,a14,a15] ox)⟩)
    kernel_rfl
theorem res115 (H:Hp) (b:Nat):resV P (Tr.set Tr.nil 4 (some (.pointer (some ⟨b,0,none⟩)))) H fq=(match az P H 113 ⟨b,0,none⟩ with
  | none=>none
  | some v=>some [v]):=by kernel_rfl
theorem nest_set {y a b:Int} {L B:List Int} (hL:L.length=16) (j:Nat):((bK y L B).set (17+j) a).set (17+j+1) b=bK y L ((B.set j a).set (j+1) b):=by
  unfold bK
  rw[show 17+j=(16+j)+1 by omega,List.set_cons_succ,List.set_cons_succ,List.set_append_right _ _ (by omega),List.set_append_right _ _ (by omega),hL]
  rw[show 16+j-16=j by omega,show 16+j+1-16=j+1 by omega]
def jy (y:Int) (L B:List Int) (i:Nat):Prop:=B.length=16∧∀ p,p<i→B.getD (p * 2) 0=ext y L 0 p∧B.getD (p * 2+1) 0=ext y L 1 p
theorem jy.next {y:Int} {L B:List Int} {i:Nat} (h:jy y L B i) (hi:i<8):jy y L ((B.set (i * 2) (ext y L 0 i)).set (i * 2+1) (ext y L 1 i)) (i+1):=by
  obtain⟨h1,h2⟩:=h
  refine⟨by simp [h1],fun p hp=>?_⟩
  simp only[List.getD_eq_getElem?_getD,List.getElem?_set,List.length_set,h1]
  by_cases e:p=i
  · subst e
    rw[if_neg (show ¬ p * 2+1=p * 2 by omega),if_pos rfl,if_pos (show p * 2<16 by omega),if_pos rfl,if_pos (show p * 2+1<16 by omega)]
    exact⟨rfl,rfl⟩
  · obtain⟨g1,g2⟩:=h2 p (by omega)
    rw[List.getD_eq_getElem?_getD] at g1 g2
    rw[if_neg (by omega),if_neg (by omega),if_neg (by omega),if_neg (by omega)]
    exact⟨g1,g2⟩
theorem newNest_loop (l k:Nat) {y:Int} {L:List Int} (hL:L.length=16) (hb:pq L) (hy:0≤y∧y≤1000) (b4 b5:Nat) (hne:b4≠b5):∀(m i:Nat) (B:List Int) (w:List Value) (H:Hp) (n:Nat),b4<n→b5<n →
    H.get b5=some (.cells (ints (bK y L B)) 113 false none)→H.get b4=some (.cells w 113 false none)→w.length=33→jy y L B i→i≤8→8-i≤m →
    ∃ B' H' n',S115_1 (cal (l+3)) k m (.pointer (some ⟨b4,0,none⟩)) (.pointer (some ⟨b5,0,none⟩)) (.int .i64 i) H n=some (.agg ⟨ints (bK y L B')⟩,H',n')∧jy y L B' 8:=by
  have body:∀(b1:Value→Value→Value→Hp→Nat→Res) (m i:Nat) (B:List Int) (w:List Value) (H:Hp) (n:Nat),b4<n→b5<n →
      H.get b5=some (.cells (ints (bK y L B)) 113 false none)→H.get b4=some (.cells w 113 false none)→w.length=33→jy y L B i→i≤8 →
      (∀ B2 H2 n2,b4<n2→b5<n2→H2.get b5=some (.cells (ints (bK y L B2)) 113 false none)→H2.get b4=some (.cells w 113 false none)→jy y L B2 (i+1)→i<8 →
        ∃ B' H' n',b1 (.pointer (some ⟨b4,0,none⟩)) (.pointer (some ⟨b5,0,none⟩)) (.int .i64 ((i+1:Nat):Int)) H2 n2=some (.agg ⟨ints (bK y L B')⟩,H',n')∧jy y L B' 8) →
      ∃ B' H' n',UK (cal (l+3)) k m b1 (.pointer (some ⟨b4,0,none⟩)) (.pointer (some ⟨b5,0,none⟩)) (.int .i64 i) H n=some (.agg ⟨ints (bK y L B')⟩,H',n')∧jy y L B' 8:=by
    intro b1 m i B w H n hb4 hb5 hg5 hg4 hw hB hi ih
    have lens:(ints (bK y L B)).length=33:=by rw[aK,jx hL hB.1]
    have hld:=bZ hg5 Ty IK lens
    unfold UK B115_1
    rw[ak cY,iJ]
    by_cases hlt:i<8
    · rw[if_pos (by omega),aJ,aj,hld,aj,aj,hld,aj,fa113_2,aj]
      obtain⟨H1,n1,e1,f1,g1⟩:=effK_grow (P:=P) (ρ:=Value × Hp × Nat) (ex:=[.l 113 ⟨b5,0,none⟩,.l 113 ⟨b5,0,none⟩]) (H:=H) (n:=n) (v:=endV 0)
        (op:=fun H n k=>aV P (cal (l+3)) 121 [] H n fun v H n=>k v H n)
        (fun q hq=>by simp only[List.mem_cons,List.not_mem_nil,or_false,or_self] at hq; subst hq; exact⟨_,_,rfl,hb5,.inl ⟨_,_,_,_,hg5⟩⟩)
        (fun Hm=>by obtain⟨H',n',h1,h2,h3⟩:=lowEnd_call (ρ:=Value × Hp × Nat) (l+2) Hm n; exact⟨H',n',fun k=>h1 _,h2,h3⟩)
      rw[e1]
      have k5:H1.get b5=some (.cells (ints (bK y L B)) 113 false none):=(g1 b5 hb5).trans hg5
      have k4:H1.get b4=some (.cells w 113 false none):=(g1 b4 hb4).trans hg4
      obtain⟨H2,s2,e2⟩:=uv (P:=P) (ρ:=Value × Hp × Nat) (ex:=[.l 113 ⟨b5,0,none⟩]) (H:=H1) (n:=n1) (v:=.int .i64 (ext y L 0 i))
        (op:=fun H n k=>aV P (cal (l+3)) 120 [.agg ⟨ints (bK y L B)⟩,.int .i64 i,endV 0] H n fun v H n=>k v H n)
        ⟨fun q hq=>.inl (by simp only[List.mem_cons,List.not_mem_nil,or_false] at hq; subst hq; exact⟨_,_,rfl,.inl ⟨_,_,_,_,k5⟩⟩),fun t a id c e h1 h2=>by simp at h2⟩
        (fun H k=>extreme_call l (by omega) hL hB.1 hb hy hlt H _ _)
      rw[e2]
      have j5:H2.get b5=some (.cells (ints (bK y L B)) 113 false none):=(s2 b5).trans k5
      have j4:H2.get b4=some (.cells w 113 false none):=(s2 b4).trans k4
      obtain⟨H3,n3,e3,f3,g3⟩:=effK_grow (P:=P) (ρ:=Value × Hp × Nat) (ex:=[.l 113 ⟨b5,0,none⟩]) (H:=H2) (n:=n1) (v:=endV 1)
        (op:=fun H n k=>aV P (cal (l+3)) 122 [] H n fun v H n=>k v H n)
        (fun q hq=>by simp only[List.mem_cons,List.not_mem_nil,or_false] at hq; subst hq; exact⟨_,_,rfl,by show b5<n1; omega,.inl ⟨_,_,_,_,j5⟩⟩)
        (fun Hm=>by obtain⟨H',n',h1,h2,h3⟩:=highEnd_call (ρ:=Value × Hp × Nat) (l+2) Hm n1; exact⟨H',n',fun k=>h1 _,h2,h3⟩)
      rw[e3,extreme_call l (by omega) hL hB.1 hb hy hlt,build53,aj,VK b5 (0+17) hlt,aj,Xw]
      have i5:H3.get b5=some (.cells (ints (bK y L B)) 113 false none):=(g3 b5 (by omega)).trans j5
      have i4:H3.get b4=some (.cells w 113 false none):=(g3 b4 (by omega)).trans j4
      rw[show 0+17+i * 2=17+i * 2 by omega,Tz i5 (by rw[jx hL hB.1]; omega),nest_set hL,aj]
      have hI:I64 ((i:Int)+1):=by unfold I64; omega
      have hcast:((i:Int)+1)=((i+1:Nat):Int):=by omega
      rw[ak (bV hI),hcast]
      exact ih _ _ n3 (by omega) (by omega) (by rw[Tr.get_set,if_pos rfl]) (by rw[Tr.get_set,if_neg hne]; exact i4) (hB.next hlt) hlt
    · rw[if_neg (by omega),aJ,aj,hld,aj,kv IK lens,gJ hg4 (by rw[lens,hw]) (eQ _),aj,res115]
      have hgw:(H.set b4 (some (.cells (ints (bK y L B)) 113 false none))).get b4=some (.cells (ints (bK y L B)) 113 false none):=by rw[Tr.get_set,if_pos rfl]
      rw[bZ hgw Ty IK lens]
      have hi':i=8:=by omega
      subst hi'
      exact⟨B,_,_,rfl,hB⟩
  intro m
  induction m with
  | zero=>
    intro i B w H n h1 h2 h3 h4 h5 h6 h7 h8
    exact body _ 0 i B w H n h1 h2 h3 h4 h5 h6 h7 (fun _ _ _ _ _ _ _ _ h=>by omega)
  | succ m ih=>
    intro i B w H n h1 h2 h3 h4 h5 h6 h7 h8
    exact body _ (m+1) i B w H n h1 h2 h3 h4 h5 h6 h7 (fun B2 H2 n2 q1 q2 q3 q4 q5 q6=>ih (i+1) B2 w H2 n2 q1 q2 q3 q4 h5 q5 (by omega) (by omega))
theorem newNest_spec (l:Nat) {y:Int} {L:List Int} (hL:L.length=16) (hb:pq L) (hy:0≤y∧y≤1000) :
    ∃ B H' n',Vj (cal (l+3)) KK (.int .i64 y) (.agg ⟨ints L⟩) .nil 0=some (.agg ⟨ints (bK y L B)⟩,H',n')∧jy y L B 8:=by
  unfold Vj B115_0
  rw[cQ,dZ Xz]
  have hg0:(((Tr.nil:Hp).set 0 (some (.cells (ints L) 111 false none))).set (0+1) (some (.cells (ints (bK 0 ox ox)) 113 false none))).get 0=some (.cells (ints L) 111 false none):=by rw[Tr.get_set,if_neg (by omega),Tr.get_set,if_pos rfl]
  have hg1:(((Tr.nil:Hp).set 0 (some (.cells (ints L) 111 false none))).set (0+1) (some (.cells (ints (bK 0 ox ox)) 113 false none))).get 1=some (.cells (ints (bK 0 ox ox)) 113 false none):=by rw[Tr.get_set,if_pos rfl]
  simp only[bj,ptr]
  generalize ((Tr.nil:Hp).set 0 (some (.cells (ints L) 111 false none))).set (0+1) (some (.cells (ints (bK 0 ox ox)) 113 false none))=H1 at hg0 hg1 ⊢
  have hl:=bZ hg0 oV qz (by rw[aK,hL])
  rw[aJ,aj,hl,aj,build113 y hL,aj]
  have lens:(ints (bK y L ox)).length=33:=by rw[aK,jx hL rY]
  obtain⟨H2,k1,k2,k3⟩:=wJ (P:=P) (ρ:=Value × Hp × Nat) (H:=H1) (n:=0+1+1) (L:=ints (bK y L ox)) Xz (by show(ints (bK 0 ox ox)).length=33; rw[aK,jx rY rY]) IK lens (eQ _)
  rw[k3]
  exact newNest_loop l KK hL hb hy 1 2 (by omega) KK 0 ox (ints (bK 0 ox ox)) H2 3 (by omega) (by omega) k2 ((k1 1 (by omega)).trans hg1) (by rw[aK,jx rY rY]) ⟨rfl,fun p hp=>by omega⟩ (by omega) (by unfold KK; omega)
theorem flat115:fw P 115=true:=by kernel_rfl
theorem call115 (l:Nat) (a b:Value) (H:Hp) (n:Nat):(cal (l+1)).call 115 [a,b] H n=Vj (cal l) KK a b H n:=
  (show(cal (l+1)).call 115 [a,b] H n=Gy ent115 (cal l) [a,b] H n by kernel_rfl).trans (Gz ..)
theorem newNest_call (l:Nat) {y:Int} {L:List Int} (hL:L.length=16) (hb:pq L) (hy:0≤y∧y≤1000):∃ B,jy y L B 8∧∀(H:Hp) (n:Nat) (k:Value→Hp→Nat→Option ρ),
    aV P (cal (l+4)) 115 [.int .i64 y,.agg ⟨ints L⟩] H n k=k (.agg ⟨ints (bK y L B)⟩) H n:=by
  obtain⟨B,H',n',h,hB⟩:=newNest_spec l hL hb hy
  refine⟨B,hB,fun H n k=>fQ flat115 ?_ ((call115 ..).trans h) ?_⟩
  · simp only[bW,bz,lY,vk,Bool.and_self]
  · simp only[bz,lY,vk]
end Go.Proofs.Ytgojjellogiglaa.spec
end
section
namespace Go.Proofs.Ytgojjellogiglaa.spec
open Go Go.Ev Go.Proofs.Ytgojjellogiglaa.nestFits Go.Proofs.Ytgojjellogiglaa.G
set_option maxRecDepth 100000
variable {ρ:Type}
noncomputable def code97:Code:=cq 97
noncomputable def xY:List ResultVar:=dJ 97
noncomputable def asgOf:Code→Code
  | .rangeFunc _ _ a _=>a
  | _=>.skip
noncomputable def bodOf:Code→Code
  | .rangeFunc _ _ _ b=>b
  | _=>.skip
noncomputable def qX:Code:=asgOf (cL (cR (cL (cR (cR code97)))))
noncomputable def qY:Code:=bodOf (cL (cR (cL (cR (cR code97)))))
noncomputable def K97 (c:Cal) (k:Nat):KC (Value × Hp × Nat):=ay P c (aw P c k) none 97 (cR (cR (cR code97))) .leaf (av P xY) X0 (av P xY)
noncomputable def T97 (v0 v1 v2 v5 v6 v7 v11:Value):Tm:=(((((((((Tr.nil:Tm).set 0 (some v0)).set 1 (some v1)).set 2 (some v2)).set 5 (some v5)).set 6 (some v6)).set 7 (some v7)).set 9 (some v0)).set 10 (some v1)).set 11 (some v11)
theorem pre97 (c:Cal) (k:Nat) (v0 v1 v2:Value) (H:Hp) (n:Nat):aZ P c A (k+1) 97 [v0,v1,v2] H n =
    (boxK 86 v2 H n fun v5 H n=>cX P 113 H n fun v6 H n=>cX P 111 H n fun v7 H n=>aV P c 113 [v0,v1] H n fun v11 H n=>
      wq P c none 97 v11 #[12] qX qY (K97 c k) (upX 0 (K97 c k) X0) (av P xY) (T97 v0 v1 v2 v5 v6 v7 v11) H n []):=by
  rw[bJ (fn:=Go.Proofs.Try.f97) (c:=code97) (rs:=xY) (by kernel_rfl) (by kernel_rfl) (by kernel_rfl) (by kernel_rfl)]
  kernel_rfl
theorem post97 (c:Cal) (k:Nat) (v0 v1 v2 v5 v6 v7 v11:Value) (H:Hp) (n:Nat) (D:List Nat):K97 c k (T97 v0 v1 v2 v5 v6 v7 v11) H n D =
    (aq (ax P 86 v5 1) fun v18=>aq (aW v18) fun a=>aq (az P H 53 a) fun v19=>aq (aY P 111 v7 v1) fun v20=>aq (bx P 53 v20 v19 H) fun H=>
      aq (ax P 86 v5 0) fun v21=>aq (aW v21) fun a=>aq (az P H 3 a) fun v22=>aq (aW v7) fun a=>aq (az P H 111 a) fun v23=>aV P c 115 [v22,v23] H n fun v24 H n=>
      aq (bx P 113 v6 v24 H) fun H=>getK (tw H D) fun H=>aq (resV P ((Tr.nil:Tm).set 6 (some v6)) H xY) fun vs=>some (oneV vs,H,n)):=by
  kernel_rfl
theorem call97 (l:Nat) (a b c:Value) (H:Hp) (n:Nat):(cal (l+1)).call 97 [a,b,c] H n=aZ P (cal l) A (KK+1) 97 [a,b,c] H n:=by kernel_rfl
theorem asg97_eq (l lp:Nat) (v0 v1 v2 v5 v6 v7 v11 p:Value) (H:Hp) (n:Nat) :
    (cal (l+1)).body lp 97 qX { T:=(T97 v0 v1 v2 v5 v6 v7 v11).set 12 (some p),H,n,D:=[] }=some (.norm,{ T:=((T97 v0 v1 v2 v5 v6 v7 v11).set 12 (some p)).set 8 (some p),H,n,D:=[] }):=by kernel_rfl
theorem bod97_eq (l lp:Nat) (v0 v1 v2 v5 v6 v7 v11 p:Value) (H:Hp) (n:Nat) :
    (cal (l+1)).body lp 97 qY { T:=((T97 v0 v1 v2 v5 v6 v7 v11).set 12 (some p)).set 8 (some p),H,n,D:=[] } =
      (aq (ax P 86 v5 2) fun v14=>aq (aW v14) fun a=>aq (az P H 53 a) fun v15=>aq (aY P 111 v7 p) fun v16=>aq (bx P 53 v16 v15 H) fun H'=>
        some (.norm,{ T:=((((((T97 v0 v1 v2 v5 v6 v7 v11).set 12 (some p)).set 8 (some p)).set 13 (some p)).set 14 (some v14)).set 15 (some v15)).set 16 (some v16),H:=H',n,D:=[] })):=by kernel_rfl
theorem res97 (H:Hp) (b:Nat):resV P ((Tr.nil:Tm).set 6 (some (.pointer (some ⟨b,0,none⟩)))) H xY=(match az P H 113 ⟨b,0,none⟩ with
  | none=>none
  | some v=>some [v]):=by kernel_rfl
theorem ntm97:ntm P 97=25:=by kernel_rfl
end Go.Proofs.Ytgojjellogiglaa.spec
end
section
namespace Go.Proofs.Ytgojjellogiglaa.spec
open Go Go.Ev Go.Proofs.Ytgojjellogiglaa.nestFits Go.Proofs.Ytgojjellogiglaa.G
set_option maxRecDepth 100000
variable {ρ:Type}
theorem xZ:eZ P 105=some false:=by kernel_rfl
theorem agg4:eZ P 4=some false:=by kernel_rfl
theorem und109:P.underlying 109=some (.array 8 108):=by kernel_rfl
theorem und108:P.underlying 108=some (.array 8 4):=by kernel_rfl
theorem sz108:szT P 108=some 8:=by kernel_rfl
theorem sz4:szT P 4=some 1:=by kernel_rfl
theorem pw (b o:Nat):ax P 117 (.pointer (some ⟨b,o,none⟩)) 0=some (.pointer (some ⟨b,o+0,none⟩)):=by kernel_rfl
theorem fa117_1 (b o:Nat):ax P 117 (.pointer (some ⟨b,o,none⟩)) 1=some (.pointer (some ⟨b,o+3,none⟩)):=by kernel_rfl
theorem Xk (b o:Nat):ax P 117 (.pointer (some ⟨b,o,none⟩)) 2=some (.pointer (some ⟨b,o+67,none⟩)):=by kernel_rfl
theorem OJ {i n:Nat} (hi:i<n):qw (.int .i64 (i:Int)) n=some i:=by
  show qw (.int .i64 (.ofNat i)) n=some i
  simp [qw,hi]
theorem at109 (b o:Nat) {i:Nat} (hi:i<8):aY P 109 (.pointer (some ⟨b,o,none⟩)) (.int .i64 i)=some (.pointer (some ⟨b,o+i * 8,none⟩)):=by
  unfold aY
  simp only[und109,OJ hi,sz108]
  rfl
theorem at108 (b o:Nat) {i:Nat} (hi:i<8):aY P 108 (.pointer (some ⟨b,o,none⟩)) (.int .i64 i)=some (.pointer (some ⟨b,o+i * 1,none⟩)):=by
  unfold aY
  simp only[und108,OJ hi,sz4]
  rfl
theorem kW (a:Addr):nilV (.pointer (some a))=some (.pointer (some a)):=rfl
theorem guardD_tt {op:KD ρ→Option ρ} {ex:Extra} {H:Hp} {n:Nat} {k:KD ρ}:ix (.bool true) true op ex H n k=op k:=rfl
theorem guardD_ft {op:KD ρ→Option ρ} {ex:Extra} {H:Hp} {n:Nat} {k:KD ρ}:ix (.bool false) true op ex H n k=k undef ex H n:=rfl
structure Reads (H:Hp) (pb sb g:Nat) (x:Value) (pad:Nat) (near:Nat→Bool):Prop where
  pad_:az P H 3 ⟨pb,0,none⟩=some (.int .i64 pad)
  site:az P H 105 ⟨sb,0,none⟩=some (.pointer (some ⟨g,0,none⟩))
  pads:az P H 31 ⟨g,0+0+0,none⟩=some x
  near_:∀ b,b<8→az P H 4 ⟨g,0+3+pad * 8+b * 1,none⟩=some (.bool (near b))
theorem iter_loop (c:Cal) (k:Nat) (yv:Value) (pb sb g pad np:Nat) (x:Value) (near:Nat→Bool) (hpad:pad<8) (hnp:np≤8) (Inv:List Nat→Hp→Nat→Prop) (hR:∀ ps H n,Inv ps H n→Reads H pb sb g x pad near)
    (hY:∀(ps:List Nat) (p:Nat) (H:Hp) (n:Nat),Inv ps H n→p<8→∃ H' n',(∀ k:Value→Hp→Nat→Res,gk P c yv [.int .i64 p] H n k=k (.bool true) H' n')∧Inv (ps++[p]) H' n') (ps0:List Nat):∀(m i:Nat) (H:Hp) (n:Nat),
    Inv (ps0++(List.range i).filter near) H n→i≤np→np-i≤m →
    ∃ H' n',Vx c k m yv (.pointer (some ⟨pb,0,none⟩)) (.pointer (some ⟨sb,0,none⟩)) (.int .i64 np) (.int .i64 i) H n=some (.tuple ⟨[]⟩,H',n')∧Inv (ps0++(List.range np).filter near) H' n':=by
  have body:∀(b1:Value→Value→Value→Value→Value→Hp→Nat→Res) (m i:Nat) (H:Hp) (n:Nat),Inv (ps0++(List.range i).filter near) H n→i≤np →
      (∀ H' n',Inv (ps0++(List.range (i+1)).filter near) H' n'→i<np→∃ H2 n2,b1 yv (.pointer (some ⟨pb,0,none⟩)) (.pointer (some ⟨sb,0,none⟩)) (.int .i64 np) (.int .i64 ((i+1:Nat):Int)) H' n'=some (.tuple ⟨[]⟩,H2,n2)∧Inv (ps0++(List.range np).filter near) H2 n2) →
      ∃ H' n',Vw c k m b1 yv (.pointer (some ⟨pb,0,none⟩)) (.pointer (some ⟨sb,0,none⟩)) (.int .i64 np) (.int .i64 i) H n=some (.tuple ⟨[]⟩,H',n')∧Inv (ps0++(List.range np).filter near) H' n':=by
    intro b1 m i H n hI hi ih
    unfold Vw B119_1
    rw[ak cY,iJ]
    by_cases hlt:i<np
    · obtain⟨r1,r2,r3,r4⟩:=hR _ _ _ hI
      have hi8:i<8:=by omega
      have hb:=r4 i hi8
      have hI1:I64 ((i:Int)+1):=by unfold I64; omega
      have hcast:((i:Int)+1)=((i+1:Nat):Int):=by omega
      rw[if_pos (by omega),aJ,aj,r2,aj,aJ,aj,r1,aj,kW,aj,fa117_1,aj,at109 _ _ hpad,aj,at108 _ _ hi8,aj,aJ,aj,hb,aj]
      cases hn:near i with
      | true=>
        obtain⟨H1,n1,e1,e2⟩:=hY _ i _ _ hI hi8
        simp only[guardD_tt,e1,ow,aj,cZ,dW,ak (bV hI1),hcast]
        refine ih H1 n1 ?_ hlt
        rw[List.range_succ,List.filter_append,← List.append_assoc]
        simp only[List.filter_cons,hn,if_true,List.filter_nil]
        exact e2
      | false=>
        simp only[guardD_ft,dv,aj,dW,ak (bV hI1),hcast]
        refine ih H n ?_ hlt
        rw[List.range_succ,List.filter_append]
        simp only[List.filter_cons,hn,List.filter_nil,Bool.false_eq_true,if_false,List.append_nil]
        exact hI
    · rw[if_neg (by omega)]
      have hi':i=np:=by omega
      subst hi'
      exact⟨H,n,rfl,hI⟩
  intro m
  induction m with
  | zero=>
    intro i H n h1 h2 h3
    exact body _ 0 i H n h1 h2 (fun _ _ _ h=>by omega)
  | succ m ih=>
    intro i H n h1 h2 h3
    exact body _ (m+1) i H n h1 h2 (fun H' n' q1 q2=>ih (i+1) H' n' q1 (by omega) (by omega))
theorem iter_spec (c:Cal) (yv:Value) (pb sb g pad np:Nat) (x:Value) (near:Nat→Bool) (hpad:pad<8) (hnp:np≤8) (hx:lenV P 31 x=some (.int .i64 np)) (Inv:List Nat→Hp→Nat→Prop) (hR:∀ ps H n,Inv ps H n→Reads H pb sb g x pad near)
    (hY:∀(ps:List Nat) (p:Nat) (H:Hp) (n:Nat),Inv ps H n→p<8→∃ H' n',(∀ k:Value→Hp→Nat→Res,gk P c yv [.int .i64 p] H n k=k (.bool true) H' n')∧Inv (ps++[p]) H' n') {H:Hp} {n:Nat} (h0:Inv [] H n) :
    ∃ H' n',PV c KK yv (.pointer (some ⟨pb,0,none⟩)) (.pointer (some ⟨sb,0,none⟩)) H n=some (.tuple ⟨[]⟩,H',n')∧Inv (pad::(List.range np).filter near) H' n':=by
  unfold PV B119_0
  generalize hS:Vx c KK KK=S
  obtain⟨r1,_,_,_⟩:=hR _ _ _ h0
  obtain⟨H1,n1,e1,e2⟩:=hY _ pad _ _ h0 hpad
  obtain⟨_,r2,r3,_⟩:=hR _ _ _ e2
  rw[aJ,aj,r1,aj,e1,ow,aj,dW,aJ,aj,r2,aj,kW,aj,pw,aj,sW,aj,aJ,aj,r3,aj,hx,aj,← hS]
  exact iter_loop c KK yv pb sb g pad np x near hpad hnp Inv hR hY [pad] KK 0 H1 n1 e2 (by omega) (by unfold KK; omega)
def Nj (lo hi:Int) (ps:List Nat):List Int:=ps.foldl (fun X p=>(X.set (p * 2) lo).set (p * 2+1) hi) (List.replicate 16 0)
theorem fillS_snoc (lo hi:Int) (ps:List Nat) (p:Nat):Nj lo hi (ps++[p])=((Nj lo hi ps).set (p * 2) lo).set (p * 2+1) hi:=by
  unfold Nj; rw[List.foldl_append]; rfl
theorem CQ (X:List Int) (j:Nat) (a b:Int):((X.set j a).set (j+1) b).length=X.length:=by simp
theorem LY (lo hi:Int) (ps:List Nat):(Nj lo hi ps).length=16:=by
  have:∀(ps:List Nat) (X:List Int),(ps.foldl (fun X p=>(X.set (p * 2) lo).set (p * 2+1) hi) X).length=X.length:=by
    intro ps
    induction ps with
    | nil=>intro X; rfl
    | cons p ps ih=>intro X; rw[List.foldl_cons,ih,CQ]
  exact this ps _
theorem CV {X:List Int} (hX:X.length=16) {p q:Nat} (hp:p<8) (a b:Int):(((X.set (p * 2) a).set (p * 2+1) b).getD (q * 2) 0=if q=p then a else X.getD (q * 2) 0) ∧
    (((X.set (p * 2) a).set (p * 2+1) b).getD (q * 2+1) 0=if q=p then b else X.getD (q * 2+1) 0):=by
  simp only[List.getD_eq_getElem?_getD,List.getElem?_set,List.length_set,hX]
  by_cases e:q=p
  · subst e
    rw[if_neg (show ¬ q * 2+1=q * 2 by omega),if_pos rfl,if_pos (show q * 2<16 by omega),if_pos rfl,if_pos rfl,if_pos (show q * 2+1<16 by omega),if_pos rfl]
    exact⟨rfl,rfl⟩
  · rw[if_neg (show ¬ p * 2+1=q * 2 by omega),if_neg (show ¬ p * 2=q * 2 by omega),if_neg e,if_neg (show ¬ p * 2+1=q * 2+1 by omega),if_neg (show ¬ p * 2=q * 2+1 by omega),if_neg e]
    exact⟨rfl,rfl⟩
theorem fillS_get (lo hi:Int) (q:Nat) (ps:List Nat) (h:∀ p ∈ ps,p<8):(Nj lo hi ps).getD (q * 2) 0=(if q ∈ ps then lo else 0)∧(Nj lo hi ps).getD (q * 2+1) 0=(if q ∈ ps then hi else 0):=by
  have key:∀(ps:List Nat) (X:List Int),X.length=16→(∀ p ∈ ps,p<8)→(ps.foldl (fun X p=>(X.set (p * 2) lo).set (p * 2+1) hi) X).getD (q * 2) 0=(if q ∈ ps then lo else X.getD (q * 2) 0) ∧
      (ps.foldl (fun X p=>(X.set (p * 2) lo).set (p * 2+1) hi) X).getD (q * 2+1) 0=(if q ∈ ps then hi else X.getD (q * 2+1) 0):=by
    intro ps
    induction ps with
    | nil=>intro X _ _; exact⟨rfl,rfl⟩
    | cons p ps ih=>
      intro X hX hp
      obtain⟨h1,h2⟩:=ih ((X.set (p * 2) lo).set (p * 2+1) hi) (by rw[CQ]; exact hX) (fun p' hp'=>hp p' (List.mem_cons_of_mem _ hp'))
      obtain⟨g1,g2⟩:=CV (q:=q) hX (hp p List.mem_cons_self) lo hi
      rw[List.foldl_cons,h1,h2,g1,g2]
      by_cases e:q=p <;> by_cases e2:q ∈ ps <;> simp [e,e2]
  have z:∀ k:Nat,(List.replicate 16 (0:Int)).getD k 0=0:=by
    intro k
    rw[List.getD_eq_getElem?_getD,List.getElem?_replicate]
    split <;> rfl
  have:=key ps (List.replicate 16 0) rfl h
  rw[z,z] at this
  exact this
end Go.Proofs.Ytgojjellogiglaa.spec
end
section
namespace Go.Proofs.Ytgojjellogiglaa.spec
open Go Go.Ev Go.Proofs.Ytgojjellogiglaa.nestFits Go.Proofs.Ytgojjellogiglaa.G
set_option maxRecDepth 100000
variable {ρ:Type}
theorem loadK53 {H:Hp} {b:Nat} {y a1 a2 a3 a4:Int} (h:H.get b=some (.cells [.int .i64 y,.int .i64 a1,.int .i64 a2,.int .i64 a3,.int .i64 a4] 86 false none)) :
    az P H 53 ⟨b,0+1,none⟩=some (.agg ⟨[.int .i64 a1,.int .i64 a2]⟩)∧az P H 53 ⟨b,0+3,none⟩=some (.agg ⟨[.int .i64 a3,.int .i64 a4]⟩)∧az P H 3 ⟨b,0+0,none⟩=some (.int .i64 y):=
  ⟨bY (k:=1) (fx h) VY sz53 (by simp) rfl,bY (k:=3) (fx h) VY sz53 (by simp) rfl,bw (fx h) agg3 rfl⟩
theorem yield97 (L:Nat) {H:Hp} {n lb b5 b7 d:Nat} {v0 v1 v2 v6 v11:Value} {y a1 a2 a3 a4:Int} {X:List Int} (hl:H.get lb=some (.loop .ready none 97 (T97 v0 v1 v2 (.pointer (some ⟨b5,0,none⟩)) v6 (.pointer (some ⟨b7,0,none⟩)) v11) (ntm P 97) #[12] qX qY d))
    (h5:H.get b5=some (.cells [.int .i64 y,.int .i64 a1,.int .i64 a2,.int .i64 a3,.int .i64 a4] 86 false none)) (h7:H.get b7=some (.cells (ints X) 111 false none)) (hX:X.length=16) (n5:b5≠lb) (n7:b7≠lb) {p:Nat} (hp:p<8) :
    ∃ H',(∀ k:Value→Hp→Nat→Option ρ,gk P (cal (L+1)) (.func (.yield lb) #[] #[]) [.int .i64 p] H n k=k (.bool true) H' n)∧H'.get lb=H.get lb ∧
      H'.get b7=some (.cells (ints ((X.set (p * 2) a3).set (p * 2+1) a4)) 111 false none)∧∀ b,b≠lb→b≠b7→H'.get b=H.get b:=by
  have hpar:vX (T97 v0 v1 v2 (.pointer (some ⟨b5,0,none⟩)) v6 (.pointer (some ⟨b7,0,none⟩)) v11) (ntm P 97) (#[12]:Array Tmp).toList [.int .i64 p]=some ((T97 v0 v1 v2 (.pointer (some ⟨b5,0,none⟩)) v6 (.pointer (some ⟨b7,0,none⟩)) v11).set 12 (some (.int .i64 p))):=by
    rw[ntm97]; rfl
  generalize hT:T97 v0 v1 v2 (.pointer (some ⟨b5,0,none⟩)) v6 (.pointer (some ⟨b7,0,none⟩)) v11=T at hl hpar
  have hrdy:vY H lb=true:=by unfold vY; rw[hl]
  have hpen:ny H lb=none:=by unfold ny; rw[hl]
  have hbusy:jK H lb .busy none=some (H.set lb (some (.loop .busy none 97 T (ntm P 97) #[12] qX qY d))):=by unfold jK; rw[hl]
  have g5:(H.set lb (some (.loop .busy none 97 T (ntm P 97) #[12] qX qY d))).get b5=some (.cells [.int .i64 y,.int .i64 a1,.int .i64 a2,.int .i64 a3,.int .i64 a4] 86 false none):=by rw[Tr.get_set,if_neg n5]; exact h5
  have g7:(H.set lb (some (.loop .busy none 97 T (ntm P 97) #[12] qX qY d))).get b7=some (.cells (ints X) 111 false none):=by rw[Tr.get_set,if_neg n7]; exact h7
  have gl:(H.set lb (some (.loop .busy none 97 T (ntm P 97) #[12] qX qY d))).get lb=some (.loop .busy none 97 T (ntm P 97) #[12] qX qY d):=by rw[Tr.get_set,if_pos rfl]
  have ho:∀ b,b≠lb→(H.set lb (some (.loop .busy none 97 T (ntm P 97) #[12] qX qY d))).get b=H.get b:=fun b hb=>by rw[Tr.get_set,if_neg hb]
  generalize H.set lb (some (.loop .busy none 97 T (ntm P 97) #[12] qX qY d))=H1 at hbusy g5 g7 gl ho
  have hst:=Tz (a:=a3) (b:=a4) (o:=p * 2) g7 (by omega)
  have q7:(H1.set b7 (some (.cells (ints ((X.set (p * 2) a3).set (p * 2+1) a4)) 111 false none))).get b7=some (.cells (ints ((X.set (p * 2) a3).set (p * 2+1) a4)) 111 false none):=by rw[Tr.get_set,if_pos rfl]
  have ql:(H1.set b7 (some (.cells (ints ((X.set (p * 2) a3).set (p * 2+1) a4)) 111 false none))).get lb=some (.loop .busy none 97 T (ntm P 97) #[12] qX qY d):=by rw[Tr.get_set,if_neg (Ne.symm n7)]; exact gl
  have qo:∀ b,b≠lb→b≠b7→(H1.set b7 (some (.cells (ints ((X.set (p * 2) a3).set (p * 2+1) a4)) 111 false none))).get b=H.get b:=fun b hb hb7=>by rw[Tr.get_set,if_neg hb7]; exact ho b hb
  have hbody:∃ T',(cal (L+1)).body lb 97 qY { T:=(T.set 12 (some (.int .i64 p))).set 8 (some (.int .i64 p)),H:=H1,n,D:=[] }=some (.norm,{ T:=T',H:=H1.set b7 (some (.cells (ints ((X.set (p * 2) a3).set (p * 2+1) a4)) 111 false none)),n,D:=[] }):=by
    rw[← hT,bod97_eq,fa86_2,aj,aJ,aj,(loadK53 g5).2.1,aj,VK b7 0 hp,aj,Xw,Nat.zero_add,hst,aj]
    exact⟨_,rfl⟩
  generalize H1.set b7 (some (.cells (ints ((X.set (p * 2) a3).set (p * 2+1) a4)) 111 false none))=H2 at q7 ql qo hbody
  obtain⟨T',hbody⟩:=hbody
  have hasg:(cal (L+1)).body lb 97 qX { T:=T.set 12 (some (.int .i64 p)),H,n,D:=[] }=some (.norm,{ T:=(T.set 12 (some (.int .i64 p))).set 8 (some (.int .i64 p)),H,n,D:=[] }):=by
    rw[← hT]; exact asg97_eq ..
  have hend:jK H2 lb .ready none=some (H2.set lb (some (.loop .ready none 97 T (ntm P 97) #[12] qX qY d))):=by unfold jK; rw[ql]
  refine⟨H2.set lb (some (.loop .ready none 97 T (ntm P 97) #[12] qX qY d)),fun k=>?_,by rw[Tr.get_set,if_pos rfl,hl],by rw[Tr.get_set,if_neg n7]; exact q7,fun b hb hb7=>by rw[Tr.get_set,if_neg hb]; exact qo b hb hb7⟩
  show stK (oQ (fun | some l=>(cal (L+1)).body l | none=>fun _ _ _=>none) P lb [.int .i64 p] (bare H n)) k=_
  have hy:oQ (fun | some l=>(cal (L+1)).body l | none=>fun _ _ _=>none) P lb [.int .i64 p] (bare H n)=some (.bool true,{ bare H n with H:=H2.set lb (some (.loop .ready none 97 T (ntm P 97) #[12] qX qY d)) }):=by
    unfold oQ
    have hb:Nat.beq (ntm P 97) (ntm P 97)=true:=Nat.beq_refl _
    have hx:GJ .norm=some none:=rfl
    simp only[bare,hl,hb,hpar,hasg,hrdy,hpen,hbusy,hbody,hx,Option.isNone_none,if_true,hend]
  rw[hy]
  rfl
end Go.Proofs.Ytgojjellogiglaa.spec
end
section
namespace Go.Proofs.Ytgojjellogiglaa.spec
open Go Go.Ev Go.Proofs.Ytgojjellogiglaa.nestFits Go.Proofs.Ytgojjellogiglaa.G
set_option maxRecDepth 100000
variable {ρ:Type}
theorem XJ:kV P 111=some (.agg ⟨ints (List.replicate 16 0)⟩):=by kernel_rfl
theorem flat113:fw P 113=false:=by kernel_rfl
theorem call113 (l:Nat) (a b:Value) (H:Hp) (n:Nat):(cal (l+1)).call 113 [a,b] H n=C113_0 (cal l) KK a b H n:=by kernel_rfl
theorem call119 (l:Nat) (a b c:Value) (H:Hp) (n:Nat):(cal (l+1)).call 119 [a,b,c] H n=PV (cal l) KK a b c H n:=by kernel_rfl
theorem reached_call (l:Nat) (g pad:Nat) (H:Hp) (n:Nat) (k:Value→Hp→Nat→Option ρ):aV P (cal (l+1)) 113 [.pointer (some ⟨g,0,none⟩),.int .i64 pad] H n k =
    k (.func (.func 119) ⟨[]⟩ ⟨[.pointer (some ⟨n+1,0,none⟩),.pointer (some ⟨n,0,none⟩)]⟩) ((H.set n (some (.cells [.pointer (some ⟨g,0,none⟩)] 105 false none))).set (n+1) (some (.cells [.int .i64 pad] 3 false none))) (n+2):=by
  unfold aV
  rw[flat113,call113]
  rfl
theorem range97 (c:Cal) (a b:Value) (K:KC (Value × Hp × Nat)) (X:XC (Value × Hp × Nat)) (Kr:KC (Value × Hp × Nat)) (T:Tm) (H:Hp) (n:Nat) :
    wq P c none 97 (.func (.func 119) ⟨[]⟩ ⟨[a,b]⟩) #[12] qX qY K X Kr T H n [] =
      aV P c 119 [.func (.yield (n+1)) #[] #[],a,b] ((H.set n (some .deferred)).set (n+1) (some (.loop .ready none 97 T (ntm P 97) #[12] qX qY n))) (n+2) fun _ H n'=>fin K X Kr (kZ (n+1) { T:=T,H,n:=n',D:=[n] }):=rfl
def kX (a1 a2 a3 a4:Int) (near:Nat→Bool) (np pad:Nat):List Int:=((Nj a3 a4 (pad::(List.range np).filter near)).set (pad * 2) a1).set (pad * 2+1) a2
theorem vJ (a1 a2 a3 a4:Int) (near:Nat→Bool) (np pad:Nat):(kX a1 a2 a3 a4 near np pad).length=16:=by
  unfold kX; rw[CQ,LY]
theorem sharesL_get {a1 a2 a3 a4:Int} {near:Nat→Bool} {np pad:Nat} (hnp:np≤8) (hpad:pad<8) (q:Nat) :
    (kX a1 a2 a3 a4 near np pad).getD (q * 2) 0=(if q=pad then a1 else if q<np∧near q=true then a3 else 0)∧(kX a1 a2 a3 a4 near np pad).getD (q * 2+1) 0=(if q=pad then a2 else if q<np∧near q=true then a4 else 0):=by
  unfold kX
  obtain⟨h1,h2⟩:=CV (q:=q) (LY a3 a4 (pad::(List.range np).filter near)) hpad a1 a2
  obtain⟨g1,g2⟩:=fillS_get a3 a4 q (pad::(List.range np).filter near) (by
    intro p hp
    rcases List.mem_cons.1 hp with z | z
    · omega
    · have:=List.mem_range.1 (List.mem_filter.1 z).1; omega)
  rw[h1,h2,g1,g2]
  have hm:q≠pad→(q ∈ pad::(List.range np).filter near↔q<np∧near q=true):=fun e=>by simp [e]
  by_cases e:q=pad
  · simp [e]
  · rw[if_neg e,if_neg e,if_neg e,if_neg e]
    by_cases e2:q<np∧near q=true
    · rw[if_pos ((hm e).2 e2),if_pos ((hm e).2 e2),if_pos e2,if_pos e2]; exact⟨rfl,rfl⟩
    · rw[if_neg (fun h=>e2 ((hm e).1 h)),if_neg (fun h=>e2 ((hm e).1 h)),if_neg e2,if_neg e2]; exact⟨rfl,rfl⟩
theorem sharesL_bounded {a1 a2 a3 a4:Int} {near:Nat→Bool} {np pad:Nat} (hnp:np≤8) (hpad:pad<8) (h1:okR a1 a2) (h2:okR a3 a4):pq (kX a1 a2 a3 a4 near np pad):=by
  intro k
  unfold okR at h1 h2
  by_cases hk:k<16
  · obtain⟨g1,g2⟩:=sharesL_get (a1:=a1) (a2:=a2) (a3:=a3) (a4:=a4) (near:=near) hnp hpad (k / 2)
    rcases Nat.mod_two_eq_zero_or_one k with z | z
    · rw[show k / 2 * 2=k by omega] at g1
      rw[g1]
      split
      · omega
      · split <;> omega
    · rw[show k / 2 * 2+1=k by omega] at g2
      rw[g2]
      split
      · omega
      · split <;> omega
  · rw[List.getD_eq_getElem?_getD,List.getElem?_eq_none (by rw[vJ]; omega)]
    simp
theorem nestOn_spec (l:Nat) {H:Hp} {n g np pad:Nat} {f:Nat→Value} {x:Value} {near:Nat→Bool} {y a1 a2 a3 a4:Int} (hg:g<n) (hs:cx H g 859 117 f) (hx:f 0=x) (hlen:lenV P 31 x=some (.int .i64 np)) (hnp:np≤8) (hpad:pad<8)
    (hnear:∀ b,b<8→f (3+pad * 8+b)=.bool (near b)) (hy:0≤y∧y≤1000) (h1:okR a1 a2) (h2:okR a3 a4) :
    ∃ B,jy y (kX a1 a2 a3 a4 near np pad) B 8∧Ret ((cal (l+5)).call 97 [.pointer (some ⟨g,0,none⟩),.int .i64 pad,.agg ⟨[.int .i64 y,.int .i64 a1,.int .i64 a2,.int .i64 a3,.int .i64 a4]⟩] H n) n H
      (.agg ⟨ints (bK y (kX a1 a2 a3 a4 near np pad) B)⟩):=by
  obtain⟨B,hB,hnest⟩:=newNest_call (ρ:=Value × Hp × Nat) l (vJ a1 a2 a3 a4 near np pad) (sharesL_bounded hnp hpad h1 h2) hy
  refine⟨B,hB,?_⟩
  rw[call97,pre97]
  simp only[cQ,dZ Xz,dZ XJ,bj,ptr,reached_call (l+3)]
  rw[range97]
  generalize hH1:((((H.set n (some (.cells [.int .i64 y,.int .i64 a1,.int .i64 a2,.int .i64 a3,.int .i64 a4] 86 false none))).set (n+1) (some (.cells (ints (bK 0 ox ox)) 113 false none))).set (n+1+1) (some (.cells (ints (List.replicate 16 0)) 111 false none))).set (n+1+1+1) (some (.cells [.pointer (some ⟨g,0,none⟩)] 105 false none))).set (n+1+1+1+1) (some (.cells [.int .i64 pad] 3 false none))=H1
  have k1:Keep n H H1:=fun b hb=>by rw[← hH1,Tr.get_set,if_neg (by omega),Tr.get_set,if_neg (by omega),Tr.get_set,if_neg (by omega),Tr.get_set,if_neg (by omega),Tr.get_set,if_neg (by omega)]
  have q0:H1.get n=some (.cells [.int .i64 y,.int .i64 a1,.int .i64 a2,.int .i64 a3,.int .i64 a4] 86 false none):=by rw[← hH1,Tr.get_set,if_neg (by omega),Tr.get_set,if_neg (by omega),Tr.get_set,if_neg (by omega),Tr.get_set,if_neg (by omega),Tr.get_set,if_pos rfl]
  have q1:H1.get (n+1)=some (.cells (ints (bK 0 ox ox)) 113 false none):=by rw[← hH1,Tr.get_set,if_neg (by omega),Tr.get_set,if_neg (by omega),Tr.get_set,if_neg (by omega),Tr.get_set,if_pos rfl]
  have q2:H1.get (n+1+1)=some (.cells (ints (List.replicate 16 0)) 111 false none):=by rw[← hH1,Tr.get_set,if_neg (by omega),Tr.get_set,if_neg (by omega),Tr.get_set,if_pos rfl]
  have q3:H1.get (n+1+1+1)=some (.cells [.pointer (some ⟨g,0,none⟩)] 105 false none):=by rw[← hH1,Tr.get_set,if_neg (by omega),Tr.get_set,if_pos rfl]
  have q4:H1.get (n+1+1+1+1)=some (.cells [.int .i64 pad] 3 false none):=by rw[← hH1,Tr.get_set,if_pos rfl]
  clear hH1
  generalize hT:T97 (.pointer (some ⟨g,0,none⟩)) (.int .i64 pad) (.agg ⟨[.int .i64 y,.int .i64 a1,.int .i64 a2,.int .i64 a3,.int .i64 a4]⟩) (.pointer (some ⟨n,0,none⟩)) (.pointer (some ⟨n+1,0,none⟩)) (.pointer (some ⟨n+1+1,0,none⟩))
    (.func (.func 119) ⟨[]⟩ ⟨[.pointer (some ⟨n+1+1+1+1,0,none⟩),.pointer (some ⟨n+1+1+1,0,none⟩)]⟩)=T
  have hc119:∀(a b c:Value) (H:Hp) (n:Nat) (k:Value→Hp→Nat→Res),bz b=false→aV P (cal (l+4)) 119 [a,b,c] H n k=aq (PV (cal (l+3)) KK a b c H n) fun r=>k r.1 r.2.1 r.2.2:=by
    intro a b c H n k hb
    unfold aV
    have:(fw P 119 && bW [a,b,c])=false:=by simp [bW,hb]
    rw[this,call119]
  rw[hc119 _ _ _ _ _ _ rfl]
  generalize hH2:(H1.set (n+1+1+1+2) (some .deferred)).set (n+1+1+1+2+1) (some (.loop .ready none 97 T (ntm P 97) #[12] qX qY (n+1+1+1+2)))=H2
  have r1:∀ b,b<n+1+1+1+2→H2.get b=H1.get b:=fun b hb=>by rw[← hH2,Tr.get_set,if_neg (by omega),Tr.get_set,if_neg (by omega)]
  have r2:H2.get (n+1+1+1+2)=some .deferred:=by rw[← hH2,Tr.get_set,if_neg (by omega),Tr.get_set,if_pos rfl]
  have r3:H2.get (n+1+1+1+2+1)=some (.loop .ready none 97 T (ntm P 97) #[12] qX qY (n+1+1+1+2)):=by rw[← hH2,Tr.get_set,if_pos rfl]
  clear hH2
  have hs2:∀ H3:Hp,(∀ b,b≠n+1+1+1+2+1→b≠n+1+1→H3.get b=H2.get b)→Reads H3 (n+1+1+1+1) (n+1+1+1) g x pad near:=by
    intro H3 h3
    have c3:H3.get (n+1+1+1)=some (.cells [.pointer (some ⟨g,0,none⟩)] 105 false none):=by rw[h3 _ (by omega) (by omega),r1 _ (by omega)]; exact q3
    have c4:H3.get (n+1+1+1+1)=some (.cells [.int .i64 pad] 3 false none):=by rw[h3 _ (by omega) (by omega),r1 _ (by omega)]; exact q4
    have cg:cx H3 g 859 117 f:=by
      obtain⟨c,e1,e2,e3⟩:=hs
      exact⟨c,by rw[h3 _ (by omega) (by omega),r1 _ (by omega),k1 _ hg]; exact e1,e2,e3⟩
    refine⟨bw (o:=0) (k:=0) (fx c4) agg3 rfl,bq (o:=0) (k:=0) (fx c3) xZ rfl rfl rfl,?_,fun b hb=>?_⟩
    · have:=cg.load (P:=P) (k:=0) Bz (by omega)
      rw[hx] at this; exact this
    · have:=cg.load (P:=P) (k:=3+pad * 8+b) agg4 (by omega)
      rw[hnear b hb] at this
      rw[show 0+3+pad * 8+b * 1=3+pad * 8+b by omega]
      exact this
  obtain⟨H3,n3,e3,i1,i2,i3,i4⟩:=iter_spec (cal (l+3)) (.func (.yield (n+1+1+1+2+1)) #[] #[]) (n+1+1+1+1) (n+1+1+1) g pad np x near hpad hnp hlen
    (fun ps Hc nc=>nc=n+1+1+1+2+2∧Hc.get (n+1+1+1+2+1)=some (.loop .ready none 97 T (ntm P 97) #[12] qX qY (n+1+1+1+2))∧Hc.get (n+1+1)=some (.cells (ints (Nj a3 a4 ps)) 111 false none)∧∀ b,b≠n+1+1+1+2+1→b≠n+1+1→Hc.get b=H2.get b)
    (fun ps Hc nc ⟨_,_,_,h⟩=>hs2 Hc h)
    (fun ps p Hc nc ⟨h1,h2,h3,h4⟩ hp=>by
      have h5:Hc.get n=some (.cells [.int .i64 y,.int .i64 a1,.int .i64 a2,.int .i64 a3,.int .i64 a4] 86 false none):=by rw[h4 _ (by omega) (by omega),r1 _ (by omega)]; exact q0
      rw[← hT] at h2
      obtain⟨H',y1,y2,y3,y4⟩:=yield97 (ρ:=Value × Hp × Nat) (l+2) (n:=nc) h2 h5 h3 (LY _ _ _) (by omega) (by omega) hp
      refine⟨H',nc,y1,h1,?_,?_,fun b hb hb'=>(y4 b hb hb').trans (h4 b hb hb')⟩
      · rw[y2,h2,hT]
      · rw[y3,fillS_snoc])
    (H:=H2) (n:=n+1+1+1+2+2) ⟨rfl,r3,by rw[r1 _ (by omega)]; exact q2,fun _ _ _=>rfl⟩
  rw[show n+1+1+1+2=n+1+1+1+2 from rfl,e3,aj]
  have hout:kZ (n+1+1+1+2+1) { T:=T,H:=H3,n:=n3,D:=[n+1+1+1+2] }=some (.norm,{ T:=T,H:=H3.set (n+1+1+1+2+1) (some (.loop .exhausted none 97 T (ntm P 97) #[12] qX qY (n+1+1+1+2))),n:=n3,D:=[n+1+1+1+2] }):=by
    unfold kZ
    simp only[i2]
  rw[hout]
  show Ret (K97 (cal (l+4)) KK T (H3.set (n+1+1+1+2+1) (some (.loop .exhausted none 97 T (ntm P 97) #[12] qX qY (n+1+1+1+2)))) n3 [n+1+1+1+2]) n H _
  generalize hH4:H3.set (n+1+1+1+2+1) (some (.loop .exhausted none 97 T (ntm P 97) #[12] qX qY (n+1+1+1+2)))=H4
  have o1:∀ b,b≠n+1+1+1+2+1→b≠n+1+1→H4.get b=H2.get b:=fun b hb hb'=>by rw[← hH4,Tr.get_set,if_neg hb]; exact i4 b hb hb'
  have o2:H4.get (n+1+1)=some (.cells (ints (Nj a3 a4 (pad::(List.range np).filter near))) 111 false none):=by rw[← hH4,Tr.get_set,if_neg (by omega)]; exact i3
  clear hH4 hout
  have o0:H4.get n=some (.cells [.int .i64 y,.int .i64 a1,.int .i64 a2,.int .i64 a3,.int .i64 a4] 86 false none):=by rw[o1 _ (by omega) (by omega),r1 _ (by omega)]; exact q0
  have o3:H4.get (n+1)=some (.cells (ints (bK 0 ox ox)) 113 false none):=by rw[o1 _ (by omega) (by omega),r1 _ (by omega)]; exact q1
  have o4:H4.get (n+1+1+1+2)=some .deferred:=by rw[o1 _ (by omega) (by omega)]; exact r2
  rw[← hT,post97,fa86_1,aj,aJ,aj,(loadK53 o0).1,aj,VK _ 0 hpad,aj,Xw,Nat.zero_add,Tz o2 (by rw[LY]; omega),aj]
  have hsh:((Nj a3 a4 (pad::(List.range np).filter near)).set (pad * 2) a1).set (pad * 2+1) a2=kX a1 a2 a3 a4 near np pad:=rfl
  rw[hsh]
  generalize hH5:H4.set (n+1+1) (some (.cells (ints (kX a1 a2 a3 a4 near np pad)) 111 false none))=H5
  have p1:∀ b,b≠n+1+1→H5.get b=H4.get b:=fun b hb=>by rw[← hH5,Tr.get_set,if_neg hb]
  have p2:H5.get (n+1+1)=some (.cells (ints (kX a1 a2 a3 a4 near np pad)) 111 false none):=by rw[← hH5,Tr.get_set,if_pos rfl]
  clear hH5
  have hl6:=bZ p2 oV qz (by rw[aK,vJ])
  rw[fa86_0,aj,aJ,aj,(loadK53 ((p1 n (by omega)).trans o0)).2.2,aj,aJ,aj,hl6,aj,hnest]
  have lens:(ints (bK y (kX a1 a2 a3 a4 near np pad) B)).length=33:=by rw[aK,jx (vJ ..) hB.1]
  rw[kv IK lens,gJ ((p1 (n+1) (by omega)).trans o3) (by rw[lens,aK,jx rY rY]) (eQ _),aj]
  generalize hH6:H5.set (n+1) (some (.cells (ints (bK y (kX a1 a2 a3 a4 near np pad) B)) 113 false none))=H6
  have u1:H6.get (n+1)=some (.cells (ints (bK y (kX a1 a2 a3 a4 near np pad) B)) 113 false none):=by rw[← hH6,Tr.get_set,if_pos rfl]
  have u2:∀ b,b≠n+1→H6.get b=H5.get b:=fun b hb=>by rw[← hH6,Tr.get_set,if_neg hb]
  clear hH6
  have ht:tw H6 [n+1+1+1+2]=some (H6.set (n+1+1+1+2) none):=by
    have:H6.get (n+1+1+1+2)=some .deferred:=by rw[u2 _ (by omega),p1 _ (by omega)]; exact o4
    unfold tw
    simp only[this]
    rfl
  rw[ht]
  show Ret (aq (resV P ((Tr.nil:Tm).set 6 (some (.pointer (some ⟨n+1,0,none⟩)))) (H6.set (n+1+1+1+2) none) xY) fun vs=>some (oneV vs,H6.set (n+1+1+1+2) none,n3)) n H _
  rw[res97,bZ (t:=113) (s:=33) (L:=ints (bK y (kX a1 a2 a3 a4 near np pad) B)) (e:=113) (vec:=none) (by rw[Tr.get_set,if_neg (by omega)]; exact u1) Ty IK lens]
  refine⟨_,_,rfl,by omega,fun b hb=>?_⟩
  rw[Tr.get_set,if_neg (by omega),u2 _ (by omega),p1 _ (by omega),o1 _ (by omega) (by omega),r1 _ (by omega),k1 _ hb]
end Go.Proofs.Ytgojjellogiglaa.spec
end
section
namespace Go.Ev
open Go
variable {P:Program} {ρ:Type}
theorem effK_gen {ex:List Extra} {H:Hp} {n:Nat} {v:Value} {op:Hp→Nat→(Value→Hp→Nat→Option ρ)→Option ρ} {R:Hp→Nat→Prop}
    (hex:∀ y ∈ ex,∃ t a,y=.l t a∧((∃ c e ro vec,H.get a.block=some (.cells c e ro vec))∨∃ c,H.get a.block=some (.rows c)))
    (hop:∀ Hm,(∀ b,¬ ldOf ex b→Hm.get b=H.get b)→∃ H2 n2,(∀ k,op Hm n k=k v H2 n2)∧(∀ b,ldOf ex b→H2.get b=Hm.get b)∧R H2 n2) :
    ∃ H' H2 n2,(∀ k,effK P ex H n op k=k v H' n2)∧R H2 n2∧(∀ b,ldOf ex b→H'.get b=H.get b)∧∀ b,¬ ldOf ex b→H'.get b=H2.get b:=by
  cases ex with
  | nil=>
    obtain⟨H2,n2,h1,_,h3⟩:=hop H (fun _ _=>rfl)
    exact⟨H2,H2,n2,fun k=>by unfold effK; exact h1 k,h3,fun b ⟨_,_,h,_⟩=>(by cases h),fun _ _=>rfl⟩
  | cons y l=>
    have hl:∀ z ∈ y::l,∃ t a,z=.l t a:=fun z hz=>by obtain⟨t,a,e,_⟩:=hex z hz; exact⟨t,a,e⟩
    obtain⟨H1,e1,e2⟩:=xW (ex:=y::l) (H:=H) fun z hz=>by obtain⟨t,a,e,h⟩:=hex z hz; exact .inl ⟨t,a,e,h⟩
    have hnw:∀ b,¬ nwOf (y::l) b:=fun b ⟨id,c,e,h1,_⟩=>by obtain⟨t,a,q⟩:=hl _ h1; cases q
    obtain⟨H2,n2,h1,h2,h3⟩:=hop (pY (y::l) H1) fun b hb=>by
      rw[(kw (H:=H1) b).2 (hnw _)]
      rcases e2 b with q | ⟨_,q⟩
      · exact q
      · exact absurd q hb
    have hsome:∀ z ∈ y::l,(∃ t a,z=.l t a∧(H2.get a.block).isSome)∨∃ id c e,z=.a id c e:=by
      intro z hz
      obtain⟨t,a,rfl,hc⟩:=hex z hz
      refine .inl ⟨t,a,rfl,?_⟩
      rw[h2 _ ⟨t,a,hz,rfl⟩,(kw (H:=H1) a.block).2 (hnw _)]
      have hs:(H.get a.block).isSome:=by rcases hc with⟨c,e,ro,vec,hc⟩ | ⟨c,hc⟩ <;> rw[hc] <;> rfl
      rcases e2 a.block with q | ⟨⟨c,e,ro,vec,_,q⟩,_⟩
      · rw[q]; exact hs
      · rw[q]; rfl
    obtain⟨H3,f1,f2,f3⟩:=xX (H0:=H) hsome
    have hck:chkX P (mJ (y::l) H H3) (y::l)=true:=Fj fun z hz=>.inl (hl z hz)
    refine⟨mJ (y::l) H H3,H2,n2,fun k=>?_,h3,fun b hb=>?_,fun b hb=>?_⟩
    · unfold effK
      simp only[e1,aj,h1,f1,hck]
      rfl
    · rw[(pj b).2 (hnw b)]; exact f2 b hb
    · rw[(pj b).2 (hnw b)]; exact f3 b hb
theorem qZ (f:Nat→Value) (o:Nat) (v:Value) (k:Nat):putF f o [v] k=if k=o then v else f k:=by
  unfold putF
  by_cases h:k=o
  · subst h; simp
  · rw[if_neg h]
    by_cases h2:o≤k
    · rw[if_pos h2]
      have:k-o≠0:=by omega
      cases hk:k-o with
      | zero=>exact absurd hk this
      | succ m=>simp
    · rw[if_neg h2]
theorem putF_in (f:Nat→Value) (o:Nat) (vs:List Value) {j:Nat} {v:Value} (h:vs[j]?=some v):putF f o vs (o+j)=v:=by
  unfold putF
  rw[if_pos (by omega),show o+j-o=j by omega,h]
theorem Kv (f:Nat→Value) (o:Nat) (vs:List Value) {k:Nat} (h:k<o∨o+vs.length≤k):putF f o vs k=f k:=by
  unfold putF
  by_cases h2:o≤k
  · rw[if_pos h2,List.getElem?_eq_none (by omega)]
  · rw[if_neg h2]
end Go.Ev
end
section
namespace Go.Proofs.Ytgojjellogiglaa.spec
open Go Go.Ev Go.Proofs.Ytgojjellogiglaa.nestFits Go.Proofs.Ytgojjellogiglaa.G
set_option maxRecDepth 100000
variable {ρ:Type}
theorem und115:P.underlying 115=some (.array 8 114):=by kernel_rfl
theorem und114:P.underlying 114=some (.array 3 113):=by kernel_rfl
theorem sz114:szT P 114=some 99:=by kernel_rfl
theorem at115 (b o:Nat) {i:Nat} (hi:i<8):aY P 115 (.pointer (some ⟨b,o,none⟩)) (.int .i64 i)=some (.pointer (some ⟨b,o+i * 99,none⟩)):=by
  unfold aY
  simp only[und115,OJ hi,sz114]
  rfl
theorem at114 (b o:Nat) {i:Nat} (hi:i<3):aY P 114 (.pointer (some ⟨b,o,none⟩)) (.int .i64 i)=some (.pointer (some ⟨b,o+i * 33,none⟩)):=by
  unfold aY
  simp only[und114,OJ hi,IK]
  rfl
open Classical in
noncomputable def zW (js:List Int) (i:Nat) (a b:Nat):Bool:=decide (∃ q,q<i∧J js a b q)
noncomputable def shP (js ks:List Int) (nj np p kd:Nat):List Int:=kX (ks.getD (kd * 5+1) 0) (ks.getD (kd * 5+2) 0) (ks.getD (kd * 5+3) 0) (ks.getD (kd * 5+4) 0) (zW js nj p) np p
def pZ (f:Nat→Value) (js ks:List Int) (nj np p kd:Nat):Prop:=∃ B,jy (ks.getD (kd * 5) 0) (shP js ks nj np p kd) B 8∧∀ j,j<33→f (67+p * 99+kd * 33+j)=.int .i64 ((bK (ks.getD (kd * 5) 0) (shP js ks nj np p kd) B).getD j 0)
structure SiteF (f:Nat→Value) (x y z:Value) (js:List Int) (i:Nat):Prop where
  x:f 0=x
  y:f 1=y
  z:f 2=z
  near:∀ a b,a<8→b<8→f (3+a * 8+b)=.bool (zW js i a b)
open Classical in
theorem nearB_next {js:List Int} {i A B:Nat} (hA:js[i * 2]?=some (A:Int)) (hB:js[i * 2+1]?=some (B:Int)) (a b:Nat) :
    zW js (i+1) a b=if(a=A∧b=B)∨(a=B∧b=A) then true else zW js i a b:=by
  have hJ:J js a b i↔(a=A∧b=B)∨(a=B∧b=A):=by
    unfold J; rw[hA,hB]; simp only[Option.some.injEq]; omega
  unfold zW
  by_cases h:(a=A∧b=B)∨(a=B∧b=A)
  · rw[if_pos h]
    exact decide_eq_true ⟨i,by omega,hJ.2 h⟩
  · rw[if_neg h]
    congr 1
    exact propext ⟨fun⟨q,h1,h2⟩=>by
      rcases Nat.lt_or_ge q i with z | z
      · exact⟨q,z,h2⟩
      · rw[show q=i by omega] at h2
        exact absurd (hJ.1 h2) h,fun⟨q,h1,h2⟩=>⟨q,by omega,h2⟩⟩
theorem near_loop61 (c:Cal) (k:Nat) (g np nj:Nat) (js:List Int) (x y z:Value) (hnp:np≤8) (hnj:nj≤1000) (hjs:∀ i,i<nj→∃ A B:Nat,js[i * 2]?=some (A:Int)∧js[i * 2+1]?=some (B:Int)∧A<np∧B<np)
    (Q:Res→Prop) (H0:Hp) (n0:Nat) (hg:n0≤g) (hy0:dk H0 n0 2 y nj js) (hx:∀(H:Hp) (n:Nat) (f:Nat→Value),n0≤n→g<n→Keep n0 H0 H→cx H g 859 117 f→SiteF f x y z js nj →
      (∀ p kd j,p<8→kd<3→j<33→f (67+p * 99+kd * 33+j)=.int .i64 0→True)→Q (S61_2 c k k (.pointer (some ⟨g,0,none⟩)) (.int .i64 np) (.int .i64 0) H n)) (hlx:lenV P 31 x=some (.int .i64 np)) :
    ∀(m i:Nat) (H:Hp) (n:Nat) (f:Nat→Value),n0≤n→g<n→Keep n0 H0 H→cx H g 859 117 f→SiteF f x y z js i→i≤nj→nj-i≤m →
    Q (S61_1 c k m (.pointer (some ⟨g,0,none⟩)) y (.int .i64 nj) (.int .i64 i) H n):=by
  have body:∀(b1:Value→Value→Value→Value→Hp→Nat→Res) (m i:Nat) (H:Hp) (n:Nat) (f:Nat→Value),n0≤n→g<n→Keep n0 H0 H→cx H g 859 117 f→SiteF f x y z js i→i≤nj →
      (∀(H:Hp) (n:Nat) (f:Nat→Value),n0≤n→g<n→Keep n0 H0 H→cx H g 859 117 f→SiteF f x y z js (i+1)→i<nj→Q (b1 (.pointer (some ⟨g,0,none⟩)) y (.int .i64 nj) (.int .i64 ((i+1:Nat):Int)) H n)) →
      Q (C61_1 c k m b1 (.pointer (some ⟨g,0,none⟩)) y (.int .i64 nj) (.int .i64 i) H n):=by
    intro b1 m i H n f hn hgn hk hf hs hi ih
    unfold C61_1 B61_1
    generalize hS:S61_2 c k k=S
    rw[ak cY,iJ]
    by_cases hlt:i<nj
    · rw[if_pos (by omega)]
      obtain⟨A,B,hA,hB,hA8,hB8⟩:=hjs i hlt
      have hy:=(hy0.keep hk (Nat.le_refl _)).up hn
      obtain⟨bb,o,hix,hbn,hc⟩:=hy.at_ und32 sz88 hlt
      have hl2:i * 2+2≤js.length:=by rw[hy.1]; omega
      obtain⟨u,w,hu,hw,huw⟩:=QQ hl2
      rw[hA] at hu; rw[hB] at hw
      cases hu; cases hw
      have hld:az P H 88 ⟨bb,o+i * 2,none⟩=some (.agg ⟨[.int .i64 A,.int .i64 B]⟩):=by
        rw[bY hc agg88 sz88 (by rw[aK]; exact hl2) (dY _),huw]
      obtain⟨H1,k1,k2,k3⟩:=wJ (P:=P) (ρ:=Value × Hp × Nat) (H:=H) (n:=n) (L:=[.int .i64 A,.int .i64 B]) zero88 rfl sz88 rfl rfl
      rw[hix,aj,aJ,aj,hld,aj,k3]
      have la:az P H1 3 ⟨n,0+0,none⟩=some (.int .i64 A):=bw (fx k2) agg3 rfl
      have lb:az P H1 3 ⟨n,0+1,none⟩=some (.int .i64 B):=bw (fx k2) agg3 rfl
      rw[fa88_0,aj,aJ,aj,la,aj,fa88_1,aj,aJ,aj,lb,aj,aj,aJ,aj,lb,aj,aj,aJ,aj,la,aj,kW,aj,fa117_1,aj,
        at109 _ _ (by omega),aj,at108 _ _ (by omega),aj,aj,fa117_1,aj,at109 _ _ (by omega),aj]
      have hf1:=hf.keep k1 hgn
      obtain⟨H2,H2',n2,e2,⟨r1,r2,r3⟩,r4,r5⟩:=effK_gen (P:=P) (ρ:=Value × Hp × Nat) (ex:=[.l 3 ⟨n,0+0,none⟩,.l 3 ⟨n,0+1,none⟩]) (H:=H1) (n:=n+1) (v:=undef)
        (op:=fun H n k=>aq (bx P 4 (.pointer (some ⟨g,0+3+A * 8+B * 1,none⟩)) (.bool true) H) fun H=>k undef H n)
        (R:=fun H' n'=>n'=n+1∧cx H' g 859 117 (putF f (0+3+A * 8+B * 1) [.bool true])∧∀ b,b≠n→b≠g→H'.get b=H1.get b)
        (fun q hq=>by
          simp only[List.mem_cons,List.not_mem_nil,or_false] at hq
          rcases hq with rfl | rfl <;> exact⟨_,_,rfl,.inl ⟨_,_,_,_,k2⟩⟩)
        (fun Hm hm=>by
          have hld:∀ b,ldOf [.l 3 ⟨n,0+0,none⟩,.l 3 ⟨n,0+1,none⟩] b↔b=n:=fun b=>by
            constructor
            · rintro⟨t,a,h1,h2⟩
              simp only[List.mem_cons,List.not_mem_nil,or_false,Extra.l.injEq] at h1
              rcases h1 with⟨_,rfl⟩ | ⟨_,rfl⟩ <;> exact h2.symm
            · rintro rfl
              exact⟨3,⟨_,0+0,none⟩,by simp,rfl⟩
          have hmg:cx Hm g 859 117 f:=by
            obtain⟨c,e1,e2,e3⟩:=hf1
            exact⟨c,by rw[hm g (fun h=>by have:=(hld g).1 h; omega)]; exact e1,e2,e3⟩
          obtain⟨H',s1,s2,s3⟩:=hmg.storeN (o:=0+3+A * 8+B * 1) (vs:=[.bool true]) (by simp; omega) rfl
          refine⟨H',n+1,fun k=>by rw[oX sz4 rfl,s1,aj],fun b hb=>s3 b (by have:=(hld b).1 hb; omega),rfl,s2,fun b hb hb'=>?_⟩
          rw[s3 b hb',hm b (fun h=>hb ((hld b).1 h))])
      rw[e2,at108 _ _ (by omega),aj]
      subst r1
      have hld:∀ b,ldOf [.l 3 ⟨n,0+0,none⟩,.l 3 ⟨n,0+1,none⟩] b↔b=n:=fun b=>by
        constructor
        · rintro⟨t,a,h1,h2⟩
          simp only[List.mem_cons,List.not_mem_nil,or_false,Extra.l.injEq] at h1
          rcases h1 with⟨_,rfl⟩ | ⟨_,rfl⟩ <;> exact h2.symm
        · rintro rfl
          exact⟨3,⟨_,0+0,none⟩,by simp,rfl⟩
      have hf2:cx H2 g 859 117 (putF f (0+3+A * 8+B * 1) [.bool true]):=by
        obtain⟨c,e1,e2,e3⟩:=r2
        exact⟨c,by rw[r5 g (fun h=>by have:=(hld g).1 h; omega)]; exact e1,e2,e3⟩
      obtain⟨H3,s1,s2,s3⟩:=hf2.storeN (o:=0+3+B * 8+A * 1) (vs:=[.bool true]) (by simp; omega) rfl
      have hI:I64 ((i:Int)+1):=by unfold I64; omega
      have hcast:((i:Int)+1)=((i+1:Nat):Int):=by omega
      rw[oX sz4 rfl,s1,aj,ak (bV hI),hcast]
      refine ih H3 (n+1) _ (by omega) (by omega) (fun b hb=>?_) s2 ⟨?_,?_,?_,fun a b ha hb=>?_⟩ hlt
      · rw[s3 b (by omega),r5 b (fun h=>by have:=(hld b).1 h; omega),r3 b (by omega) (by omega),k1 b (by omega),hk b hb]
      · rw[qZ,if_neg (by omega),qZ,if_neg (by omega)]; exact hs.x
      · rw[qZ,if_neg (by omega),qZ,if_neg (by omega)]; exact hs.y
      · rw[qZ,if_neg (by omega),qZ,if_neg (by omega)]; exact hs.z
      · rw[qZ,qZ,nearB_next hA hB,hs.near a b ha hb]
        by_cases c1:3+a * 8+b=0+3+B * 8+A * 1
        · rw[if_pos c1,if_pos (.inr ⟨by omega,by omega⟩)]
        · rw[if_neg c1]
          by_cases c2:3+a * 8+b=0+3+A * 8+B * 1
          · rw[if_pos c2,if_pos (.inl ⟨by omega,by omega⟩)]
          · rw[if_neg c2,if_neg]
            rintro(⟨h1,h2⟩ | ⟨h1,h2⟩)
            · exact c2 (by subst h1; subst h2; omega)
            · exact c1 (by subst h1; subst h2; omega)
    · rw[if_neg (by omega)]
      have hi':i=nj:=by omega
      subst hi'
      have lx:az P H 31 ⟨g,0+0+0,none⟩=some x:=by
        have:=hf.load (P:=P) (k:=0) Bz (by omega)
        rw[hs.x] at this; exact this
      rw[kW,aj,pw,aj,sW,aj,aJ,aj,lx,aj,hlx,aj,← hS]
      exact hx H n f hn hgn hk hf hs (fun _ _ _ _ _ _ _=>trivial)
  intro m
  induction m with
  | zero=>
    intro i H n f h1 h2 h3 h4 h5 h6 h7
    exact body _ 0 i H n f h1 h2 h3 h4 h5 h6 (fun _ _ _ _ _ _ _ _ h=>by omega)
  | succ m ih=>
    intro i H n f h1 h2 h3 h4 h5 h6 h7
    exact body _ (m+1) i H n f h1 h2 h3 h4 h5 h6 (fun H n f q1 q2 q3 q4 q5 q6=>ih (i+1) H n f q1 q2 q3 q4 q5 (by omega) (by omega))
end Go.Proofs.Ytgojjellogiglaa.spec
end
section
namespace Go.Proofs.Ytgojjellogiglaa.spec
open Go Go.Ev Go.Proofs.Ytgojjellogiglaa.nestFits Go.Proofs.Ytgojjellogiglaa.G
set_option maxRecDepth 100000
variable {ρ:Type}
theorem getD_some {X:List Int} {j:Nat} (h:j<X.length):X[j]?=some (X.getD j 0):=by
  rw[List.getD_eq_getElem?_getD,List.getElem?_eq_getElem h]; rfl
theorem nestOn_call (l:Nat) {H:Hp} {n g np pad:Nat} {f:Nat→Value} {x:Value} {near:Nat→Bool} {y a1 a2 a3 a4:Int} (hg:g<n) (hs:cx H g 859 117 f) (hx:f 0=x) (hlen:lenV P 31 x=some (.int .i64 np)) (hnp:np≤8) (hpad:pad<8)
    (hnear:∀ b,b<8→f (3+pad * 8+b)=.bool (near b)) (hy:0≤y∧y≤1000) (h1:okR a1 a2) (h2:okR a3 a4) :
    ∃ B H' n',jy y (kX a1 a2 a3 a4 near np pad) B 8∧(∀ k:Value→Hp→Nat→Option ρ,aV P (cal (l+5)) 97 [.pointer (some ⟨g,0,none⟩),.int .i64 pad,.agg ⟨[.int .i64 y,.int .i64 a1,.int .i64 a2,.int .i64 a3,.int .i64 a4]⟩] H n k =
      k (.agg ⟨ints (bK y (kX a1 a2 a3 a4 near np pad) B)⟩) H' n')∧n≤n'∧Keep n H H':=by
  obtain⟨B,hB,H',n',e,h3,h4⟩:=nestOn_spec l hg hs hx hlen hnp hpad hnear hy h1 h2
  refine⟨B,H',n',hB,fun k=>?_,h3,h4⟩
  unfold aV
  have:(fw P 97 && bW [.pointer (some ⟨g,0,none⟩),.int .i64 pad,.agg ⟨[.int .i64 y,.int .i64 a1,.int .i64 a2,.int .i64 a3,.int .i64 a4]⟩])=false:=by rw[Bool.and_eq_false_iff]; exact .inr rfl
  rw[this,e]
  rfl
def Hv (f:Nat→Value) (js ks:List Int) (nj np nk pd i:Nat):Prop:=∀ p kd,p<np→kd<nk→(p<pd∨(p=pd∧kd<i))→pZ f js ks nj np p kd
def kj (ks:List Int) (nk:Nat):Prop:=∀ kd,kd<nk→(0≤ks.getD (kd * 5) 0∧ks.getD (kd * 5) 0≤1000)∧okR (ks.getD (kd * 5+1) 0) (ks.getD (kd * 5+2) 0)∧okR (ks.getD (kd * 5+3) 0) (ks.getD (kd * 5+4) 0)
theorem nests_loop3 (l k m1:Nat) (g np nj nk:Nat) (js ks:List Int) (x y z:Value) (hnp:np≤8) (hnk:nk≤3) (hks:kj ks nk)
    (Q:Res→Prop) (H0:Hp) (n0:Nat) (hg:n0≤g) (hz0:dk H0 n0 5 z nk ks) (hlx:lenV P 31 x=some (.int .i64 np)) (pd:Nat) (hpd:pd<np) (b2:Value→Value→Value→Hp→Nat→Res)
    (hb2:∀(H:Hp) (n:Nat) (f:Nat→Value),n0≤n→g<n→Keep n0 H0 H→cx H g 859 117 f→SiteF f x y z js nj→Hv f js ks nj np nk (pd+1) 0→Q (b2 (.pointer (some ⟨g,0,none⟩)) (.int .i64 np) (.int .i64 ((pd+1:Nat):Int)) H n)) :
    ∀(m i:Nat) (H:Hp) (n:Nat) (f:Nat→Value),n0≤n→g<n→Keep n0 H0 H→cx H g 859 117 f→SiteF f x y z js nj→Hv f js ks nj np nk pd i→i≤nk→nk-i≤m →
    Q (S61_3 (cal (l+5)) k m1 b2 m (.pointer (some ⟨g,0,none⟩)) (.int .i64 pd) (.int .i64 np) (.int .i64 pd) z (.int .i64 nk) (.int .i64 i) H n):=by
  have body:∀(b3:Value→Value→Value→Value→Value→Value→Value→Hp→Nat→Res) (m i:Nat) (H:Hp) (n:Nat) (f:Nat→Value),n0≤n→g<n→Keep n0 H0 H→cx H g 859 117 f→SiteF f x y z js nj→Hv f js ks nj np nk pd i→i≤nk →
      (∀(H:Hp) (n:Nat) (f:Nat→Value),n0≤n→g<n→Keep n0 H0 H→cx H g 859 117 f→SiteF f x y z js nj→Hv f js ks nj np nk pd (i+1)→i<nk →
        Q (b3 (.pointer (some ⟨g,0,none⟩)) (.int .i64 pd) (.int .i64 np) (.int .i64 pd) z (.int .i64 nk) (.int .i64 ((i+1:Nat):Int)) H n)) →
      Q (C61_3 (cal (l+5)) k m1 m b2 b3 (.pointer (some ⟨g,0,none⟩)) (.int .i64 pd) (.int .i64 np) (.int .i64 pd) z (.int .i64 nk) (.int .i64 i) H n):=by
    intro b3 m i H n f hn hgn hk hf hs hnt hi ih
    unfold C61_3 B61_3
    rw[ak cY,iJ]
    by_cases hlt:i<nk
    · rw[if_pos (by omega)]
      have hz:=(hz0.keep hk (Nat.le_refl _)).up hn
      obtain⟨bb,o,hix,hbn,hc⟩:=hz.at_ VZ sz86 hlt
      have hl2:i * 5+5≤ks.length:=by rw[hz.1]; omega
      have hld:az P H 86 ⟨bb,o+i * 5,none⟩=some (.agg ⟨[.int .i64 (ks.getD (i * 5) 0),.int .i64 (ks.getD (i * 5+1) 0),.int .i64 (ks.getD (i * 5+2) 0),.int .i64 (ks.getD (i * 5+3) 0),.int .i64 (ks.getD (i * 5+4) 0)]⟩):=by
        rw[bY hc agg86 sz86 (by rw[aK]; exact hl2) (dY _),Xq hl2]
      obtain⟨H1,k1,k2,k3⟩:=wJ (P:=P) (ρ:=Value × Hp × Nat) (H:=H) (n:=n) (L:=[.int .i64 (ks.getD (i * 5) 0),.int .i64 (ks.getD (i * 5+1) 0),.int .i64 (ks.getD (i * 5+2) 0),.int .i64 (ks.getD (i * 5+3) 0),.int .i64 (ks.getD (i * 5+4) 0)]) zero86 rfl sz86 rfl rfl
      rw[hix,aj,aJ,aj,hld,aj,k3]
      have hback:=bZ k2 agg86 sz86 rfl
      rw[aJ,aj,hback,aj,kW,aj,Xk,aj,at115 _ _ (by omega),aj]
      have hf1:=hf.keep k1 hgn
      obtain⟨y1,y2,y3⟩:=hks i hlt
      obtain⟨B,H2,n2,hB,e2,e3,e4⟩:=nestOn_call (ρ:=Value × Hp × Nat) l (n:=n+1) (by omega) hf1 hs.x hlx hnp (show pd<8 by omega) (near:=zW js nj pd) (fun b hb=>hs.near pd b (by omega) hb) y1 y2 y3
      rw[e2,at114 _ _ (by omega),aj]
      have hf2:=hf1.keep e4 (by omega)
      have lens:(ints (bK (ks.getD (i * 5) 0) (kX (ks.getD (i * 5+1) 0) (ks.getD (i * 5+2) 0) (ks.getD (i * 5+3) 0) (ks.getD (i * 5+4) 0) (zW js nj pd) np pd) B)).length=33:=by rw[aK,jx (vJ ..) hB.1]
      obtain⟨H3,s1,s2,s3⟩:=hf2.storeN (o:=0+67+pd * 99+i * 33) (vs:=ints (bK (ks.getD (i * 5) 0) (kX (ks.getD (i * 5+1) 0) (ks.getD (i * 5+2) 0) (ks.getD (i * 5+3) 0) (ks.getD (i * 5+4) 0) (zW js nj pd) np pd) B)) (by rw[lens]; omega) (eQ _)
      have hI:I64 ((i:Int)+1):=by unfold I64; omega
      have hcast:((i:Int)+1)=((i+1:Nat):Int):=by omega
      rw[kv IK lens,s1,aj,ak (bV hI),hcast]
      refine ih H3 n2 _ (by omega) (by omega) (fun b hb=>?_) s2 ⟨?_,?_,?_,fun a b ha hb=>?_⟩ (fun p kd hp hkd hpk=>?_) hlt
      · rw[s3 b (by omega),e4 b (by omega),k1 b (by omega),hk b hb]
      · rw[Kv _ _ _ (.inl (by omega))]; exact hs.x
      · rw[Kv _ _ _ (.inl (by omega))]; exact hs.y
      · rw[Kv _ _ _ (.inl (by omega))]; exact hs.z
      · rw[Kv _ _ _ (.inl (by omega))]; exact hs.near a b ha hb
      · by_cases hnew:p=pd∧kd=i
        · obtain⟨rfl,rfl⟩:=hnew
          refine⟨B,hB,fun j hj=>?_⟩
          rw[show 67+p * 99+kd * 33+j=0+67+p * 99+kd * 33+j by omega]
          refine putF_in _ _ _ (nX ?_)
          have:j<(bK (ks.getD (kd * 5) 0) (kX (ks.getD (kd * 5+1) 0) (ks.getD (kd * 5+2) 0) (ks.getD (kd * 5+3) 0) (ks.getD (kd * 5+4) 0) (zW js nj p) np p) B).length:=by rw[← aK,lens]; exact hj
          exact getD_some this
        · obtain⟨B',hB',hf'⟩:=hnt p kd hp hkd (by omega)
          refine⟨B',hB',fun j hj=>?_⟩
          rw[Kv _ _ _ (by rw[lens]; omega)]
          exact hf' j hj
    · rw[if_neg (by omega)]
      have hi':i=nk:=by omega
      subst hi'
      have hI:I64 ((pd:Int)+1):=by unfold I64; omega
      have hcast:((pd:Int)+1)=((pd+1:Nat):Int):=by omega
      rw[ak (bV hI),hcast]
      exact hb2 H n f hn hgn hk hf hs (fun p kd hp hkd h=>hnt p kd hp hkd (by omega))
  intro m
  induction m with
  | zero=>
    intro i H n f h1 h2 h3 h4 h5 h6 h7 h8
    exact body _ 0 i H n f h1 h2 h3 h4 h5 h6 h7 (fun _ _ _ _ _ _ _ _ _ h=>by omega)
  | succ m ih=>
    intro i H n f h1 h2 h3 h4 h5 h6 h7 h8
    exact body _ (m+1) i H n f h1 h2 h3 h4 h5 h6 h7 (fun H n f q1 q2 q3 q4 q5 q6 q7=>ih (i+1) H n f q1 q2 q3 q4 q5 q6 (by omega) (by omega))
theorem nests_loop2 (l k:Nat) (g np nj nk:Nat) (js ks:List Int) (x y z:Value) (hnp:np≤8) (hnk:nk≤3) (hks:kj ks nk)
    (Q:Res→Prop) (H0:Hp) (n0:Nat) (hg:n0≤g) (hz0:dk H0 n0 5 z nk ks) (hlx:lenV P 31 x=some (.int .i64 np))
    (hq:∀(H:Hp) (n:Nat) (f:Nat→Value),n0≤n→g<n→Keep n0 H0 H→cx H g 859 117 f→SiteF f x y z js nj→(∀ p kd,p<np→kd<nk→pZ f js ks nj np p kd)→Q (some (.tuple ⟨[.pointer (some ⟨g,0,none⟩),.int .i64 0]⟩,H,n))) :
    ∀(m i:Nat) (H:Hp) (n:Nat) (f:Nat→Value),n0≤n→g<n→Keep n0 H0 H→cx H g 859 117 f→SiteF f x y z js nj→Hv f js ks nj np nk i 0→i≤np→np-i+3≤m →
    Q (S61_2 (cal (l+5)) k m (.pointer (some ⟨g,0,none⟩)) (.int .i64 np) (.int .i64 i) H n):=by
  have body:∀(b2:Value→Value→Value→Hp→Nat→Res) (m i:Nat) (H:Hp) (n:Nat) (f:Nat→Value),n0≤n→g<n→Keep n0 H0 H→cx H g 859 117 f→SiteF f x y z js nj→Hv f js ks nj np nk i 0→i≤np→3≤m →
      (∀(H:Hp) (n:Nat) (f:Nat→Value),n0≤n→g<n→Keep n0 H0 H→cx H g 859 117 f→SiteF f x y z js nj→Hv f js ks nj np nk (i+1) 0→i<np→Q (b2 (.pointer (some ⟨g,0,none⟩)) (.int .i64 np) (.int .i64 ((i+1:Nat):Int)) H n)) →
      Q (C61_2 (cal (l+5)) k m b2 (.pointer (some ⟨g,0,none⟩)) (.int .i64 np) (.int .i64 i) H n):=by
    intro b2 m i H n f hn hgn hk hf hs hnt hi hm ih
    unfold C61_2 B61_2
    generalize hS:S61_3 (cal (l+5)) k m b2 m=S
    rw[ak cY,iJ]
    by_cases hlt:i<np
    · rw[if_pos (by omega)]
      have lz:az P H 33 ⟨g,0+0+2,none⟩=some z:=by
        have:=hf.load (P:=P) (k:=2) agg33 (by omega)
        rw[hs.z] at this; exact this
      have e3:lenV P 33 z=some (.int .i64 nk):=hz0.len_eq VZ
      rw[kW,aj,pw,aj,Oy,aj,aJ,aj,lz,aj,e3,aj,← hS]
      exact nests_loop3 l k m g np nj nk js ks x y z hnp hnk hks Q H0 n0 hg hz0 hlx i hlt b2 (fun H n f q1 q2 q3 q4 q5 q6=>ih H n f q1 q2 q3 q4 q5 q6 hlt) m 0 H n f hn hgn hk hf hs hnt (by omega) (by omega)
    · rw[if_neg (by omega)]
      exact hq H n f hn hgn hk hf hs (fun p kd hp hkd=>hnt p kd hp hkd (.inl (by omega)))
  intro m
  induction m with
  | zero=>
    intro i H n f h1 h2 h3 h4 h5 h6 h7 h8
    omega
  | succ m ih=>
    intro i H n f h1 h2 h3 h4 h5 h6 h7 h8
    exact body _ (m+1) i H n f h1 h2 h3 h4 h5 h6 h7 (by omega) (fun H n f q1 q2 q3 q4 q5 q6 q7=>ih (i+1) H n f q1 q2 q3 q4 q5 q6 (by omega) (by omega))
end Go.Proofs.Ytgojjellogiglaa.spec
end
section
namespace Go.Proofs.Ytgojjellogiglaa.spec
open Go Go.Ev Go.Proofs.Ytgojjellogiglaa.nestFits Go.Proofs.Ytgojjellogiglaa.G
set_option maxRecDepth 100000
variable {ρ:Type}
open Classical in
theorem nearB_zero (js:List Int) (a b:Nat):zW js 0 a b=false:=by
  unfold zW
  exact decide_eq_false (fun⟨q,h,_⟩=>by omega)
theorem build117 (x y z:Value):fK P 117 [(0,.agg ⟨[x,y,z]⟩)]=some (.agg ⟨x::y::z::(List.replicate 64 (.bool false)++List.replicate 792 (.int .i64 0))⟩):=by kernel_rfl
def site0 (x y z:Value) (k:Nat):Value:=if k=0 then x else if k=1 then y else if k=2 then z else if k<67 then .bool false else .int .i64 0
theorem site0_at (x y z:Value) (k:Nat) (hk:k<859):(x::y::z::(List.replicate 64 (Value.bool false)++List.replicate 792 (Value.int .i64 0)))[k]?=some (site0 x y z k):=by
  match k,hk with
  | 0,_=>rfl
  | 1,_=>rfl
  | 2,_=>rfl
  | k+3,hk=>
    rw[List.getElem?_cons_succ,List.getElem?_cons_succ,List.getElem?_cons_succ]
    unfold site0
    rw[if_neg (by omega),if_neg (by omega),if_neg (by omega)]
    by_cases h:k<64
    · rw[List.getElem?_append_left (by simp; omega),List.getElem?_replicate,if_pos h,if_pos (by omega)]
    · rw[List.getElem?_append_right (by simp; omega),List.getElem?_replicate,List.length_replicate,if_pos (by omega),if_neg (by omega)]
structure Good (np nj nk:Nat) (ps js ks:List Int):Prop where
  np8:np≤8
  nj16:nj≤16
  nk3:nk≤3
  np1:np≠0
  nk1:nk≠0
  ok:¬ GBad np nj nk ps js ks
theorem CW {np nj nk:Nat} {ps js ks:List Int} (h:dX np nj nk ps js ks=0):Good np nj nk ps js ks:=by
  unfold dX at h
  by_cases c1:8<np∨16<nj∨3<nk
  · rw[if_pos c1] at h; omega
  · rw[if_neg c1] at h
    by_cases c2:np=0∨nk=0
    · rw[if_pos c2] at h; omega
    · rw[if_neg c2] at h
      by_cases c3:GBad np nj nk ps js ks
      · rw[if_pos c3] at h; omega
      · exact⟨by omega,by omega,by omega,by omega,by omega,c3⟩
theorem Good.kinds {np nj nk:Nat} {ps js ks:List Int} (h:Good np nj nk ps js ks):kj ks nk:=by
  intro kd hkd
  have hb:¬ KBad ks kd:=fun c=>h.ok (.inr (.inl ⟨kd,hkd,c⟩))
  unfold KBad at hb
  unfold okR
  omega
theorem Good.joins {np nj nk:Nat} {ps js ks:List Int} (h:Good np nj nk ps js ks) (hl:js.length=nj * 2) (i:Nat) (hi:i<nj):∃ A B:Nat,js[i * 2]?=some (A:Int)∧js[i * 2+1]?=some (B:Int)∧A<np∧B<np:=by
  have hb:∀ i,i<nj→okJ js np nj (js.getD (i * 2) 0) (js.getD (i * 2+1) 0):=(joins_all hl).2 fun c=>h.ok (.inr (.inr c))
  obtain⟨o1,o2,_,_⟩:=hb i hi
  refine⟨(js.getD (i * 2) 0).toNat,(js.getD (i * 2+1) 0).toNat,?_,?_,by omega,by omega⟩
  · rw[getD_some (show i * 2<js.length by omega)]; congr 1; omega
  · rw[getD_some (show i * 2+1<js.length by omega)]; congr 1; omega
def Opened (r:Res) (n:Nat) (H:Hp) (v:Value) (np nj nk:Nat) (js ks:List Int):Prop:=∃(g:Nat) (x y z:Value) (f:Nat→Value) (H':Hp) (n':Nat),r=some (.tuple ⟨[.pointer (some ⟨g,0,none⟩),.int .i64 0]⟩,H',n')∧n≤n'∧Keep n H H'∧n≤g∧g<n' ∧
  v=.agg ⟨[x,y,z]⟩∧cx H' g 859 117 f∧SiteF f x y z js nj∧∀ p kd,p<np→kd<nk→pZ f js ks nj np p kd
theorem open_spec (l:Nat) {np nj nk:Nat} {ps js ks:List Int} {H:Hp} {n:Nat} {v:Value} (hg:iy H n v np nj nk ps js ks) (hnp:np≤1000) (hnj:nj≤1000) (hnk:nk≤1000) :
    (dX np nj nk ps js ks≠0→Ret (Wz (cal (l+5)) KK v H n) n H (.tuple ⟨[.pointer none,.int .i64 (dX np nj nk ps js ks)]⟩)) ∧
    (dX np nj nk ps js ks=0→Opened (Wz (cal (l+5)) KK v H n) n H v np nj nk js ks):=by
  have hg0:=hg
  obtain⟨x,y,z,rfl,h1,h2,h3⟩:=hg
  unfold Wz B61_0
  generalize hS:S61_1 (cal (l+5)) KK KK=S
  rw[cQ]
  simp only[bj,ptr]
  have hk:Keep n H (H.set n (some (.cells [x,y,z] 35 false none))):=(Keep.refl n H).set (Nat.le_refl _) _
  have hb:aX (H.set n (some (.cells [x,y,z] 35 false none))) n 0 [x,y,z]:=aX.new
  generalize H.set n (some (.cells [x,y,z] 35 false none))=H1 at hk hb ⊢
  have lg:∀ H2,aX H2 n 0 [x,y,z]→az P H2 35 ⟨n,0,none⟩=some (.agg ⟨[x,y,z]⟩):=fun H2 h=>bY (o:=0) (k:=0) h QY sz35 (by simp) (by simp [h1.hole.1,h2.hole.1,h3.hole.1])
  obtain⟨H2,n2,e1,e2,e3⟩:=check_call (ρ:=Value × Hp × Nat) (l+1) (hg0.keep hk (show n≤n+1 by omega)) hnp hnj hnk
  rw[aJ,aj,lg H1 hb,aj,e1,ak lw]
  constructor
  · intro hne
    rw[decide_eq_false hne,Bool.not_false,eJ]
    exact⟨H2,n2,rfl,by omega,hk.trans e3 (by omega)⟩
  · intro he
    have good:=CW he
    have hb2:=hb.keep e3 (by omega)
    rw[decide_eq_true he,Bool.not_true,dW,aj,lg H2 hb2,aj,build117,aj,cQ]
    simp only[bj,ptr]
    have kk:Keep n H H2:=hk.trans e3 (by omega)
    have hf:cx (H2.set n2 (some (.cells (x::y::z::(List.replicate 64 (.bool false)++List.replicate 792 (.int .i64 0))) 117 false none))) n2 859 117 (site0 x y z):=cx.new (by simp) _ (site0_at x y z)
    have kk2:Keep n H (H2.set n2 (some (.cells (x::y::z::(List.replicate 64 (.bool false)++List.replicate 792 (.int .i64 0))) 117 false none))):=kk.set (by omega) _
    generalize H2.set n2 (some (.cells (x::y::z::(List.replicate 64 (.bool false)++List.replicate 792 (.int .i64 0))) 117 false none))=H3 at hf kk2 ⊢
    have ly:az P H3 32 ⟨n2,0+0+1,none⟩=some y:=hf.load (P:=P) (k:=1) agg32 (by omega)
    have ey:lenV P 32 y=some (.int .i64 nj):=h2.len_eq und32
    rw[kW,aj,pw,aj,fa35_1,aj,aJ,aj,ly,aj,ey,aj,← hS]
    have hlx:lenV P 31 x=some (.int .i64 np):=h1.len_eq CJ
    refine near_loop61 (cal (l+5)) KK n2 np nj js x y z good.np8 hnj (good.joins h2.1) (fun r=>Opened r n H (.agg ⟨[x,y,z]⟩) np nj nk js ks) H n (by omega) h2
      (fun H4 n4 f4 q1 q2 q3 q4 q5 _=>nests_loop2 l KK n2 np nj nk js ks x y z good.np8 good.nk3 good.kinds (fun r=>Opened r n H (.agg ⟨[x,y,z]⟩) np nj nk js ks) H n (by omega) h3 hlx
        (fun H5 n5 f5 p1 p2 p3 p4 p5 p6=>⟨n2,x,y,z,f5,H5,n5,rfl,by omega,p3,by omega,p2,rfl,p4,p5,p6⟩) KK 0 H4 n4 f4 q1 q2 q3 q4 q5 (fun p kd _ _ h=>by omega) (by omega) (by have:=good.np8; unfold KK; omega)) hlx
      KK 0 H3 (n2+1) (site0 x y z) (by omega) (by omega) kk2 hf ⟨rfl,rfl,rfl,fun a b ha hb=>?_⟩ (by omega) (by unfold KK; omega)
    unfold site0
    rw[if_neg (by omega),if_neg (by omega),if_neg (by omega),if_pos (by omega),nearB_zero]
theorem flat61:fw P 61=false:=by kernel_rfl
theorem call61 (l:Nat) (a:Value) (H:Hp) (n:Nat):(cal (l+1)).call 61 [a] H n=Wz (cal l) KK a H n:=by kernel_rfl
theorem open_call (l:Nat) (v:Value) (H:Hp) (n:Nat) (k:Value→Hp→Nat→Option ρ):aV P (cal (l+6)) 61 [v] H n k=aq (Wz (cal (l+5)) KK v H n) fun r=>k r.1 r.2.1 r.2.2:=by
  unfold aV
  rw[flat61,call61]
  rfl
end Go.Proofs.Ytgojjellogiglaa.spec
end
section
namespace Go.Ev
open Go
variable {P:Program} {t t2 e e2:TypeId} {ρ:Type}
theorem LZ {H:Hp} {b o:Nat} {L:List Value} (h:aX H b o L) (hn:L.all iw=true) {m:Nat} (hm:L.length=m):vV H ⟨b,o,none⟩ m=some L:=by
  have:=ZK (s:=m) (k:=0) h (by omega) hn
  rw[Nat.add_zero] at this
  rw[this,qbz _ _ hm]
def VecV (H:Hp) (n0 n:Nat) (s:Nat) (e:TypeId) (v:Value) (len:Nat) (L:List Value):Prop:=
  L.length=len * s∧L.all pQ=true∧L.all iw=true∧((v=.slice none 0 0∧len=0)∨∃ b,v=.slice (some ⟨b,0,none⟩) len capV∧n0≤b∧b<n∧0<len∧H.get b=some (.cells L e false (some s)))
theorem VecV.leaf {H:Hp} {n0 n s len:Nat} {v:Value} {L:List Value} (h:VecV H n0 n s e v len L):pQ v=true∧iw v=true∧oy v=true:=by
  rcases h.2.2.2 with⟨rfl,_⟩ | ⟨b,rfl,_⟩ <;> exact⟨rfl,rfl,rfl⟩
theorem VecV.same {H H':Hp} {n0 n m s len:Nat} {v:Value} {L:List Value} (h:VecV H n0 n s e v len L) (hm:n≤m) (hk:∀ b,b<n→fj v b→H'.get b=H.get b):VecV H' n0 m s e v len L:=by
  obtain⟨h1,h2,h3,h4⟩:=h
  refine⟨h1,h2,h3,?_⟩
  rcases h4 with h4 | ⟨b,e,a1,a2,a3,a4⟩
  · exact .inl h4
  · exact .inr ⟨b,e,a1,by omega,a3,by rw[hk b a2 ⟨_,_,_,_,e⟩]; exact a4⟩
theorem VecV.low {H:Hp} {n0 n s len:Nat} {v:Value} {L:List Value} (h:VecV H n0 n s e v len L) {k:Nat} (hb:fj v k):n0≤k∧k<n:=by
  obtain⟨o,l,cp,sp,hb⟩:=hb
  rcases h.2.2.2 with⟨rfl,_⟩ | ⟨b,rfl,h1,h2,_⟩
  · cases hb
  · cases hb; exact⟨h1,h2⟩
theorem VecV.len_eq {H:Hp} {n0 n s len:Nat} {v:Value} {L:List Value} (h:VecV H n0 n s e v len L) (ht:P.underlying t=some (.slice e2)):lenV P t v=some (goInt len):=by
  rcases h.2.2.2 with⟨rfl,rfl⟩ | ⟨b,rfl,_⟩ <;> simp [lenV,ht]
end Go.Ev
end
section
namespace Go.Proofs.Ytgojjellogiglaa.spec
open Go Go.Ev Go.Proofs.Ytgojjellogiglaa.nestFits Go.Proofs.Ytgojjellogiglaa.G
set_option maxRecDepth 100000
variable {ρ:Type}
noncomputable def fitD (js ks:List Int) (nj np p kd:Nat):Bool:=decide (kK (shP js ks nj np p kd) 0≤ks.getD (kd * 5) 0∧ks.getD (kd * 5) 0≤kK (shP js ks nj np p kd) 1)
def cntR (pd kd nk p:Nat):Nat:=if p<pd then nk else if p=pd then kd else 0
structure FS (H:Hp) (base n fb g:Nat) (r f:Nat→Value) (np nk pd kd:Nat) (bl:Nat→Nat→Bool):Prop where
  fits:cx H fb np 41 r
  site:cx H g 859 117 f
  fbl:fb<base
  gl:g<base
  ne:g≠fb
  bn:base≤n
  rows:∀ p,p<np→VecV H base n 1 4 (r p) (cntR pd kd nk p) ((List.range (cntR pd kd nk p)).map fun q=>.bool (bl p q))
  dis:∀ p q,p<np→q<np→p≠q→∀ k,fj (r p) k→¬ fj (r q) k
theorem FS.push {H H':Hp} {base n m fb g np nk pd kd:Nat} {r f:Nat→Value} {bl:Nat→Nat→Bool} {new:Value} (h:FS H base n fb g r f np nk pd kd bl) (hpd:pd<np) (hm:n≤m) (hk:∀ b,b<n→¬ fj (r pd) b→H'.get b=H.get b)
    (hv:VecV H' base m 1 4 new (kd+1) (((List.range kd).map fun q=>.bool (bl pd q))++[.bool (bl pd kd)])) (hf:∀ k,fj new k→n≤k) :
    ∃ H'',storeN H' ⟨fb,0+pd * 1,none⟩ [new]=some H''∧FS H'' base m fb g (putF r (0+pd * 1) [new]) f np nk pd (kd+1) bl∧∀ b,b<base→b≠fb→H''.get b=H.get b:=by
  have hfb:=h.fbl
  have hgl:=h.gl
  have hbn:=h.bn
  have hne:=h.ne
  have low:∀ b,b<base→¬ fj (r pd) b:=fun b hb hblk=>by have:=((h.rows pd hpd).low hblk).1; omega
  have cf:cx H' fb np 41 r:=by
    obtain⟨c,e1,e2,e3⟩:=h.fits
    exact⟨c,by rw[hk fb (by omega) (low fb hfb)]; exact e1,e2,e3⟩
  obtain⟨H'',s1,s2,s3⟩:=cf.storeN (o:=0+pd * 1) (vs:=[new]) (by simp; omega) (by simp [hv.leaf.1])
  refine⟨H'',s1,⟨s2,?_,hfb,hgl,hne,by omega,fun p hp=>?_,fun p q hp hq hpq k=>?_⟩,fun b hb hbf=>?_⟩
  · obtain⟨c,e1,e2,e3⟩:=h.site
    exact⟨c,by rw[s3 g hne,hk g (by omega) (low g hgl)]; exact e1,e2,e3⟩
  · rw[qZ]
    by_cases e:p=pd
    · subst e
      rw[if_pos (by omega)]
      have hc:cntR p (kd+1) nk p=kd+1:=by unfold cntR; rw[if_neg (by omega),if_pos rfl]
      rw[hc,List.range_succ,List.map_append]
      exact hv.same (Nat.le_refl _) fun b _ hb=>s3 b (by have:=(hv.low hb).1; omega)
    · rw[if_neg (by omega)]
      have hc:cntR pd (kd+1) nk p=cntR pd kd nk p:=by unfold cntR; rw[if_neg e,if_neg e]
      rw[hc]
      refine(h.rows p hp).same hm fun b hb hblk=>?_
      rw[s3 b (by have:=((h.rows p hp).low hblk).1; omega)]
      exact hk b hb (h.dis p pd hp hpd e b hblk)
  · rw[qZ,qZ]
    by_cases e1:p=pd
    · subst e1
      rw[if_pos (by omega),if_neg (by omega)]
      intro h1 h2
      have:=hf k h1
      have:=((h.rows q hq).low h2).2
      omega
    · rw[if_neg (by omega)]
      by_cases e2:q=pd
      · subst e2
        rw[if_pos (by omega)]
        intro h1 h2
        have:=hf k h2
        have:=((h.rows p hp).low h1).2
        omega
      · rw[if_neg (by omega)]
        exact h.dis p q hp hq hpq k
  · rw[s3 b hbf,hk b (by omega) (low b hb)]
theorem QZ (js ks:List Int) (nj np p kd:Nat):(shP js ks nj np p kd).length=16:=vJ ..
theorem zX {js ks:List Int} {nj np nk p kd:Nat} (hks:kj ks nk) (hkd:kd<nk) (hnp:np≤8) (hp:p<np):pq (shP js ks nj np p kd):=by
  obtain⟨_,h2,h3⟩:=hks kd hkd
  exact sharesL_bounded hnp (by omega) h2 h3
theorem Tk {H:Hp} {g np nj p kd:Nat} {f:Nat→Value} {js ks:List Int} (hf:cx H g 859 117 f) (hn:pZ f js ks nj np p kd) (hp:p<8) (hkd:kd<3) :
    ∃ B,jy (ks.getD (kd * 5) 0) (shP js ks nj np p kd) B 8∧az P H 113 ⟨g,0+67+p * 99+kd * 33,none⟩=some (.agg ⟨ints (bK (ks.getD (kd * 5) 0) (shP js ks nj np p kd) B)⟩):=by
  obtain⟨B,hB,hj⟩:=hn
  refine⟨B,hB,?_⟩
  rw[hf.load_agg (k:=0+67+p * 99+kd * 33) Ty IK (by omega)]
  have lens:(bK (ks.getD (kd * 5) 0) (shP js ks nj np p kd) B).length=33:=jx (QZ ..) hB.1
  have e:(List.range 33).map (fun j=>f (0+67+p * 99+kd * 33+j))=ints (bK (ks.getD (kd * 5) 0) (shP js ks nj np p kd) B):=by
    apply List.ext_getElem?
    intro j
    by_cases h:j<33
    · rw[List.getElem?_map,List.getElem?_range h,nX (getD_some (by omega))]
      simp only[Option.map_some]
      rw[show 0+67+p * 99+kd * 33+j=67+p * 99+kd * 33+j by omega,hj j h]
    · rw[List.getElem?_eq_none (by simp; omega),List.getElem?_eq_none (by rw[aK]; omega)]
  rw[e]
theorem FS.next {H:Hp} {base n fb g np nk pd:Nat} {r f:Nat→Value} {bl:Nat→Nat→Bool} (h:FS H base n fb g r f np nk pd nk bl):FS H base n fb g r f np nk (pd+1) 0 bl:=by
  refine⟨h.fits,h.site,h.fbl,h.gl,h.ne,h.bn,fun p hp=>?_,h.dis⟩
  have:=h.rows p hp
  have hc:cntR (pd+1) 0 nk p=cntR pd nk nk p:=by
    unfold cntR
    by_cases h1:p<pd
    · rw[if_pos h1,if_pos (by omega)]
    · by_cases h2:p=pd
      · rw[if_neg h1,if_pos h2,if_pos (by omega)]
      · rw[if_neg h1,if_neg h2,if_neg (by omega)]; split <;> rfl
  rw[hc]; exact this
end Go.Proofs.Ytgojjellogiglaa.spec
end
section
namespace Go.Proofs.Ytgojjellogiglaa.spec
open Go Go.Ev Go.Proofs.Ytgojjellogiglaa.nestFits Go.Proofs.Ytgojjellogiglaa.G
set_option maxRecDepth 100000
variable {ρ:Type}
theorem repl_one (z:Value):∀ n:Nat,repl n [z]=List.replicate n z
  | 0=>rfl
  | n+1=>by
    unfold repl
    rw[repl_one z n,List.replicate_succ]
    rfl
theorem Good.small {np nj nk:Nat} {ps js ks:List Int} (h:Good np nj nk ps js ks):EZ ks nk:=by
  intro kd hkd
  obtain⟨h1,h2,h3⟩:=h.kinds kd hkd
  unfold okR at h2 h3
  omega
theorem Good.inner {np nj nk:Nat} {ps js ks:List Int} (h:Good np nj nk ps js ks) (hl:js.length=nj * 2):Inner js nj np:=by
  intro j hj a b hJ
  obtain⟨A,B,hA,hB,h1,h2⟩:=h.joins hl j hj
  unfold J at hJ
  rw[hA,hB] at hJ
  simp only[Option.some.injEq] at hJ
  omega
open Classical in
theorem zY {js ks:List Int} {nj np p kd:Nat} (hi:Inner js nj np) (hnp:np≤8) (hp:p<np) (q:Nat) :
    (shP js ks nj np p kd).getD (q * 2) 0=(cw js ks nj kd p q).1∧(shP js ks nj np p kd).getD (q * 2+1) 0=(cw js ks nj kd p q).2:=by
  obtain⟨g1,g2⟩:=sharesL_get (a1:=ks.getD (kd * 5+1) 0) (a2:=ks.getD (kd * 5+2) 0) (a3:=ks.getD (kd * 5+3) 0) (a4:=ks.getD (kd * 5+4) 0) (near:=zW js nj p) hnp (show p<8 by omega) q
  unfold shP
  rw[g1,g2]
  unfold cw
  by_cases e:q=p
  · subst e
    rw[if_pos rfl,if_pos rfl,if_pos rfl]
    exact⟨rfl,rfl⟩
  · rw[if_neg e,if_neg e,if_neg (show ¬ (p:Int)=(q:Int) by omega)]
    by_cases hn:Near js nj p q
    · have hb:zW js nj p q=true:=by unfold zW; rw[decide_eq_true_eq]; exact hn
      have hq:q<np:=by obtain⟨j,h1,h2⟩:=hn; have:=hi j h1 _ _ h2; omega
      have hc:q<np∧zW js nj p q=true:=⟨hq,hb⟩
      rw[if_pos hc,if_pos hc,if_pos hn]
      exact⟨rfl,rfl⟩
    · have hb:¬ (q<np∧zW js nj p q=true):=fun⟨_,h⟩=>hn (by unfold zW at h; rw[decide_eq_true_eq] at h; exact h)
      rw[if_neg hb,if_neg hb,if_neg hn]
      exact⟨rfl,rfl⟩
theorem fitsB_iff8 {js ks:List Int} {nj np nk kind a:Nat} (hs:EZ ks nk) (hk:kind<nk) (ha:a<np) (hi:Inner js nj np) (hnp:np≤8) :
    QW js ks nj np kind a↔dV (fun p=>(cw js ks nj kind a p).1) 8≤ks.getD (kind * 5) 0∧ks.getD (kind * 5) 0≤dV (fun p=>(cw js ks nj kind a p).2) 8:=by
  rw[fitsB_iff hs hk ha hi (by omega)]
  have e1:dV (fun p=>(cw js ks nj kind a p).1) 11=dV (fun p=>(cw js ks nj kind a p).1) 8:=qW (by omega) fun k h1 _=>by rw[AX hi ha (by omega)]
  have e2:dV (fun p=>(cw js ks nj kind a p).2) 11=dV (fun p=>(cw js ks nj kind a p).2) 8:=qW (by omega) fun k h1 _=>by rw[AX hi ha (by omega)]
  rw[e1,e2]
theorem fits_agree {np nj nk p kd:Nat} {ps js ks:List Int} (good:Good np nj nk ps js ks) (hl:js.length=nj * 2) (hp:p<np) (hkd:kd<nk):fitD js ks nj np p kd=true↔QW js ks nj np kd p:=by
  rw[fitsB_iff8 good.small hkd hp (good.inner hl) good.np8]
  unfold fitD kK
  rw[decide_eq_true_eq,uw (f:=fun q=>(shP js ks nj np p kd).getD (q * 2+0) 0) (g:=fun q=>(cw js ks nj kd p q).1) (fun q _=>(zY (good.inner hl) good.np8 hp q).1),
    uw (f:=fun q=>(shP js ks nj np p kd).getD (q * 2+1) 0) (g:=fun q=>(cw js ks nj kd p q).2) (fun q _=>(zY (good.inner hl) good.np8 hp q).2)]
theorem call21 (l:Nat) (a b c:Value) (H:Hp) (n:Nat):(cal (l+1)).call 21 [a,b,c] H n=C21_0 (cal l) KK a b c H n:=by kernel_rfl
theorem fitsR_call (l:Nat) {np nj nk:Nat} {ps js ks:List Int} (hnj:nj≤KK) (hnp:np≤100) (kind:Nat) (hk:kind<nk) (at_:Int) (hs:EZ ks nk) {H:Hp} {n:Nat} {v:Value} (hg:GroveI H n v np nj nk ps js ks) :
    ∃(r:Bool) (H':Hp) (n':Nat),(r=true↔QW js ks nj np kind at_)∧(∀ k:Value→Hp→Nat→Option ρ,aV P (cal (l+4)) 21 [v,.int .i64 kind,.int .i64 at_] H n k=k (.bool r) H' n')∧n≤n'∧Keep n H H':=by
  obtain⟨r,H',n',⟨b,rfl,hb⟩,e1,e2,e3⟩:=dq (ρ:=ρ) (P:=P) (cal:=cal (l+4)) (f:=21) (args:=[v,.int .i64 kind,.int .i64 at_]) (H:=H) (n:=n)
    (Pre:=fun H n=>GroveI H n v np nj nk ps js ks) (Q:=fun r=>∃ b:Bool,r=.bool b∧(b=true↔QW js ks nj np kind at_))
    (fun H n h=>by
      obtain⟨r,h1,h2⟩:=fits_spec l hnj hnp kind hk at_ hs h
      exact⟨.bool r,by rw[call21]; exact h1,r,rfl,h2⟩) (fun r ⟨b,e,_⟩ _=>by subst e; rfl) hg (fun hp=>hg.nil (by simp only[bW,Bool.and_eq_true] at hp; exact hp.1))
  exact⟨b,H',n',hb,e1,e2,e3⟩
end Go.Proofs.Ytgojjellogiglaa.spec
end
section
namespace Go.Proofs.Ytgojjellogiglaa.spec
open Go Go.Ev Go.Proofs.Ytgojjellogiglaa.nestFits Go.Proofs.Ytgojjellogiglaa.G
set_option maxRecDepth 100000
variable {ρ:Type}
def ListR (H:Hp) (n:Nat) (v:Value) (len:Nat) (xs:List Int):Prop:=xs.length=len∧(∀ x ∈ xs,I64 x) ∧
  ((v=.slice none 0 0∧len=0)∨∃ b o cap,v=.slice (some ⟨b,o,none⟩) len cap∧b<n∧aX H b o (ints xs))
theorem ListR.keep {H H':Hp} {n m len:Nat} {v:Value} {xs:List Int} (h:ListR H n v len xs) (hk:Keep n H H') (hm:n≤m):ListR H' m v len xs:=by
  obtain⟨h1,h2,h3⟩:=h
  refine⟨h1,h2,?_⟩
  rcases h3 with h3 | ⟨b,o,cap,e,a,c⟩
  · exact .inl h3
  · exact .inr ⟨b,o,cap,e,by omega,c.keep hk a⟩
theorem ListR.nil {H:Hp} {n len:Nat} {v:Value} {xs:List Int} (h:ListR H n v len xs) (hp:bz v=true):ListR .nil 0 v len xs:=by
  obtain⟨h1,h2,h3⟩:=h
  refine⟨h1,h2,?_⟩
  rcases h3 with h3 | ⟨b,o,cap,e,a,c⟩
  · exact .inl h3
  · subst e; simp [bz] at hp
theorem und44:P.underlying 44=some (.slice 3):=by kernel_rfl
theorem sl44:jJ P 44=some 3:=by kernel_rfl
theorem sz3:szT P 3=some 1:=by kernel_rfl
theorem by3:xJ P 3=some 8:=by kernel_rfl
theorem zero3:kV P 3=some (.int .i64 0):=by kernel_rfl
theorem ListR.len_eq {H:Hp} {n len:Nat} {v:Value} {xs:List Int} (h:ListR H n v len xs):lenV P 44 v=some (.int .i64 len):=by
  rcases h.2.2 with⟨rfl,rfl⟩ | ⟨b,o,cap,rfl,_⟩
  · unfold lenV; simp only[und44]; rfl
  · unfold lenV; simp only[und44]; rfl
theorem ListR.at_ {H:Hp} {n len:Nat} {v:Value} {xs:List Int} (h:ListR H n v len xs) {i:Nat} (hi:i<len) :
    ∃ b o,aY P 44 v (.int .i64 i)=some (.pointer (some ⟨b,o,none⟩))∧b<n∧az P H 3 ⟨b,o,none⟩=some (.int .i64 (xs.getD i 0)):=by
  rcases h.2.2 with⟨rfl,rfl⟩ | ⟨b,o,cap,rfl,a,c⟩
  · omega
  · refine⟨b,o+i,?_,a,?_⟩
    · unfold aY
      simp only[und44,OJ hi,sz3]
      simp [addA]
    · exact bw c agg3 (nX (getD_some (by rw[h.1]; exact hi)))
theorem ListR.src {H:Hp} {n len:Nat} {v:Value} {xs:List Int} (h:ListR H n v len xs):tq H 1 v=some (ints xs,len):=by
  obtain⟨h1,_,h3⟩:=h
  rcases h3 with⟨rfl,rfl⟩ | ⟨b,o,cap,rfl,a,c⟩
  · have:xs=[]:=List.length_eq_zero_iff.1 h1
    subst this; rfl
  · unfold tq
    simp only[LZ c (dY _) (show(ints xs).length=len * 1 by rw[aK,h1,Nat.mul_one])]
theorem VecAt.list {H:Hp} {n0 n len:Nat} {e:TypeId} {v:Value} {xs:List Int} (h:VecAt H n0 n 1 e v len xs) (hx:∀ x ∈ xs,I64 x):ListR H n v len xs:=by
  obtain⟨h1,h2⟩:=h
  refine⟨by omega,hx,?_⟩
  rcases h2 with h2 | ⟨b,e,a1,a2,a3,a4⟩
  · exact .inl h2
  · exact .inr ⟨b,0,capV,e,a2,fx a4⟩
theorem row44_0:EW P 44 0 []=some ([],3):=by kernel_rfl
theorem list_spec (c:Cal) (k:Nat) {H:Hp} {n len:Nat} {v:Value} {xs:List Int} (h:ListR H n v len xs) (hlen:len≤1000) :
    ∃ u H' n',Nw c k v H n=some (u,H',n')∧n≤n'∧Keep n H H'∧ListR H' n' u len xs:=by
  unfold Nw B23_0 rowK
  rw[row44_0,aj]
  unfold newK
  dsimp only
  have hk:Keep n H (H.set n (some (.cells [] 3 false none))):=(Keep.refl n H).set (Nat.le_refl _) _
  have hg:(H.set n (some (.cells [] 3 false none))).get n=some (.cells [] 3 false none):=by rw[Tr.get_set,if_pos rfl]
  have h1:=h.keep hk (show n≤n+1 by omega)
  generalize H.set n (some (.cells [] 3 false none))=H1 at hk hg h1 ⊢
  have hold:vV H1 ⟨n,0,none⟩ (0 * 1)=some []:=LZ (L:=[]) (fx hg) rfl rfl
  have hbig:xy (0+len) 1 8=true:=by unfold xy; simp; omega
  have hb1:Nat.beq (bj (.int .i64 0)).length 1=true:=rfl
  have c0:Nat.blt 0 capV=true:=by decide +kernel
  by_cases h0:len=0
  · subst h0
    have hx:xs=[]:=List.length_eq_zero_iff.1 h.1
    subst hx
    have ha:jZ P (bare H1 (n+1)) 44 44 (.slice (some ⟨n,0,none⟩) 0 0) v=some (.slice (some ⟨n,0,none⟩) 0 0,bare (H1.set n (some (.cells [] 3 false none))) (n+1)):=by
      unfold jZ
      have hs:tq (bare H1 (n+1)).H 1 v=some ([],0):=h1.src
      have hold':vV (bare H1 (n+1)).H ⟨n,0,none⟩ (0 * 1)=some []:=hold
      simp only[sl44,sz3,by3,zero3,hs,hb1,hold',hbig]
      unfold vW
      have hst:storeN (bare H1 (n+1)).H (addA ⟨n,0,none⟩ (0 * 1)) []=some (H1.set n (some (.cells [] 3 false none))):=by
        unfold storeN
        simp only[addA,bare,hg]
        rfl
      have c1:Nat.ble (0+0) 0=true:=rfl
      simp only[c0,c1,hst]
      rfl
    unfold stK
    dsimp only
    rw[ha,aj]
    dsimp only [bare]
    exact⟨_,_,_,rfl,by omega,hk.set (Nat.le_refl _) _,rfl,h.2.1,.inr ⟨n,0,0,rfl,Nat.lt_succ_self _,_,[],by rw[Tr.get_set,if_pos rfl],rfl,fun k v h=>by simp [ints] at h⟩⟩
  · have ha:jZ P (bare H1 (n+1)) 44 44 (.slice (some ⟨n,0,none⟩) 0 0) v=some (.slice (some ⟨n+1,0,none⟩) len capV,bare (H1.set (n+1) (some (.cells (ints xs) 3 false (some 1)))) (n+1+1)):=by
      unfold jZ
      have hs:tq (bare H1 (n+1)).H 1 v=some (ints xs,len):=h1.src
      have hold':vV (bare H1 (n+1)).H ⟨n,0,none⟩ (0 * 1)=some []:=hold
      simp only[sl44,sz3,by3,zero3,hs,hb1,hold',hbig]
      unfold vW
      have c1:Nat.ble len 0=false:=by
        cases len with
        | zero=>exact absurd rfl h0
        | succ m=>rfl
      simp only[c0,c1,PW,bare,sJ,List.nil_append,Nat.zero_add]
    unfold stK
    dsimp only
    rw[ha,aj]
    dsimp only [bare]
    exact⟨_,_,_,rfl,by omega,hk.set (by omega) _,h.1,h.2.1,.inr ⟨n+1,0,capV,rfl,Nat.lt_succ_self _,_,ints xs,by rw[Tr.get_set,if_pos rfl],rfl,fun k v h=>by simpa using h⟩⟩
theorem call23 (l:Nat) (a:Value) (H:Hp) (n:Nat):(cal (l+1)).call 23 [a] H n=Nw (cal l) KK a H n:=by kernel_rfl
theorem flat23:fw P 23=false:=by kernel_rfl
theorem list_call (l:Nat) {H:Hp} {n len:Nat} {v:Value} {xs:List Int} (h:ListR H n v len xs) (hlen:len≤1000) :
    ∃ u H' n',(∀ k:Value→Hp→Nat→Option ρ,aV P (cal (l+1)) 23 [v] H n k=k u H' n')∧n≤n'∧Keep n H H'∧ListR H' n' u len xs:=by
  obtain⟨u,H',n',e,h1,h2,h3⟩:=list_spec (cal l) KK h hlen
  refine⟨u,H',n',fun k=>?_,h1,h2,h3⟩
  unfold aV
  rw[flat23,call23,e]
  rfl
theorem ints_loop (c:Cal) (k:Nat) {H:Hp} {n len:Nat} {u v:Value} {xs ys:List Int} (hu:ListR H n u len xs) (hv:ListR H n v len ys) (hlen:len≤1000):∀(m i:Nat),i≤len→len-i≤m →
    ∃ r,S30_1 c k m u v (.int .i64 i) H n=some (.bool r,H,n)∧(r=true↔∀ q,i≤q→q<len→xs.getD q 0=ys.getD q 0):=by
  have body:∀(b1:Value→Value→Value→Hp→Nat→Res) (m i:Nat),i≤len→(i<len→∃ r,b1 u v (.int .i64 ((i+1:Nat):Int)) H n=some (.bool r,H,n)∧(r=true↔∀ q,i+1≤q→q<len→xs.getD q 0=ys.getD q 0)) →
      ∃ r,C30_1 c k m b1 u v (.int .i64 i) H n=some (.bool r,H,n)∧(r=true↔∀ q,i≤q→q<len→xs.getD q 0=ys.getD q 0):=by
    intro b1 m i hi ih
    unfold C30_1 B30_1
    rw[hu.len_eq,aj,ak cY,iJ]
    by_cases hlt:i<len
    · rw[if_pos (by omega)]
      obtain⟨b1',o1,x1,_,x3⟩:=hu.at_ hlt
      obtain⟨b2',o2,y1,_,y3⟩:=hv.at_ hlt
      rw[x1,aj,aJ,aj,x3,aj,y1,aj,aJ,aj,y3,aj,ak lw]
      cases hd:decide (xs.getD i 0=ys.getD i 0) with
      | false=>
        rw[Bool.not_false,eJ]
        exact⟨false,rfl,⟨fun h=>(by cases h),fun h=>absurd (h i (Nat.le_refl _) hlt) (of_decide_eq_false hd)⟩⟩
      | true=>
        have hI:I64 ((i:Int)+1):=by unfold I64; omega
        have hcast:((i:Int)+1)=((i+1:Nat):Int):=by omega
        rw[Bool.not_true,dW,ak (bV hI),hcast]
        obtain⟨r,e,h⟩:=ih hlt
        refine⟨r,e,h.trans ⟨fun g q q1 q2=>?_,fun g q q1 q2=>g q (by omega) q2⟩⟩
        rcases Nat.eq_or_lt_of_le q1 with z | z
        · subst z; exact of_decide_eq_true hd
        · exact g q z q2
    · rw[if_neg (by omega)]
      exact⟨true,rfl,⟨fun _ q q1 q2=>by omega,fun _=>rfl⟩⟩
  intro m
  induction m with
  | zero=>intro i h1 h2; exact body _ 0 i h1 (fun h=>by omega)
  | succ m ih=>intro i h1 h2; exact body _ (m+1) i h1 (fun h=>ih (i+1) (by omega) (by omega))
theorem ints_spec (c:Cal) {H:Hp} {n l1 l2:Nat} {u v:Value} {xs ys:List Int} (hu:ListR H n u l1 xs) (hv:ListR H n v l2 ys) (h1:l1≤1000) :
    ∃ r,C30_0 c KK u v H n=some (.bool r,H,n)∧(r=true↔xs=ys):=by
  unfold C30_0 B30_0
  generalize hS:S30_1 c KK KK=S
  rw[hu.len_eq,aj,hv.len_eq,aj,ak lw]
  have lx:=hu.1
  have ly:=hv.1
  cases hd:decide ((l1:Int)=(l2:Int)) with
  | false=>
    rw[Bool.not_false,eJ]
    refine⟨false,rfl,⟨fun h=>(by cases h),fun h=>?_⟩⟩
    subst h
    exact absurd (by omega) (of_decide_eq_false hd)
  | true=>
    have e:l1=l2:=by have:=of_decide_eq_true hd; omega
    subst e
    rw[Bool.not_true,dW,← hS]
    obtain⟨r,e,h⟩:=ints_loop c KK hu hv h1 KK 0 (by omega) (by unfold KK; omega)
    refine⟨r,e,h.trans ⟨fun g=>?_,fun g q _ _=>by rw[g]⟩⟩
    apply List.ext_getElem?
    intro q
    by_cases hq:q<l1
    · rw[getD_some (by omega),getD_some (by omega),g q (Nat.zero_le _) hq]
    · rw[List.getElem?_eq_none (by omega),List.getElem?_eq_none (by omega)]
theorem call30 (l:Nat) (a b:Value) (H:Hp) (n:Nat):(cal (l+1)).call 30 [a,b] H n=C30_0 (cal l) KK a b H n:=by kernel_rfl
theorem ints_call (l:Nat) {H:Hp} {n l1 l2:Nat} {u v:Value} {xs ys:List Int} (hu:ListR H n u l1 xs) (hv:ListR H n v l2 ys) (h1:l1≤1000) :
    ∃(r:Bool) (H':Hp) (n':Nat),(r=true↔xs=ys)∧(∀ k:Value→Hp→Nat→Option ρ,aV P (cal (l+1)) 30 [u,v] H n k=k (.bool r) H' n')∧n≤n'∧Keep n H H':=by
  obtain⟨r,H',n',⟨b,rfl,hb⟩,e1,e2,e3⟩:=dq (ρ:=ρ) (P:=P) (cal:=cal (l+1)) (f:=30) (args:=[u,v]) (H:=H) (n:=n)
    (Pre:=fun H n=>ListR H n u l1 xs∧ListR H n v l2 ys) (Q:=fun r=>∃ b:Bool,r=.bool b∧(b=true↔xs=ys))
    (fun H n h=>by
      obtain⟨r,e,h2⟩:=ints_spec (cal l) h.1 h.2 h1
      exact⟨.bool r,⟨H,n,by rw[call30]; exact e,Nat.le_refl _,Keep.refl _ _⟩,r,rfl,h2⟩) (fun r ⟨b,e,_⟩ _=>by subst e; rfl) ⟨hu,hv⟩ (fun hp=>by
        simp only[bW,Bool.and_eq_true] at hp
        exact⟨hu.nil hp.1,hv.nil hp.2.1⟩)
  exact⟨b,H',n',hb,e1,e2,e3⟩
end Go.Proofs.Ytgojjellogiglaa.spec
end
section
namespace Go.Proofs.Ytgojjellogiglaa.spec
open Go Go.Ev Go.Proofs.Ytgojjellogiglaa.nestFits Go.Proofs.Ytgojjellogiglaa.G
set_option maxRecDepth 100000
variable {ρ:Type}
theorem und121:P.underlying 121=some (.array 8 3):=by kernel_rfl
theorem pK:eZ P 121=some true:=by kernel_rfl
theorem mK:szT P 121=some 8:=by kernel_rfl
theorem Aw:kV P 121=some (.agg ⟨ints (List.replicate 8 0)⟩):=by kernel_rfl
theorem qcj:fK P 121 []=some (.agg ⟨ints (List.replicate 8 0)⟩):=by kernel_rfl
theorem slice121 (b:Nat):Gk P 121 (.pointer (some ⟨b,0,none⟩)) none none=some (.slice (some ⟨b,0,none⟩) 8 8):=by kernel_rfl
noncomputable def valR (r:Res):Option Value:=match r with
  | some (v,_,_)=>some v
  | none=>none
theorem valR_some {r:Res} {v:Value} (h:valR r=some v):∃ H n,r=some (v,H,n):=by
  unfold valR at h
  split at h
  · cases h; exact⟨_,_,rfl⟩
  · cases h
theorem bare_run (c:Cal):valR (C101_0 c KK .nil 0)=some (.agg ⟨ints (List.replicate 8 (-1))⟩):=by kernel_rfl
theorem flat101:fw P 101=true:=by kernel_rfl
theorem call101 (l:Nat) (H:Hp) (n:Nat):(cal (l+1)).call 101 [] H n=C101_0 (cal l) KK H n:=by kernel_rfl
theorem TJ (l:Nat) (H:Hp) (n:Nat) (k:Value→Hp→Nat→Option ρ):aV P (cal (l+1)) 101 [] H n k=k (.agg ⟨ints (List.replicate 8 (-1))⟩) H n:=by
  obtain⟨H',n',e⟩:=valR_some (bare_run (cal l))
  refine fQ flat101 rfl ((call101 ..).trans e) ?_
  simp only[bz,lY,vk]
def mQ (js ks:List Int) (nj np nk p:Nat) (kind:Int):Prop:=0≤kind∧kind<nk∧fitD js ks nj np p kind.toNat=true
theorem takes_spec (l:Nat) {H:Hp} {n g np nj nk p:Nat} {f:Nat→Value} {js ks:List Int} {x y z:Value} (hf:cx H g 859 117 f) (hs:SiteF f x y z js nj) (hz:lenV P 33 z=some (.int .i64 nk)) (hn:∀ p kd,p<np→kd<nk→pZ f js ks nj np p kd) (hks:kj ks nk) (hnp:np≤8) (hnk:nk≤3) (hp:p<np) (kind:Int) :
    ∃ r,Uy (cal (l+3)) KK (.pointer (some ⟨g,0,none⟩)) (.int .i64 p) (.int .i64 kind) H n=some (.bool r,H,n)∧(r=true↔mQ js ks nj np nk p kind):=by
  unfold Uy B102_0
  have lz:az P H 33 ⟨g,0+0+2,none⟩=some z:=by
    have:=hf.load (P:=P) (k:=2) agg33 (by omega)
    rw[hs.z] at this; exact this
  rw[ak Av]
  unfold mQ
  cases c1:decide (0≤kind) with
  | false=>
    simp only[dK,fZ,dv,aj]
    exact⟨false,rfl,⟨fun h=>(by cases h),fun h=>absurd h.1 (of_decide_eq_false c1)⟩⟩
  | true=>
    have h0:=of_decide_eq_true c1
    simp only[dw,kW,aj,pw,Oy,aJ,lz,hz,ak cY,cZ]
    cases c2:decide (kind<(nk:Int)) with
    | false=>
      simp only[dK,fZ,dv,aj]
      exact⟨false,rfl,⟨fun h=>(by cases h),fun h=>absurd h.2.1 (of_decide_eq_false c2)⟩⟩
    | true=>
      have h1:=of_decide_eq_true c2
      obtain⟨kd,rfl⟩:∃ kd:Nat,kind=kd:=⟨kind.toNat,by omega⟩
      have hkd:kd<nk:=by omega
      obtain⟨B,hB,ln⟩:=Tk hf (hn p kd hp hkd) (by omega) (by omega)
      simp only[dw,kW,aj,Xk,at115 _ _ (show p<8 by omega),at114 _ _ (show kd<3 by omega),aJ,ln,fit_call l (QZ ..) hB.1 (zX hks hkd hnp hp),cZ]
      refine⟨_,rfl,?_⟩
      have e:fitD js ks nj np p (kd:Int).toNat=fitD js ks nj np p kd:=by rw[Int.toNat_natCast]
      rw[e]
      unfold fitD
      exact⟨fun h=>⟨h0,h1,h⟩,fun h=>h.2.2⟩
theorem call102 (l:Nat) (a b c:Value) (H:Hp) (n:Nat):(cal (l+1)).call 102 [a,b,c] H n=Uy (cal l) KK a b c H n:=by kernel_rfl
theorem takes_call (l:Nat) {H:Hp} {n g np nj nk p:Nat} {f:Nat→Value} {js ks:List Int} {x y z:Value} (hf:cx H g 859 117 f) (hs:SiteF f x y z js nj) (hz:lenV P 33 z=some (.int .i64 nk)) (hn:∀ p kd,p<np→kd<nk→pZ f js ks nj np p kd) (hks:kj ks nk) (hnp:np≤8) (hnk:nk≤3) (hp:p<np) (kind:Int) :
    ∃ r:Bool,(r=true↔mQ js ks nj np nk p kind)∧∀ k:Value→Hp→Nat→Option ρ,aV P (cal (l+4)) 102 [.pointer (some ⟨g,0,none⟩),.int .i64 p,.int .i64 kind] H n k=k (.bool r) H n:=by
  obtain⟨r,e,h⟩:=takes_spec l (n:=n) hf hs hz hn hks hnp hnk hp kind
  refine⟨r,h,fun k=>?_⟩
  unfold aV
  have:(fw P 102 && bW [.pointer (some ⟨g,0,none⟩),.int .i64 p,.int .i64 kind])=false:=by rw[Bool.and_eq_false_iff]; exact .inr rfl
  rw[this,call102,e]
  rfl
theorem results65_eq:cz=[.tmp 4,.cell 5 121,.tmp 6]:=by kernel_rfl
theorem res65 {H:Hp} {b:Nat} {v:Value} (p e:Value) (h:az P H 121 ⟨b,0,none⟩=some v):resV P (Tr.set (Tr.set (Tr.set Tr.nil 6 (some e)) 5 (some (.pointer (some ⟨b,0,none⟩)))) 4 (some p)) H cz=some [p,v,e]:=by
  rw[results65_eq]
  simp [resV,Tr.get_set,h]
theorem index121 {L:List Int} (hL:L.length=8) {i:Nat} (hi:i<8):Bj P 121 (.agg ⟨ints L⟩) (.int .i64 i)=some (.int .i64 (L.getD i 0)):=by
  unfold Bj
  have a3:eZ P 3=some false:=agg3
  simp only[und121,OJ hi,sz3,zz,a3]
  rw[Nat.mul_one]
  exact nX (getD_some (by omega))
def cV (ls:List Int) (np:Nat):List Int:=ls++List.replicate (8-np) (-1)
theorem Fv {ls:List Int} {np:Nat} (h:ls.length=np) (hnp:np≤8):(cV ls np).length=8:=by unfold cV; simp [h]; omega
theorem wQ {ls:List Int} {np p:Nat} (h:ls.length=np) (hp:p<np):(cV ls np).getD p 0=ls.getD p 0:=by
  unfold cV
  rw[List.getD_eq_getElem?_getD,List.getElem?_append_left (by omega),← List.getD_eq_getElem?_getD]
theorem AY {ls:List Int} {np p:Nat} (h:ls.length=np) (hp:np≤p) (hp8:p<8):(cV ls np).getD p 0=-1:=by
  unfold cV
  rw[List.getD_eq_getElem?_getD,List.getElem?_append_right (by omega),List.getElem?_replicate,if_pos (by omega)]
  rfl
def kz (js ks ls:List Int) (nj np nk:Nat):Prop:=∀ p,p<np→ls.getD p 0=-1∨mQ js ks nj np nk p (ls.getD p 0)
theorem splice_ints:∀ {L X:List Int},L.length≤X.length→fV.over (ints X) (ints L)=some (ints (L++X.drop L.length))
  | [],X,_=>by cases X <;> simp [ints,fV.over]
  | a::L,[],h=>by simp at h
  | a::L,x::X,h=>by
    have ih:=splice_ints (L:=L) (X:=X) (by simpa using h)
    simp only[ints,List.map_cons,fV.over] at ih ⊢
    rw[ih]
    simp
theorem copy_row {H:Hp} {n b np:Nat} {w:Value} {ls X:List Int} {e:TypeId} (hw:ListR H n w np ls) (h1:0<np) (h8:np≤8) (hX:X.length=8) (hg:H.get b=some (.cells (ints X) e false none)) :
    PX P (bare H n) 44 (.slice (some ⟨b,0,none⟩) 8 8) w=some (.int .i64 np,bare (H.set b (some (.cells (ints (ls++X.drop np)) e false none))) n):=by
  obtain⟨hl,_,hw⟩:=hw
  rcases hw with⟨_,h0⟩ | ⟨rb,ro,cap,rfl,hr,hc⟩
  · omega
  have hmin':Nat.min np 8=np:=Nat.min_eq_left h8
  have hld:vV H ⟨rb,ro,none⟩ (np * 1)=some (ints ls):=LZ hc (dY _) (by rw[aK,hl,Nat.mul_one])
  have hsp:fV (ints X) 0 (ints ls)=some (ints (ls++X.drop ls.length)):=by
    unfold fV
    exact splice_ints (by omega)
  have hst:storeN H ⟨b,0,none⟩ (ints ls)=some (H.set b (some (.cells (ints (ls++X.drop np)) e false none))):=by
    unfold storeN
    simp only[hg,eQ,if_true,hsp,hl]
  unfold PX
  simp only[sl44,sz3,bare,hmin',hld,hst]
  rfl
theorem openLaid_loop (l k:Nat) {H:Hp} {n g np nj nk b5 b9:Nat} {f:Nat→Value} {js ks ls:List Int} {x y z:Value} (hf:cx H g 859 117 f) (hs:SiteF f x y z js nj) (hz:lenV P 33 z=some (.int .i64 nk)) (hn:∀ p kd,p<np→kd<nk→pZ f js ks nj np p kd) (hks:kj ks nk) (hnp:np≤8) (hnk:nk≤3)
    (hls:ls.length=np) (h5:∃ w,H.get b5=some (.cells w 121 false none)∧w.length=8) (h9:H.get b9=some (.cells (ints (cV ls np)) 121 false none)) (hne:b5≠b9):∀(m i:Nat),i≤8→8-i≤m →
    ((∃ p,i≤p∧p<np∧¬ (ls.getD p 0=-1∨mQ js ks nj np nk p (ls.getD p 0)))∧∃ H',S65_1 (cal (l+4)) k m (.pointer (some ⟨b5,0,none⟩)) (.pointer (some ⟨g,0,none⟩)) (.pointer (some ⟨b9,0,none⟩)) (.agg ⟨ints (cV ls np)⟩) (.int .i64 i) H n=some (.tuple ⟨[.pointer none,.agg ⟨ints (List.replicate 8 0)⟩,.int .i64 2]⟩,H',n)∧∀ b,b≠b5→H'.get b=H.get b) ∨
    ((∀ p,i≤p→p<np→ls.getD p 0=-1∨mQ js ks nj np nk p (ls.getD p 0))∧∃ H',S65_1 (cal (l+4)) k m (.pointer (some ⟨b5,0,none⟩)) (.pointer (some ⟨g,0,none⟩)) (.pointer (some ⟨b9,0,none⟩)) (.agg ⟨ints (cV ls np)⟩) (.int .i64 i) H n=some (.tuple ⟨[.pointer (some ⟨g,0,none⟩),.agg ⟨ints (cV ls np)⟩,.int .i64 0]⟩,H',n)∧∀ b,b≠b5→H'.get b=H.get b):=by
  obtain⟨w5,h5,hw5⟩:=h5
  have body:∀(b1:Value→Value→Value→Value→Value→Hp→Nat→Res) (m i:Nat),i≤8 →
      (i<8→((∃ p,i+1≤p∧p<np∧¬ (ls.getD p 0=-1∨mQ js ks nj np nk p (ls.getD p 0)))∧∃ H',b1 (.pointer (some ⟨b5,0,none⟩)) (.pointer (some ⟨g,0,none⟩)) (.pointer (some ⟨b9,0,none⟩)) (.agg ⟨ints (cV ls np)⟩) (.int .i64 ((i+1:Nat):Int)) H n=some (.tuple ⟨[.pointer none,.agg ⟨ints (List.replicate 8 0)⟩,.int .i64 2]⟩,H',n)∧∀ b,b≠b5→H'.get b=H.get b) ∨
        ((∀ p,i+1≤p→p<np→ls.getD p 0=-1∨mQ js ks nj np nk p (ls.getD p 0))∧∃ H',b1 (.pointer (some ⟨b5,0,none⟩)) (.pointer (some ⟨g,0,none⟩)) (.pointer (some ⟨b9,0,none⟩)) (.agg ⟨ints (cV ls np)⟩) (.int .i64 ((i+1:Nat):Int)) H n=some (.tuple ⟨[.pointer (some ⟨g,0,none⟩),.agg ⟨ints (cV ls np)⟩,.int .i64 0]⟩,H',n)∧∀ b,b≠b5→H'.get b=H.get b)) →
      ((∃ p,i≤p∧p<np∧¬ (ls.getD p 0=-1∨mQ js ks nj np nk p (ls.getD p 0)))∧∃ H',C65_1 (cal (l+4)) k m b1 (.pointer (some ⟨b5,0,none⟩)) (.pointer (some ⟨g,0,none⟩)) (.pointer (some ⟨b9,0,none⟩)) (.agg ⟨ints (cV ls np)⟩) (.int .i64 i) H n=some (.tuple ⟨[.pointer none,.agg ⟨ints (List.replicate 8 0)⟩,.int .i64 2]⟩,H',n)∧∀ b,b≠b5→H'.get b=H.get b) ∨
      ((∀ p,i≤p→p<np→ls.getD p 0=-1∨mQ js ks nj np nk p (ls.getD p 0))∧∃ H',C65_1 (cal (l+4)) k m b1 (.pointer (some ⟨b5,0,none⟩)) (.pointer (some ⟨g,0,none⟩)) (.pointer (some ⟨b9,0,none⟩)) (.agg ⟨ints (cV ls np)⟩) (.int .i64 i) H n=some (.tuple ⟨[.pointer (some ⟨g,0,none⟩),.agg ⟨ints (cV ls np)⟩,.int .i64 0]⟩,H',n)∧∀ b,b≠b5→H'.get b=H.get b):=by
    intro b1 m i hi ih
    unfold C65_1 B65_1
    rw[ak cY,iJ]
    have l8:=Fv hls hnp
    by_cases hlt:i<8
    · rw[if_pos (by omega),index121 l8 hlt,aj,ak lw]
      have hI:I64 ((i:Int)+1):=by unfold I64; omega
      have hcast:((i:Int)+1)=((i+1:Nat):Int):=by omega
      have go:(i<np→ls.getD i 0=-1∨mQ js ks nj np nk i (ls.getD i 0))→∀ r:Res,r=b1 (.pointer (some ⟨b5,0,none⟩)) (.pointer (some ⟨g,0,none⟩)) (.pointer (some ⟨b9,0,none⟩)) (.agg ⟨ints (cV ls np)⟩) (.int .i64 ((i+1:Nat):Int)) H n →
          ((∃ p,i≤p∧p<np∧¬ (ls.getD p 0=-1∨mQ js ks nj np nk p (ls.getD p 0)))∧∃ H',r=some (.tuple ⟨[.pointer none,.agg ⟨ints (List.replicate 8 0)⟩,.int .i64 2]⟩,H',n)∧∀ b,b≠b5→H'.get b=H.get b) ∨
          ((∀ p,i≤p→p<np→ls.getD p 0=-1∨mQ js ks nj np nk p (ls.getD p 0))∧∃ H',r=some (.tuple ⟨[.pointer (some ⟨g,0,none⟩),.agg ⟨ints (cV ls np)⟩,.int .i64 0]⟩,H',n)∧∀ b,b≠b5→H'.get b=H.get b):=by
        rintro hok r rfl
        rcases ih hlt with⟨⟨p,q1,q2,q3⟩,q4⟩ | ⟨q1,q2⟩
        · exact .inl ⟨⟨p,by omega,q2,q3⟩,q4⟩
        · refine .inr ⟨fun p p1 p2=>?_,q2⟩
          rcases Nat.eq_or_lt_of_le p1 with z | z
          · subst z; exact hok p2
          · exact q1 p z p2
      cases c1:decide ((cV ls np).getD i 0=-1) with
      | true=>
        simp only[Bool.not_true,dK,fZ,dv,aj,dW,ak (bV hI),hcast]
        refine go (fun hp=>.inl ?_) _ rfl
        rw[← wQ hls hp]; exact of_decide_eq_true c1
      | false=>
        have hip:i<np:=by
          rcases Nat.lt_or_ge i np with q | q
          · exact q
          · exact absurd (AY hls q hlt) (of_decide_eq_false c1)
        have hv:=wQ hls hip
        obtain⟨r,hr,hc⟩:=takes_call (ρ:=Value × Hp × Nat) l (n:=n) hf hs hz hn hks hnp hnk hip ((cV ls np).getD i 0)
        rw[hv] at hr c1
        simp only[Bool.not_false,dw,hc]
        cases r with
        | true=>
          simp only[dw,ow,aj,cZ,dW,ak (bV hI),hcast]
          exact go (fun _=>.inr (hr.1 rfl)) _ rfl
        | false=>
          simp only[dw,qy,aj,cZ,eJ]
          have hst:=gJ (vs:=ints (List.replicate 8 0)) h5 (by rw[hw5]; rfl) (eQ _)
          rw[qcj,aj,kv mK rfl,hst,aj,res65 _ _ (bZ (t:=121) (s:=8) (L:=ints (List.replicate 8 0)) (e:=121) (vec:=none) (by rw[Tr.get_set,if_pos rfl]) pK mK rfl)]
          refine .inl ⟨⟨i,Nat.le_refl _,hip,?_⟩,_,rfl,fun b hb=>by rw[Tr.get_set,if_neg hb]⟩
          rintro(h | h)
          · exact of_decide_eq_false c1 h
          · exact absurd (hr.2 h) (by simp)
    · have lens:(ints (cV ls np)).length=8:=by rw[aK,l8]
      have hst:=gJ (vs:=ints (cV ls np)) h5 (by rw[hw5,lens]) (eQ _)
      rw[if_neg (by omega),aJ,aj,bZ h9 pK mK lens,aj,kv mK lens,hst,aj,
        res65 _ _ (bZ (t:=121) (s:=8) (L:=ints (cV ls np)) (e:=121) (vec:=none) (by rw[Tr.get_set,if_pos rfl]) pK mK lens)]
      exact .inr ⟨fun p p1 p2=>by omega,_,rfl,fun b hb=>by rw[Tr.get_set,if_neg hb]⟩
  intro m
  induction m with
  | zero=>intro i h1 h2; exact body _ 0 i h1 (fun h=>by omega)
  | succ m ih=>intro i h1 h2; exact body _ (m+1) i h1 (fun h=>ih (i+1) (by omega) (by omega))
end Go.Proofs.Ytgojjellogiglaa.spec
end
section
namespace Go.Proofs.Ytgojjellogiglaa.spec
open Go Go.Ev Go.Proofs.Ytgojjellogiglaa.nestFits Go.Proofs.Ytgojjellogiglaa.G
set_option maxRecDepth 100000
variable {ρ:Type}
open Classical in
noncomputable def kY (np nj nk nl:Nat) (ps js ks ls:List Int):Int:=if dX np nj nk ps js ks≠0 then dX np nj nk ps js ks else if nl=np∧kz js ks ls nj np nk then 0 else 2
def NotLaid (r:Res) (n:Nat) (H:Hp) (e:Int):Prop:=∃ H' n',r=some (.tuple ⟨[.pointer none,.agg ⟨ints (List.replicate 8 0)⟩,.int .i64 e]⟩,H',n')∧n≤n'∧Keep n H H'
def IsLaid (r:Res) (n:Nat) (H:Hp) (v:Value) (np nj nk:Nat) (js ks ls:List Int):Prop:=∃(g:Nat) (x y z:Value) (f:Nat→Value) (H':Hp) (n':Nat),r=some (.tuple ⟨[.pointer (some ⟨g,0,none⟩),.agg ⟨ints (cV ls np)⟩,.int .i64 0]⟩,H',n')∧n≤n'∧Keep n H H'∧n≤g∧g<n' ∧
  v=.agg ⟨[x,y,z]⟩∧cx H' g 859 117 f∧SiteF f x y z js nj∧∀ p kd,p<np→kd<nk→pZ f js ks nj np p kd
theorem openLaid_spec (l:Nat) {np nj nk nl:Nat} {ps js ks ls:List Int} {H:Hp} {n:Nat} {v w:Value} (hg:iy H n v np nj nk ps js ks) (hw:ListR H n w nl ls) (hnp:np≤1000) (hnj:nj≤1000) (hnk:nk≤1000) :
    (kY np nj nk nl ps js ks ls≠0→NotLaid (WJ (cal (l+6)) KK v w H n) n H (kY np nj nk nl ps js ks ls)) ∧
    (kY np nj nk nl ps js ks ls=0→IsLaid (WJ (cal (l+6)) KK v w H n) n H v np nj nk js ks ls∧nl=np∧kz js ks ls nj np nk∧dX np nj nk ps js ks=0):=by
  have hg0:=hg
  obtain⟨x,y,z,rfl,h1,h2,h3⟩:=hg
  unfold WJ B65_0
  generalize hS:S65_1 (cal (l+6)) KK KK=S
  rw[cQ,dZ Aw]
  simp only[bj,ptr]
  have hk:Keep n H ((H.set n (some (.cells [x,y,z] 35 false none))).set (n+1) (some (.cells (ints (List.replicate 8 0)) 121 false none))):=((Keep.refl n H).set (Nat.le_refl _) _).set (by omega) _
  have hb:aX ((H.set n (some (.cells [x,y,z] 35 false none))).set (n+1) (some (.cells (ints (List.replicate 8 0)) 121 false none))) n 0 [x,y,z]:=aX.new.set (by omega)
  have hr:((H.set n (some (.cells [x,y,z] 35 false none))).set (n+1) (some (.cells (ints (List.replicate 8 0)) 121 false none))).get (n+1)=some (.cells (ints (List.replicate 8 0)) 121 false none):=by rw[Tr.get_set,if_pos rfl]
  generalize (H.set n (some (.cells [x,y,z] 35 false none))).set (n+1) (some (.cells (ints (List.replicate 8 0)) 121 false none))=H1 at hk hb hr ⊢
  have lg:az P H1 35 ⟨n,0,none⟩=some (.agg ⟨[x,y,z]⟩):=bY (o:=0) (k:=0) hb QY sz35 (by simp) (by simp [h1.hole.1,h2.hole.1,h3.hole.1])
  obtain⟨o1,o2⟩:=open_spec l (hg0.keep hk (show n≤n+1+1 by omega)) hnp hnj hnk
  rw[aJ,aj,lg,aj,open_call]
  have bad:∀(H2:Hp) (n2:Nat) (e:Int),n+1+1≤n2→Keep (n+1+1) H1 H2→NotLaid (aq (bx P 121 (.pointer (some ⟨n+1,0,none⟩)) (.agg ⟨ints (List.replicate 8 0)⟩) H2) fun H_p=>
      aq (resV P (Tr.set (Tr.set (Tr.set Tr.nil 6 (some (.int .i64 e))) 5 (some (.pointer (some ⟨n+1,0,none⟩)))) 4 (some (Value.pointer none))) H_p cz) fun v_r=>some (oneV v_r,H_p,n2)) n H e:=by
    intro H2 n2 e hn hk2
    have hr2:=(hk2 (n+1) (by omega)).trans hr
    rw[kv mK rfl,gJ hr2 rfl (eQ _),aj,res65 _ _ (bZ (t:=121) (s:=8) (L:=ints (List.replicate 8 0)) (e:=121) (vec:=none) (by rw[Tr.get_set,if_pos rfl]) pK mK rfl)]
    exact⟨_,_,rfl,by omega,(hk.trans hk2 (by omega)).set (by omega) _⟩
  by_cases he:dX np nj nk ps js ks=0
  · have good:=CW he
    obtain⟨g,x',y',z',f,H2,n2,e1,e2,e3,e4,e5,e6,e7,e8,e9⟩:=o2 he
    simp only[Value.agg.injEq,Array.mk.injEq,List.cons.injEq,and_true] at e6
    obtain⟨rfl,rfl,rfl⟩:=e6
    have t0:tupV (.tuple ⟨[.pointer (some ⟨g,0,none⟩),.int .i64 0]⟩) 0=some (.pointer (some ⟨g,0,none⟩)):=rfl
    have t1:tupV (.tuple ⟨[.pointer (some ⟨g,0,none⟩),.int .i64 0]⟩) 1=some (.int .i64 0):=rfl
    have d0:decide ((0:Int)=0)=true:=rfl
    have lx:az P H2 31 ⟨g,0+0+0,none⟩=some x:=by
      have:=e7.load (P:=P) (k:=0) Bz (by omega)
      rw[e8.x] at this; exact this
    have hlx:lenV P 31 x=some (.int .i64 np):=h1.len_eq CJ
    have hlz:lenV P 33 z=some (.int .i64 nk):=h3.len_eq VZ
    have kk:Keep n H H2:=hk.trans e3 (by omega)
    have hw2:=hw.keep kk (show n≤n2 by omega)
    rw[e1,aj,t0,aj,t1,aj,ak lw,d0,Bool.not_true,dW,hw.len_eq,aj,kW,aj,pw,aj,sW,aj,aJ,aj,lx,aj,hlx,aj,ak lw]
    unfold kY
    rw[if_neg (fun h=>h he)]
    by_cases hl:nl=np
    · subst hl
      have dl:decide ((nl:Int)=(nl:Int))=true:=decide_eq_true rfl
      have l8:=Fv hw.1 good.np8
      have lens:(ints (cV ls nl)).length=8:=by rw[aK,l8]
      rw[dl,Bool.not_true,dW,TJ (l+5)]
      obtain⟨H3,k1,k2,k3⟩:=wJ (P:=P) (ρ:=Value × Hp × Nat) (H:=H2) (n:=n2) (L:=ints (List.replicate 8 (-1))) Aw rfl mK rfl (eQ _)
      rw[k3,slice121,aj]
      have hw3:=hw2.keep k1 (show n2≤n2+1 by omega)
      unfold stK
      rw[copy_row hw3 (by have:=good.np1; omega) good.np8 rfl k2,aj]
      dsimp only [bare]
      have hrow:(H3.set n2 (some (.cells (ints (ls++(List.replicate 8 (-1)).drop nl)) 121 false none))).get n2=some (.cells (ints (cV ls nl)) 121 false none):=by
        rw[Tr.get_set,if_pos rfl,List.drop_replicate]; rfl
      have kk3:Keep n2 H2 (H3.set n2 (some (.cells (ints (ls++(List.replicate 8 (-1)).drop nl)) 121 false none))):=k1.set (Nat.le_refl _) _
      generalize H3.set n2 (some (.cells (ints (ls++(List.replicate 8 (-1)).drop nl)) 121 false none))=H4 at hrow kk3 ⊢
      rw[aJ,aj,bZ hrow pK mK lens,aj,← hS]
      have hf4:=e7.keep kk3 e5
      have hr4:H4.get (n+1)=some (.cells (ints (List.replicate 8 0)) 121 false none):=by rw[kk3 _ (by omega),e3 _ (by omega)]; exact hr
      rcases openLaid_loop (l+2) KK (n:=n2+1) hf4 e8 hlz e9 good.kinds good.np8 good.nk3 hw.1 ⟨_,hr4,rfl⟩ hrow (by omega) KK 0 (by omega) (by unfold KK; omega) with⟨⟨p,q1,q2,q3⟩,H5,q4,q5⟩ | ⟨q1,H5,q4,q5⟩
      · have hno:¬ (nl=nl∧kz js ks ls nj nl nk):=fun h=>q3 (h.2 p q2)
        rw[if_neg hno]
        refine⟨fun _=>⟨H5,n2+1,q4,by omega,fun b hb=>?_⟩,fun h=>by omega⟩
        rw[q5 b (by omega),kk3 b (by omega),kk b hb]
      · have hyes:nl=nl∧kz js ks ls nj nl nk:=⟨rfl,fun p hp=>q1 p (Nat.zero_le _) hp⟩
        rw[if_pos hyes]
        refine⟨fun h=>absurd rfl h,fun _=>⟨⟨g,x,y,z,f,H5,n2+1,q4,by omega,fun b hb=>?_,by omega,by omega,rfl,?_,e8,e9⟩,rfl,hyes.2,he⟩⟩
        · rw[q5 b (by omega),kk3 b (by omega),kk b hb]
        · obtain⟨c,a1,a2,a3⟩:=hf4
          exact⟨c,by rw[q5 g (by omega)]; exact a1,a2,a3⟩
    · have dl:decide ((nl:Int)=(np:Int))=false:=decide_eq_false (by omega)
      have hno:¬ (nl=np∧kz js ks ls nj np nk):=fun h=>hl h.1
      rw[dl,Bool.not_false,eJ,if_neg hno,qcj,aj]
      exact⟨fun _=>bad H2 n2 2 e2 e3,fun h=>by omega⟩
  · obtain⟨H2,n2,e1,e2,e3⟩:=o1 he
    have t0:tupV (.tuple ⟨[.pointer none,.int .i64 (dX np nj nk ps js ks)]⟩) 0=some (.pointer none):=rfl
    have t1:tupV (.tuple ⟨[.pointer none,.int .i64 (dX np nj nk ps js ks)]⟩) 1=some (.int .i64 (dX np nj nk ps js ks)):=rfl
    unfold kY
    rw[if_pos he,e1,aj,t0,aj,t1,aj,ak lw,decide_eq_false he,Bool.not_false,eJ,qcj,aj]
    exact⟨fun _=>bad H2 n2 _ e2 e3,fun h=>absurd h he⟩
theorem flat65:fw P 65=false:=by kernel_rfl
theorem call65 (l:Nat) (a b:Value) (H:Hp) (n:Nat):(cal (l+1)).call 65 [a,b] H n=WJ (cal l) KK a b H n:=by kernel_rfl
theorem openLaid_call (l:Nat) (v w:Value) (H:Hp) (n:Nat) (k:Value→Hp→Nat→Option ρ):aV P (cal (l+7)) 65 [v,w] H n k=aq (WJ (cal (l+6)) KK v w H n) fun r=>k r.1 r.2.1 r.2.2:=by
  unfold aV
  rw[flat65,call65]
  rfl
end Go.Proofs.Ytgojjellogiglaa.spec
end
section
namespace Go.Ev
open Go
variable {P:Program} {ρ:Type}
theorem splice_one {a:Int}:∀ {X:List Int} {o:Nat},o<X.length→fV (ints X) o [.int .i64 a]=some (ints (X.set o a))
  | [],_,h=>by simp at h
  | x::X,0,_=>by
    unfold fV
    cases X <;> simp [ints,fV.over]
  | x::X,o+1,h=>by
    have ih:=splice_one (a:=a) (X:=X) (o:=o) (by simpa using h)
    unfold fV
    simp only[ints,List.map_cons,List.set_cons_succ] at ih ⊢
    rw[ih]
theorem LK {a:Int} {X:List Int} {o g:Nat} {H:Hp} {e:TypeId} {vec:Option Nat} (h:H.get g=some (.cells (ints X) e false vec)) (ho:o<X.length) :
    storeN H ⟨g,o,none⟩ [.int .i64 a]=some (H.set g (some (.cells (ints (X.set o a)) e false vec))):=by
  unfold storeN
  simp only[h,splice_one ho]
  rfl
end Go.Ev
end
section
namespace Go.Proofs.Ytgojjellogiglaa.spec
open Go Go.Ev Go.Proofs.Ytgojjellogiglaa.nestFits Go.Proofs.Ytgojjellogiglaa.G
set_option maxRecDepth 100000
variable {ρ:Type}
theorem res103 (H:Hp) (b:Nat):resV P (Tr.set Tr.nil 4 (some (.pointer (some ⟨b,0,none⟩)))) H fY=(match az P H 111 ⟨b,0,none⟩ with
  | none=>none
  | some v=>some [v]):=by kernel_rfl
def Mild (X:List Int):Prop:=∀ k:Nat,-1000000≤X.getD k 0∧X.getD k 0≤1000000
structure PlusTo (X Y Z:List Int) (i:Nat):Prop where
  len:Z.length=16
  below:∀ p,p<i→Z.getD (p * 2) 0=X.getD (p * 2) 0+Y.getD (p * 2) 0∧Z.getD (p * 2+1) 0=X.getD (p * 2+1) 0+Y.getD (p * 2+1) 0
  above:∀ p,i≤p→Z.getD (p * 2) 0=X.getD (p * 2) 0∧Z.getD (p * 2+1) 0=X.getD (p * 2+1) 0
theorem CX {H:Hp} {g o:Nat} {X:List Int} {e:TypeId} {ro:Bool} {vec:Option Nat} (h:H.get g=some (.cells (ints X) e ro vec)) (ho:o<X.length):az P H 3 ⟨g,o,none⟩=some (.int .i64 (X.getD o 0)):=by
  have:=bw (P:=P) (t:=3) (o:=0) (k:=o) (fx h) agg3 (nX (getD_some ho))
  rw[Nat.zero_add] at this
  exact this
theorem plus_loop (c:Cal) (k:Nat) {X Y:List Int} (hY:Y.length=16) (mX:Mild X) (mY:Mild Y) (b2 b4:Nat) (hne:b2≠b4):∀(m i:Nat) (Z:List Int) (H:Hp) (n:Nat),b2<n→b4<n→H.get b2=some (.cells (ints Z) 111 false none)→(∃ w,H.get b4=some (.cells w 111 false none)∧w.length=16)→PlusTo X Y Z i→i≤8→8-i≤m →
    ∃ Z' H' n',Uk c k m (.pointer (some ⟨b2,0,none⟩)) (.pointer (some ⟨b4,0,none⟩)) (.agg ⟨ints Y⟩) (.int .i64 i) H n=some (.agg ⟨ints Z'⟩,H',n')∧PlusTo X Y Z' 8:=by
  have body:∀(b1:Value→Value→Value→Value→Hp→Nat→Res) (m i:Nat) (Z:List Int) (H:Hp) (n:Nat),b2<n→b4<n→H.get b2=some (.cells (ints Z) 111 false none)→(∃ w,H.get b4=some (.cells w 111 false none)∧w.length=16)→PlusTo X Y Z i→i≤8 →
      (∀ Z2 H2 n2,b2<n2→b4<n2→H2.get b2=some (.cells (ints Z2) 111 false none)→(∃ w,H2.get b4=some (.cells w 111 false none)∧w.length=16)→PlusTo X Y Z2 (i+1)→i<8 →
        ∃ Z' H' n',b1 (.pointer (some ⟨b2,0,none⟩)) (.pointer (some ⟨b4,0,none⟩)) (.agg ⟨ints Y⟩) (.int .i64 ((i+1:Nat):Int)) H2 n2=some (.agg ⟨ints Z'⟩,H',n')∧PlusTo X Y Z' 8) →
      ∃ Z' H' n',Uz c k m b1 (.pointer (some ⟨b2,0,none⟩)) (.pointer (some ⟨b4,0,none⟩)) (.agg ⟨ints Y⟩) (.int .i64 i) H n=some (.agg ⟨ints Z'⟩,H',n')∧PlusTo X Y Z' 8:=by
    intro b1 m i Z H n hb2 hb4 hg2 hg4 hZ hi ih
    have lZ:=hZ.len
    unfold Uz B103_1
    rw[ak cY,iJ]
    by_cases hlt:i<8
    · obtain⟨g1,g2⟩:=EK (xs:=Y) (i:=i) (s:=2) (by omega)
      obtain⟨H1,k1,k2,k3⟩:=wJ (P:=P) (ρ:=Value × Hp × Nat) (H:=H) (n:=n) zero53 rfl sz53 g1 g2
      rw[if_pos (by omega),index_row hY hlt,aj,k3]
      rw[Tq (show i * 2+2≤Y.length by omega)] at k2
      have q2:H1.get b2=some (.cells (ints Z) 111 false none):=(k1 b2 hb2).trans hg2
      obtain⟨a1,a2⟩:=hZ.above i (Nat.le_refl _)
      have z0:az P H1 3 ⟨b2,0+i * 2+0,none⟩=some (.int .i64 (X.getD (i * 2) 0)):=by rw[show 0+i * 2+0=i * 2 by omega,CX q2 (by omega),a1]
      have y0:az P H1 3 ⟨n,0+0,none⟩=some (.int .i64 (Y.getD (i * 2) 0)):=bw (fx k2) agg3 rfl
      obtain⟨m1,m2⟩:=mX (i * 2)
      obtain⟨m3,m4⟩:=mY (i * 2)
      obtain⟨m5,m6⟩:=mX (i * 2+1)
      obtain⟨m7,m8⟩:=mY (i * 2+1)
      have hI0:I64 (X.getD (i * 2) 0+Y.getD (i * 2) 0):=by unfold I64; omega
      have hI1:I64 (X.getD (i * 2+1) 0+Y.getD (i * 2+1) 0):=by unfold I64; omega
      have hI:I64 ((i:Int)+1):=by unfold I64; omega
      have hcast:((i:Int)+1)=((i+1:Nat):Int):=by omega
      have s0:=LK (a:=X.getD (i * 2) 0+Y.getD (i * 2) 0) (o:=0+i * 2+0) q2 (by omega)
      have q3:(H1.set b2 (some (.cells (ints (Z.set (0+i * 2+0) (X.getD (i * 2) 0+Y.getD (i * 2) 0))) 111 false none))).get b2=some (.cells (ints (Z.set (0+i * 2+0) (X.getD (i * 2) 0+Y.getD (i * 2) 0))) 111 false none):=by rw[Tr.get_set,if_pos rfl]
      have q4:∀ b,b≠b2→(H1.set b2 (some (.cells (ints (Z.set (0+i * 2+0) (X.getD (i * 2) 0+Y.getD (i * 2) 0))) 111 false none))).get b=H1.get b:=fun b hb=>by rw[Tr.get_set,if_neg hb]
      generalize H1.set b2 (some (.cells (ints (Z.set (0+i * 2+0) (X.getD (i * 2) 0+Y.getD (i * 2) 0))) 111 false none))=H2 at s0 q3 q4
      have z1:az P H2 3 ⟨b2,0+i * 2+1,none⟩=some (.int .i64 (X.getD (i * 2+1) 0)):=by
        rw[CX q3 (by simp; omega),List.getD_eq_getElem?_getD,List.getElem?_set,if_neg (by omega),← List.getD_eq_getElem?_getD,show 0+i * 2+1=i * 2+1 by omega,a2]
      have y1:az P H2 3 ⟨n,0+1,none⟩=some (.int .i64 (Y.getD (i * 2+1) 0)):=bw (fx ((q4 n (by omega)).trans k2)) agg3 rfl
      have s1:=LK (a:=X.getD (i * 2+1) 0+Y.getD (i * 2+1) 0) (o:=0+i * 2+1) q3 (by simp; omega)
      simp only[VK b2 0 hlt,aj,fa53_0,fa53_1,aJ,z0,y0,ak (bV hI0),oX sz3 (show pQ (.int .i64 _)=true from rfl),s0,z1,y1,ak (bV hI1),s1,ak (bV hI),hcast]
      obtain⟨w,w1,w2⟩:=hg4
      refine ih _ _ (n+1) (by omega) (by omega) (by rw[Tr.get_set,if_pos rfl]) ⟨w,by rw[Tr.get_set,if_neg (Ne.symm hne),q4 _ (Ne.symm hne),k1 b4 hb4]; exact w1,w2⟩ ?_ hlt
      have e0:0+i * 2+0=i * 2:=by omega
      have e1:0+i * 2+1=i * 2+1:=by omega
      rw[e0,e1]
      refine⟨by rw[CQ]; exact lZ,fun p hp=>?_,fun p hp=>?_⟩
      · obtain⟨t1,t2⟩:=CV (q:=p) lZ hlt (X.getD (i * 2) 0+Y.getD (i * 2) 0) (X.getD (i * 2+1) 0+Y.getD (i * 2+1) 0)
        rw[t1,t2]
        by_cases e:p=i
        · subst e; rw[if_pos rfl,if_pos rfl]; exact⟨rfl,rfl⟩
        · rw[if_neg e,if_neg e]; exact hZ.below p (by omega)
      · obtain⟨t1,t2⟩:=CV (q:=p) lZ hlt (X.getD (i * 2) 0+Y.getD (i * 2) 0) (X.getD (i * 2+1) 0+Y.getD (i * 2+1) 0)
        rw[t1,t2,if_neg (by omega),if_neg (by omega)]
        exact hZ.above p (by omega)
    · have hi':i=8:=by omega
      subst hi'
      obtain⟨w,w1,w2⟩:=hg4
      have lens:(ints Z).length=16:=by rw[aK,lZ]
      rw[if_neg (by omega),aJ,aj,bZ hg2 oV qz lens,aj,kv qz lens,gJ w1 (by rw[lens,w2]) (eQ _),aj,res103,
        bZ (t:=111) (s:=16) (L:=ints Z) (e:=111) (vec:=none) (by rw[Tr.get_set,if_pos rfl]) oV qz lens]
      exact⟨Z,_,_,rfl,hZ⟩
  intro m
  induction m with
  | zero=>
    intro i Z H n h1 h2 h3 h4 h5 h6 h7
    exact body _ 0 i Z H n h1 h2 h3 h4 h5 h6 (fun _ _ _ _ _ _ _ _ h=>by omega)
  | succ m ih=>
    intro i Z H n h1 h2 h3 h4 h5 h6 h7
    exact body _ (m+1) i Z H n h1 h2 h3 h4 h5 h6 (fun Z2 H2 n2 q1 q2 q3 q4 q5 q6=>ih (i+1) Z2 H2 n2 q1 q2 q3 q4 q5 (by omega) (by omega))
theorem plus_spec (c:Cal) {X Y:List Int} (hX:X.length=16) (hY:Y.length=16) (mX:Mild X) (mY:Mild Y) :
    ∃ Z H' n',UJ c KK (.agg ⟨ints X⟩) (.agg ⟨ints Y⟩) .nil 0=some (.agg ⟨ints Z⟩,H',n')∧PlusTo X Y Z 8:=by
  unfold UJ B103_0
  generalize hS:Uk c KK KK=S
  rw[cQ,cQ,dZ XJ]
  simp only[bj,ptr]
  have g0:((((Tr.nil:Hp).set 0 (some (.cells (ints X) 111 false none))).set (0+1) (some (.cells (ints Y) 111 false none))).set (0+1+1) (some (.cells (ints (List.replicate 16 0)) 111 false none))).get 0=some (.cells (ints X) 111 false none):=by rw[Tr.get_set,if_neg (by omega),Tr.get_set,if_neg (by omega),Tr.get_set,if_pos rfl]
  have g1:((((Tr.nil:Hp).set 0 (some (.cells (ints X) 111 false none))).set (0+1) (some (.cells (ints Y) 111 false none))).set (0+1+1) (some (.cells (ints (List.replicate 16 0)) 111 false none))).get (0+1)=some (.cells (ints Y) 111 false none):=by rw[Tr.get_set,if_neg (by omega),Tr.get_set,if_pos rfl]
  have g2:((((Tr.nil:Hp).set 0 (some (.cells (ints X) 111 false none))).set (0+1) (some (.cells (ints Y) 111 false none))).set (0+1+1) (some (.cells (ints (List.replicate 16 0)) 111 false none))).get (0+1+1)=some (.cells (ints (List.replicate 16 0)) 111 false none):=by rw[Tr.get_set,if_pos rfl]
  generalize (((Tr.nil:Hp).set 0 (some (.cells (ints X) 111 false none))).set (0+1) (some (.cells (ints Y) 111 false none))).set (0+1+1) (some (.cells (ints (List.replicate 16 0)) 111 false none))=H1 at g0 g1 g2 ⊢
  rw[aJ,aj,bZ g1 oV qz (by rw[aK,hY]),aj,← hS]
  exact plus_loop c KK hY mX mY 0 (0+1+1) (by omega) KK 0 X H1 (0+1+1+1) (by omega) (by omega) g0 ⟨_,g2,rfl⟩ ⟨hX,fun p hp=>by omega,fun p _=>⟨rfl,rfl⟩⟩ (by omega) (by unfold KK; omega)
theorem flat103:fw P 103=true:=by kernel_rfl
theorem call103 (l:Nat) (a b:Value) (H:Hp) (n:Nat):(cal (l+1)).call 103 [a,b] H n=UJ (cal l) KK a b H n:=
  (show(cal (l+1)).call 103 [a,b] H n=Gy ent103 (cal l) [a,b] H n by kernel_rfl).trans (Gz ..)
theorem plus_call (l:Nat) {X Y:List Int} (hX:X.length=16) (hY:Y.length=16) (mX:Mild X) (mY:Mild Y):∃ Z,PlusTo X Y Z 8∧∀(H:Hp) (n:Nat) (k:Value→Hp→Nat→Option ρ),
    aV P (cal (l+1)) 103 [.agg ⟨ints X⟩,.agg ⟨ints Y⟩] H n k=k (.agg ⟨ints Z⟩) H n:=by
  obtain⟨Z,H',n',e,hZ⟩:=plus_spec (cal l) hX hY mX mY
  refine⟨Z,hZ,fun H n k=>fQ flat103 ?_ ((call103 ..).trans e) ?_⟩
  · simp only[bW,bz,lY,vk,Bool.and_self]
  · simp only[bz,lY,vk]
end Go.Proofs.Ytgojjellogiglaa.spec
end
section
namespace Go.Proofs.Ytgojjellogiglaa.spec
open Go Go.Ev Go.Proofs.Ytgojjellogiglaa.nestFits Go.Proofs.Ytgojjellogiglaa.G
set_option maxRecDepth 100000
variable {ρ:Type}
noncomputable def code66:Code:=cq 66
noncomputable def xK:List ResultVar:=dJ 66
noncomputable def qK:Code:=asgOf (cL (cR (cL (cR (cR code66)))))
noncomputable def rj:Code:=bodOf (cL (cR (cL (cR (cR code66)))))
noncomputable def K66 (c:Cal) (k:Nat):KC (Value × Hp × Nat):=ay P c (aw P c k) none 66 (cR (cR (cR code66))) .leaf (av P xK) X0 (av P xK)
noncomputable def T66 (v0 v1 v3 v4 v5 v9 v10:Value):Tm:=((((((((Tr.nil:Tm).set 0 (some v0)).set 1 (some v1)).set 3 (some v3)).set 4 (some v4)).set 5 (some v5)).set 8 (some v0)).set 9 (some v9)).set 10 (some v10)
theorem pre66 (c:Cal) (k:Nat) (v0 v1:Value) (H:Hp) (n:Nat):aZ P c A (k+1) 66 [v0,v1] H n =
    (boxK 121 v1 H n fun v3 H n=>cX P 111 H n fun v4 H n=>cX P 111 H n fun v5 H n=>aq (aW v3) fun a=>aq (az P H 121 a) fun v9=>aV P c 74 [v0,v9] H n fun v10 H n=>
      wq P c none 66 v10 #[11,12] qK rj (K66 c k) (upX 0 (K66 c k) X0) (av P xK) (T66 v0 v1 v3 v4 v5 v9 v10) H n []):=by
  rw[bJ (fn:=Go.Proofs.Try.f66) (c:=code66) (rs:=xK) (by kernel_rfl) (by kernel_rfl) (by kernel_rfl) (by kernel_rfl)]
  kernel_rfl
theorem post66 (c:Cal) (k:Nat) (v0 v1 v3 v4 v5 v9 v10:Value) (H:Hp) (n:Nat) (D:List Nat):K66 c k (T66 v0 v1 v3 v4 v5 v9 v10) H n D =
    (aq (aW v5) fun a=>aq (az P H 111 a) fun v17=>aq (bx P 111 v4 v17 H) fun H=>getK (tw H D) fun H=>aq (resV P ((Tr.nil:Tm).set 4 (some v4)) H xK) fun vs=>some (oneV vs,H,n)):=by
  kernel_rfl
theorem call66 (l:Nat) (a b:Value) (H:Hp) (n:Nat):(cal (l+1)).call 66 [a,b] H n=aZ P (cal l) A (KK+1) 66 [a,b] H n:=by kernel_rfl
theorem asg66_eq (l lp:Nat) (v0 v1 v3 v4 v5 v9 v10 p q:Value) (H:Hp) (n:Nat) :
    (cal (l+1)).body lp 66 qK { T:=((T66 v0 v1 v3 v4 v5 v9 v10).set 11 (some p)).set 12 (some q),H,n,D:=[] } =
      (cX P 113 H n fun v7 H n=>aq (bx P 113 v7 q H) fun H=>some (.norm,{ T:=(((T66 v0 v1 v3 v4 v5 v9 v10).set 11 (some p)).set 12 (some q)).set 7 (some v7),H,n,D:=[] })):=by kernel_rfl
theorem bod66_eq (l lp:Nat) (v0 v1 v3 v4 v5 v9 v10 p q v7:Value) (H:Hp) (n:Nat) :
    (cal (l+1)).body lp 66 rj { T:=(((T66 v0 v1 v3 v4 v5 v9 v10).set 11 (some p)).set 12 (some q)).set 7 (some v7),H,n,D:=[] } =
      (aq (aW v5) fun a=>aq (az P H 111 a) fun v13=>aq (ax P 113 v7 2) fun v14=>aq (aW v14) fun a=>aq (az P H 111 a) fun v15=>aV P (cal l) 103 [v13,v15] H n fun v16 H n=>aq (bx P 111 v5 v16 H) fun H=>
        some (.norm,{ T:=(((((((T66 v0 v1 v3 v4 v5 v9 v10).set 11 (some p)).set 12 (some q)).set 7 (some v7)).set 13 (some v13)).set 14 (some v14)).set 15 (some v15)).set 16 (some v16),H,n,D:=[] })):=by kernel_rfl
theorem res66 (H:Hp) (b:Nat):resV P ((Tr.nil:Tm).set 4 (some (.pointer (some ⟨b,0,none⟩)))) H xK=(match az P H 111 ⟨b,0,none⟩ with
  | none=>none
  | some v=>some [v]):=by kernel_rfl
theorem ntm66:ntm P 66=18:=by kernel_rfl
theorem flat74:fw P 74=false:=by kernel_rfl
theorem call74 (l:Nat) (a b:Value) (H:Hp) (n:Nat):(cal (l+1)).call 74 [a,b] H n=C74_0 (cal l) KK a b H n:=by kernel_rfl
theorem call104 (l:Nat) (a b c:Value) (H:Hp) (n:Nat):(cal (l+1)).call 104 [a,b,c] H n=DZ (cal l) KK a b c H n:=by kernel_rfl
theorem placed_call (l:Nat) (g:Nat) {L:List Int} (H:Hp) (n:Nat) (k:Value→Hp→Nat→Option ρ):aV P (cal (l+1)) 74 [.pointer (some ⟨g,0,none⟩),.agg ⟨ints L⟩] H n k =
    k (.func (.func 104) ⟨[]⟩ ⟨[.pointer (some ⟨n+1,0,none⟩),.pointer (some ⟨n,0,none⟩)]⟩) ((H.set n (some (.cells [.pointer (some ⟨g,0,none⟩)] 105 false none))).set (n+1) (some (.cells (ints L) 121 false none))) (n+2):=by
  unfold aV
  rw[flat74,call74]
  rfl
theorem range66 (c:Cal) (a b:Value) (K:KC (Value × Hp × Nat)) (X:XC (Value × Hp × Nat)) (Kr:KC (Value × Hp × Nat)) (T:Tm) (H:Hp) (n:Nat) :
    wq P c none 66 (.func (.func 104) ⟨[]⟩ ⟨[a,b]⟩) #[11,12] qK rj K X Kr T H n [] =
      aV P c 104 [.func (.yield (n+1)) #[] #[],a,b] ((H.set n (some .deferred)).set (n+1) (some (.loop .ready none 66 T (ntm P 66) #[11,12] qK rj n))) (n+2) fun _ H n'=>fin K X Kr (kZ (n+1) { T:=T,H,n:=n',D:=[n] }):=rfl
theorem yield66 (L:Nat) {H:Hp} {n lb b5 d:Nat} {v0 v1 v3 v4 v9 v10 q0:Value} {X S B:List Int} {y:Int} (hl:H.get lb=some (.loop .ready none 66 (T66 v0 v1 v3 v4 (.pointer (some ⟨b5,0,none⟩)) v9 v10) (ntm P 66) #[11,12] qK rj d))
    (h5:H.get b5=some (.cells (ints X) 111 false none)) (hX:X.length=16) (hS:S.length=16) (hB:B.length=16) (mX:Mild X) (mB:Mild B) (n5:b5≠lb) (hln:lb<n) (h5n:b5<n) :
    ∃ Z H',PlusTo X B Z 8∧(∀ k:Value→Hp→Nat→Option ρ,gk P (cal (L+2)) (.func (.yield lb) #[] #[]) [q0,.agg ⟨ints (bK y S B)⟩] H n k=k (.bool true) H' (n+1))∧H'.get lb=H.get lb ∧
      H'.get b5=some (.cells (ints Z) 111 false none)∧∀ b,b<n→b≠lb→b≠b5→H'.get b=H.get b:=by
  obtain⟨Z,hZ,hplus⟩:=plus_call (ρ:=Ex × St) L hX hB mX mB
  have lens:(ints (bK y S B)).length=33:=by rw[aK,jx hS hB]
  have hpar:vX (T66 v0 v1 v3 v4 (.pointer (some ⟨b5,0,none⟩)) v9 v10) (ntm P 66) (#[11,12]:Array Tmp).toList [q0,.agg ⟨ints (bK y S B)⟩]=some (((T66 v0 v1 v3 v4 (.pointer (some ⟨b5,0,none⟩)) v9 v10).set 11 (some q0)).set 12 (some (.agg ⟨ints (bK y S B)⟩))):=by
    rw[ntm66]; rfl
  generalize hT:T66 v0 v1 v3 v4 (.pointer (some ⟨b5,0,none⟩)) v9 v10=T at hl hpar
  obtain⟨H1,k1,k2,k3⟩:=wJ (P:=P) (ρ:=Ex × St) (H:=H) (n:=n) (L:=ints (bK y S B)) Xz (by show(ints (bK 0 ox ox)).length=33; rw[aK,jx rY rY]) IK lens (eQ _)
  have hasg:(cal (L+2)).body lb 66 qK { T:=(T.set 11 (some q0)).set 12 (some (.agg ⟨ints (bK y S B)⟩)),H,n,D:=[] }=some (.norm,{ T:=((T.set 11 (some q0)).set 12 (some (.agg ⟨ints (bK y S B)⟩))).set 7 (some (.pointer (some ⟨n,0,none⟩))),H:=H1,n:=n+1,D:=[] }):=by
    rw[← hT,asg66_eq,k3]
  have hl1:=(k1 lb hln).trans hl
  have h51:=(k1 b5 h5n).trans h5
  have hrdy:vY H1 lb=true:=by unfold vY; rw[hl1]
  have hpen:ny H1 lb=none:=by unfold ny; rw[hl1]
  have hbusy:jK H1 lb .busy none=some (H1.set lb (some (.loop .busy none 66 T (ntm P 66) #[11,12] qK rj d))):=by unfold jK; rw[hl1]
  have g5:(H1.set lb (some (.loop .busy none 66 T (ntm P 66) #[11,12] qK rj d))).get b5=some (.cells (ints X) 111 false none):=by rw[Tr.get_set,if_neg n5]; exact h51
  have g7:(H1.set lb (some (.loop .busy none 66 T (ntm P 66) #[11,12] qK rj d))).get n=some (.cells (ints (bK y S B)) 113 false none):=by rw[Tr.get_set,if_neg (by omega)]; exact k2
  have gl:(H1.set lb (some (.loop .busy none 66 T (ntm P 66) #[11,12] qK rj d))).get lb=some (.loop .busy none 66 T (ntm P 66) #[11,12] qK rj d):=by rw[Tr.get_set,if_pos rfl]
  have ho:∀ b,b≠lb→(H1.set lb (some (.loop .busy none 66 T (ntm P 66) #[11,12] qK rj d))).get b=H1.get b:=fun b hb=>by rw[Tr.get_set,if_neg hb]
  generalize H1.set lb (some (.loop .busy none 66 T (ntm P 66) #[11,12] qK rj d))=H2 at hbusy g5 g7 gl ho
  have hnb:az P H2 111 ⟨n,0+17,none⟩=some (.agg ⟨ints B⟩):=by
    have:=bY (P:=P) (k:=17) (fx g7) oV qz (by rw[lens]; omega) (dY _)
    have e:((ints (bK y S B)).drop 17).take 16=ints B:=by
      rw[zV]
      congr 1
      unfold bK
      rw[List.drop_succ_cons,List.drop_left' hS,← hB,List.take_length]
    rw[e] at this
    exact this
  have lX:(ints X).length=16:=by rw[aK,hX]
  have lZ:(ints Z).length=16:=by rw[aK,hZ.len]
  have hst:=gJ (vs:=ints Z) g5 (by rw[lX,lZ]) (eQ _)
  have q5:(H2.set b5 (some (.cells (ints Z) 111 false none))).get b5=some (.cells (ints Z) 111 false none):=by rw[Tr.get_set,if_pos rfl]
  have ql:(H2.set b5 (some (.cells (ints Z) 111 false none))).get lb=some (.loop .busy none 66 T (ntm P 66) #[11,12] qK rj d):=by rw[Tr.get_set,if_neg (Ne.symm n5)]; exact gl
  have qo:∀ b,b≠lb→b≠b5→(H2.set b5 (some (.cells (ints Z) 111 false none))).get b=H1.get b:=fun b hb hb5=>by rw[Tr.get_set,if_neg hb5]; exact ho b hb
  have hbody:∃ T',(cal (L+2)).body lb 66 rj { T:=((T.set 11 (some q0)).set 12 (some (.agg ⟨ints (bK y S B)⟩))).set 7 (some (.pointer (some ⟨n,0,none⟩))),H:=H2,n:=n+1,D:=[] }=some (.norm,{ T:=T',H:=H2.set b5 (some (.cells (ints Z) 111 false none)),n:=n+1,D:=[] }):=by
    rw[← hT,bod66_eq (L+1),aJ,aj,bZ g5 oV qz lX,aj,fa113_2,aj,aJ,aj,hnb,aj,hplus,kv qz lZ,hst,aj]
    exact⟨_,rfl⟩
  generalize H2.set b5 (some (.cells (ints Z) 111 false none))=H3 at q5 ql qo hbody
  obtain⟨T',hbody⟩:=hbody
  have hend:jK H3 lb .ready none=some (H3.set lb (some (.loop .ready none 66 T (ntm P 66) #[11,12] qK rj d))):=by unfold jK; rw[ql]
  refine⟨Z,H3.set lb (some (.loop .ready none 66 T (ntm P 66) #[11,12] qK rj d)),hZ,fun k=>?_,by rw[Tr.get_set,if_pos rfl,hl],by rw[Tr.get_set,if_neg n5]; exact q5,fun b hbn hb hb5=>by rw[Tr.get_set,if_neg hb,qo b hb hb5]; exact k1 b hbn⟩
  show stK (oQ (fun | some l=>(cal (L+2)).body l | none=>fun _ _ _=>none) P lb [q0,.agg ⟨ints (bK y S B)⟩] (bare H n)) k=_
  have hy:oQ (fun | some l=>(cal (L+2)).body l | none=>fun _ _ _=>none) P lb [q0,.agg ⟨ints (bK y S B)⟩] (bare H n)=some (.bool true,{ bare H n with H:=H3.set lb (some (.loop .ready none 66 T (ntm P 66) #[11,12] qK rj d)),n:=n+1 }):=by
    unfold oQ
    have hb:Nat.beq (ntm P 66) (ntm P 66)=true:=Nat.beq_refl _
    have hx:GJ .norm=some none:=rfl
    simp only[bare,hl,hb,hpar,hasg,hrdy,hpen,hbusy,hbody,hx,Option.isNone_none,if_true,hend]
  rw[hy]
  rfl
end Go.Proofs.Ytgojjellogiglaa.spec
end
section
namespace Go.Proofs.Ytgojjellogiglaa.spec
open Go Go.Ev Go.Proofs.Ytgojjellogiglaa.nestFits Go.Proofs.Ytgojjellogiglaa.G
set_option maxRecDepth 100000
variable {ρ:Type}
def oJ (L:List Int) (np nk:Nat):Prop:=∀ i,i<8→L.getD i 0=-1∨(i<np∧∃ kd:Nat,kd<nk∧L.getD i 0=kd)
theorem iter104_loop (c:Cal) (k:Nat) (yv:Value) (sb g np nj nk:Nat) (js ks L:List Int) (hL:L.length=8) (hK:oJ L np nk) (hnp:np≤8) (hnk:nk≤3) (Inv:Nat→Hp→Nat→Prop)
    (hR:∀ i H n,Inv i H n→az P H 105 ⟨sb,0,none⟩=some (.pointer (some ⟨g,0,none⟩))∧∀ p kd,p<np→kd<nk→∃ B,jy (ks.getD (kd * 5) 0) (shP js ks nj np p kd) B 8∧az P H 113 ⟨g,0+67+p * 99+kd * 33,none⟩=some (.agg ⟨ints (bK (ks.getD (kd * 5) 0) (shP js ks nj np p kd) B)⟩))
    (hY:∀(i:Nat) (H:Hp) (n kd:Nat) (B:List Int),Inv i H n→i<np→kd<nk→L.getD i 0=kd→jy (ks.getD (kd * 5) 0) (shP js ks nj np i kd) B 8 →
      ∃ H' n',(∀ k:Value→Hp→Nat→Res,gk P c yv [.int .i64 i,.agg ⟨ints (bK (ks.getD (kd * 5) 0) (shP js ks nj np i kd) B)⟩] H n k=k (.bool true) H' n')∧Inv (i+1) H' n')
    (hSkip:∀(i:Nat) (H:Hp) (n:Nat),Inv i H n→L.getD i 0=-1→Inv (i+1) H n):∀(m i:Nat) (H:Hp) (n:Nat),Inv i H n→i≤8→8-i≤m →
    ∃ H' n',S104_1 c k m yv (.pointer (some ⟨sb,0,none⟩)) (.agg ⟨ints L⟩) (.int .i64 i) H n=some (.tuple ⟨[]⟩,H',n')∧Inv 8 H' n':=by
  have body:∀(b1:Value→Value→Value→Value→Hp→Nat→Res) (m i:Nat) (H:Hp) (n:Nat),Inv i H n→i≤8 →
      (∀ H' n',Inv (i+1) H' n'→i<8→∃ H2 n2,b1 yv (.pointer (some ⟨sb,0,none⟩)) (.agg ⟨ints L⟩) (.int .i64 ((i+1:Nat):Int)) H' n'=some (.tuple ⟨[]⟩,H2,n2)∧Inv 8 H2 n2) →
      ∃ H' n',UQ c k m b1 yv (.pointer (some ⟨sb,0,none⟩)) (.agg ⟨ints L⟩) (.int .i64 i) H n=some (.tuple ⟨[]⟩,H',n')∧Inv 8 H' n':=by
    intro b1 m i H n hI hi ih
    unfold UQ B104_1
    rw[ak cY,iJ]
    by_cases hlt:i<8
    · have hI1:I64 ((i:Int)+1):=by unfold I64; omega
      have hcast:((i:Int)+1)=((i+1:Nat):Int):=by omega
      rw[if_pos (by omega),index121 hL hlt,aj,ak lw]
      rcases hK i hlt with h | ⟨hip,kd,hkd,h⟩
      · have hd:decide (L.getD i 0=-1)=true:=decide_eq_true h
        simp only[hd,Bool.not_true,dK,fZ,dv,aj,dW,ak (bV hI1),hcast]
        exact ih H n (hSkip i H n hI h) hlt
      · have hd:decide (L.getD i 0=-1)=false:=decide_eq_false (by omega)
        obtain⟨r1,r2⟩:=hR _ _ _ hI
        obtain⟨B,hB,hn⟩:=r2 i kd hip hkd
        obtain⟨H1,n1,e1,e2⟩:=hY i H n kd B hI hip hkd h hB
        rw[hd,h]
        simp only[Bool.not_false,dw,aJ,aj,r1,kW,Xk,at115 _ _ hlt,at114 _ _ (show kd<3 by omega),hn,e1,ow,cZ,dW,ak (bV hI1),hcast]
        exact ih H1 n1 e2 hlt
    · rw[if_neg (by omega)]
      have hi':i=8:=by omega
      subst hi'
      exact⟨H,n,rfl,hI⟩
  intro m
  induction m with
  | zero=>intro i H n h1 h2 h3; exact body _ 0 i H n h1 h2 (fun _ _ _ h=>by omega)
  | succ m ih=>intro i H n h1 h2 h3; exact body _ (m+1) i H n h1 h2 (fun H' n' q1 q2=>ih (i+1) H' n' q1 (by omega) (by omega))
noncomputable def bsum (js ks L:List Int) (nj np i e q:Nat):Int:=dV (fun p=>if L.getD p 0=-1 then 0 else ext (ks.getD ((L.getD p 0).toNat * 5) 0) (shP js ks nj np p (L.getD p 0).toNat) e q) i
theorem Kw {y:Int} {S:List Int} (hS:pq S) (hy:0≤y∧y≤1000) {e q:Nat} (he:e<2):-10000≤ext y S e q∧ext y S e q≤10000:=by
  obtain⟨a1,a2⟩:=hS (q * 2+e)
  obtain⟨b1,b2⟩:=hS (q * 2+(1-e))
  obtain⟨c1,c2⟩:=total_range hS (1-e)
  unfold ext
  match e,he with
  | 0,_=>unfold lim; simp only at *; omega
  | 1,_=>unfold lim; simp only at *; omega
theorem sumTo_mild {f:Nat→Int} {c:Int} (hc:0≤c):∀ {i:Nat},(∀ k,k<i→-c≤f k∧f k≤c)→-(c * i)≤dV f i∧dV f i≤c * i
  | 0,_=>by simp [dV]
  | i+1,h=>by
    obtain⟨h1,h2⟩:=sumTo_mild hc (i:=i) (fun k hk=>h k (by omega))
    obtain⟨g1,g2⟩:=h i (by omega)
    simp only[dV]
    have:c * ((i+1:Nat):Int)=c * i+c:=by rw[Int.natCast_add,Int.mul_add]; simp
    omega
theorem AZ {js ks L:List Int} {nj np nk i e q:Nat} (hks:kj ks nk) (hnp:np≤8) (hK:oJ L np nk) (hi:i≤8) (he:e<2):-1000000≤bsum js ks L nj np i e q∧bsum js ks L nj np i e q≤1000000:=by
  have h:=sumTo_mild (f:=fun p=>if L.getD p 0=-1 then 0 else ext (ks.getD ((L.getD p 0).toNat * 5) 0) (shP js ks nj np p (L.getD p 0).toNat) e q) (c:=10000) (by omega) (i:=i) (fun p hp=>by
    split
    · omega
    · rename_i hne
      rcases hK p (by omega) with h | ⟨hip,kd,hkd,h⟩
      · exact absurd h hne
      · rw[h,Int.toNat_natCast]
        obtain⟨y1,_,_⟩:=hks kd hkd
        exact Kw (zX hks hkd hnp hip) y1 he)
  unfold bsum
  omega
def Bk (X:List Int) (js ks L:List Int) (nj np i:Nat):Prop:=X.length=16∧∀ q,q<8→X.getD (q * 2) 0=bsum js ks L nj np i 0 q∧X.getD (q * 2+1) 0=bsum js ks L nj np i 1 q
theorem QK {X:List Int} (hl:X.length=16) (h:∀ q,q<8→(-1000000≤X.getD (q * 2) 0∧X.getD (q * 2) 0≤1000000)∧(-1000000≤X.getD (q * 2+1) 0∧X.getD (q * 2+1) 0≤1000000)):Mild X:=by
  intro k
  by_cases hk:k<16
  · obtain⟨h1,h2⟩:=h (k / 2) (by omega)
    rcases Nat.mod_two_eq_zero_or_one k with z | z
    · rw[show k / 2 * 2=k by omega] at h1; exact h1
    · rw[show k / 2 * 2+1=k by omega] at h2; exact h2
  · rw[List.getD_eq_getElem?_getD,List.getElem?_eq_none (by omega)]
    simp
theorem bounds_spec (l:Nat) {H:Hp} {n g np nj nk:Nat} {f:Nat→Value} {js ks L:List Int} (hgn:g<n) (hf:cx H g 859 117 f) (hn:∀ p kd,p<np→kd<nk→pZ f js ks nj np p kd) (hks:kj ks nk) (hnp:np≤8) (hnk:nk≤3) (hL:L.length=8) (hK:oJ L np nk) :
    ∃ X,Bk X js ks L nj np 8∧Ret ((cal (l+4)).call 66 [.pointer (some ⟨g,0,none⟩),.agg ⟨ints L⟩] H n) n H (.agg ⟨ints X⟩):=by
  have lens:(ints L).length=8:=by rw[aK,hL]
  rw[call66,pre66]
  simp only[cQ,dZ XJ,bj,ptr]
  generalize hH0:((H.set n (some (.cells (ints L) 121 false none))).set (n+1) (some (.cells (ints (List.replicate 16 0)) 111 false none))).set (n+1+1) (some (.cells (ints (List.replicate 16 0)) 111 false none))=H0
  have k0:Keep n H H0:=fun b hb=>by rw[← hH0,Tr.get_set,if_neg (by omega),Tr.get_set,if_neg (by omega),Tr.get_set,if_neg (by omega)]
  have p0:H0.get n=some (.cells (ints L) 121 false none):=by rw[← hH0,Tr.get_set,if_neg (by omega),Tr.get_set,if_neg (by omega),Tr.get_set,if_pos rfl]
  have p1:H0.get (n+1)=some (.cells (ints (List.replicate 16 0)) 111 false none):=by rw[← hH0,Tr.get_set,if_neg (by omega),Tr.get_set,if_pos rfl]
  have p2:H0.get (n+1+1)=some (.cells (ints (List.replicate 16 0)) 111 false none):=by rw[← hH0,Tr.get_set,if_pos rfl]
  clear hH0
  rw[aJ,aj,bZ p0 pK mK lens,aj,placed_call (l+2),range66]
  generalize hH1:(H0.set (n+1+1+1) (some (.cells [.pointer (some ⟨g,0,none⟩)] 105 false none))).set (n+1+1+1+1) (some (.cells (ints L) 121 false none))=H1
  have k1:∀ b,b<n+1+1+1→H1.get b=H0.get b:=fun b hb=>by rw[← hH1,Tr.get_set,if_neg (by omega),Tr.get_set,if_neg (by omega)]
  have q3:H1.get (n+1+1+1)=some (.cells [.pointer (some ⟨g,0,none⟩)] 105 false none):=by rw[← hH1,Tr.get_set,if_neg (by omega),Tr.get_set,if_pos rfl]
  have q4:H1.get (n+1+1+1+1)=some (.cells (ints L) 121 false none):=by rw[← hH1,Tr.get_set,if_pos rfl]
  clear hH1
  generalize hT:T66 (.pointer (some ⟨g,0,none⟩)) (.agg ⟨ints L⟩) (.pointer (some ⟨n,0,none⟩)) (.pointer (some ⟨n+1,0,none⟩)) (.pointer (some ⟨n+1+1,0,none⟩)) (.agg ⟨ints L⟩) (.func (.func 104) ⟨[]⟩ ⟨[.pointer (some ⟨n+1+1+1+1,0,none⟩),.pointer (some ⟨n+1+1+1,0,none⟩)]⟩)=T
  have hc104:∀(a b c:Value) (H:Hp) (n:Nat) (k:Value→Hp→Nat→Res),bz b=false→aV P (cal (l+3)) 104 [a,b,c] H n k=aq (DZ (cal (l+2)) KK a b c H n) fun r=>k r.1 r.2.1 r.2.2:=by
    intro a b c H n k hb
    unfold aV
    have:(fw P 104 && bW [a,b,c])=false:=by simp [bW,hb]
    rw[this,call104]
  rw[hc104 _ _ _ _ _ _ rfl]
  generalize hH2:(H1.set (n+1+1+1+2) (some .deferred)).set (n+1+1+1+2+1) (some (.loop .ready none 66 T (ntm P 66) #[11,12] qK rj (n+1+1+1+2)))=H2
  have r1:∀ b,b<n+1+1+1+2→H2.get b=H1.get b:=fun b hb=>by rw[← hH2,Tr.get_set,if_neg (by omega),Tr.get_set,if_neg (by omega)]
  have r2:H2.get (n+1+1+1+2)=some .deferred:=by rw[← hH2,Tr.get_set,if_neg (by omega),Tr.get_set,if_pos rfl]
  have r3:H2.get (n+1+1+1+2+1)=some (.loop .ready none 66 T (ntm P 66) #[11,12] qK rj (n+1+1+1+2)):=by rw[← hH2,Tr.get_set,if_pos rfl]
  clear hH2
  have hg2:H2.get g=H.get g:=by rw[r1 _ (by omega),k1 _ (by omega),k0 _ hgn]
  have l104:az P H2 121 ⟨n+1+1+1+1,0,none⟩=some (.agg ⟨ints L⟩):=bZ (by rw[r1 _ (by omega)]; exact q4) pK mK lens
  have base:Bk (List.replicate 16 0) js ks L nj np 0:=⟨rfl,fun q hq=>by
    have z:∀ k:Nat,(List.replicate 16 (0:Int)).getD k 0=0:=by
      intro k
      rw[List.getD_eq_getElem?_getD,List.getElem?_replicate]
      split <;> rfl
    rw[z,z]; exact⟨rfl,rfl⟩⟩
  obtain⟨H3,n3,e3,i0,i1,X,i2,i3,i4⟩:=iter104_loop (cal (l+2)) KK (.func (.yield (n+1+1+1+2+1)) #[] #[]) (n+1+1+1) g np nj nk js ks L hL hK hnp hnk
    (fun i Hc nc=>n+1+1+1+2+2≤nc∧Hc.get (n+1+1+1+2+1)=some (.loop .ready none 66 T (ntm P 66) #[11,12] qK rj (n+1+1+1+2))∧∃ X,Hc.get (n+1+1)=some (.cells (ints X) 111 false none)∧(i≤8→Bk X js ks L nj np i)∧∀ b,b<n+1+1+1+2+2→b≠n+1+1+1+2+1→b≠n+1+1→Hc.get b=H2.get b)
    (fun i Hc nc ⟨_,_,X,_,_,h⟩=>by
      refine⟨bq (o:=0) (k:=0) (fx (by rw[h _ (by omega) (by omega) (by omega),r1 _ (by omega)]; exact q3)) xZ rfl rfl rfl,fun p kd hp hkd=>?_⟩
      have cg:cx Hc g 859 117 f:=by
        obtain⟨c,e1,e2,e3⟩:=hf
        exact⟨c,by rw[h _ (by omega) (by omega) (by omega),hg2]; exact e1,e2,e3⟩
      exact Tk cg (hn p kd hp hkd) (by omega) (by omega))
    (fun i Hc nc kd B ⟨h1,h2,X,h3,h4,h5⟩ hip hkd hLi hB=>by
      have hX:=h4 (by omega)
      obtain⟨y1,_,_⟩:=hks kd hkd
      have hsb:=zX (js:=js) (nj:=nj) hks hkd hnp hip
      have mX:Mild X:=QK hX.1 fun q hq=>by
        obtain⟨a,b⟩:=hX.2 q hq
        rw[a,b]; exact⟨AZ hks hnp hK (by omega) (by omega),AZ hks hnp hK (by omega) (by omega)⟩
      have mB:Mild B:=QK hB.1 fun q hq=>by
        obtain⟨a,b⟩:=hB.2 q hq
        have e0:=Kw hsb y1 (e:=0) (q:=q) (by omega)
        have e1:=Kw hsb y1 (e:=1) (q:=q) (by omega)
        rw[a,b]; omega
      rw[← hT] at h2
      obtain⟨Z,H',z1,z2,z3,z4,z5⟩:=yield66 (ρ:=Value × Hp × Nat) l (n:=nc) (q0:=.int .i64 i) (y:=ks.getD (kd * 5) 0) h2 h3 hX.1 (QZ ..) hB.1 mX mB (by omega) (by omega) (by omega)
      refine⟨H',nc+1,z2,by omega,by rw[z3,h2,hT],Z,z4,fun _=>⟨z1.len,fun q hq=>?_⟩,fun b hb hb1 hb2=>(z5 b (by omega) hb1 hb2).trans (h5 b hb hb1 hb2)⟩
      obtain⟨a1,a2⟩:=z1.below q hq
      obtain⟨b1,b2⟩:=hX.2 q hq
      obtain⟨c1,c2⟩:=hB.2 q hq
      have hne:¬ L.getD i 0=-1:=by omega
      rw[a1,a2,b1,b2,c1,c2]
      unfold bsum
      simp only[dV]
      rw[if_neg hne,if_neg hne,hLi,Int.toNat_natCast]
      exact⟨rfl,rfl⟩)
    (fun i Hc nc ⟨h1,h2,X,h3,h4,h5⟩ hLi=>⟨h1,h2,X,h3,fun h8=>⟨(h4 (by omega)).1,fun q hq=>by
      obtain⟨b1,b2⟩:=(h4 (by omega)).2 q hq
      rw[b1,b2]
      unfold bsum
      simp only[dV]
      rw[if_pos hLi,if_pos hLi]
      omega⟩,h5⟩)
    KK 0 H2 (n+1+1+1+2+2) ⟨Nat.le_refl _,r3,List.replicate 16 0,by rw[r1 _ (by omega),k1 _ (by omega)]; exact p2,fun _=>base,fun _ _ _ _=>rfl⟩ (by omega) (by unfold KK; omega)
  have e3':DZ (cal (l+2)) KK (.func (.yield (n+1+1+1+2+1)) #[] #[]) (.pointer (some ⟨n+1+1+1+1,0,none⟩)) (.pointer (some ⟨n+1+1+1,0,none⟩)) H2 (n+1+1+1+2+2)=some (.tuple ⟨[]⟩,H3,n3):=by
    unfold DZ B104_0
    rw[aJ,aj,l104,aj]
    exact e3
  rw[e3',aj]
  have hout:kZ (n+1+1+1+2+1) { T:=T,H:=H3,n:=n3,D:=[n+1+1+1+2] }=some (.norm,{ T:=T,H:=H3.set (n+1+1+1+2+1) (some (.loop .exhausted none 66 T (ntm P 66) #[11,12] qK rj (n+1+1+1+2))),n:=n3,D:=[n+1+1+1+2] }):=by
    unfold kZ
    simp only[i1]
  rw[hout]
  show ∃ X,Bk X js ks L nj np 8∧Ret (K66 (cal (l+3)) KK T (H3.set (n+1+1+1+2+1) (some (.loop .exhausted none 66 T (ntm P 66) #[11,12] qK rj (n+1+1+1+2)))) n3 [n+1+1+1+2]) n H (.agg ⟨ints X⟩)
  have hRow:=i3 (by omega)
  have lX:(ints X).length=16:=by rw[aK,hRow.1]
  generalize hH4:H3.set (n+1+1+1+2+1) (some (.loop .exhausted none 66 T (ntm P 66) #[11,12] qK rj (n+1+1+1+2)))=H4
  have o1:∀ b,b<n+1+1+1+2+2→b≠n+1+1+1+2+1→b≠n+1+1→H4.get b=H2.get b:=fun b hb hb1 hb2=>by rw[← hH4,Tr.get_set,if_neg hb1]; exact i4 b hb hb1 hb2
  have o2:H4.get (n+1+1)=some (.cells (ints X) 111 false none):=by rw[← hH4,Tr.get_set,if_neg (by omega)]; exact i2
  clear hH4 hout
  have o3:H4.get (n+1)=some (.cells (ints (List.replicate 16 0)) 111 false none):=by rw[o1 _ (by omega) (by omega) (by omega),r1 _ (by omega),k1 _ (by omega)]; exact p1
  have o4:H4.get (n+1+1+1+2)=some .deferred:=by rw[o1 _ (by omega) (by omega) (by omega)]; exact r2
  refine⟨X,hRow,?_⟩
  rw[← hT,post66,aJ,aj,bZ o2 oV qz lX,aj,kv qz lX,gJ o3 (by rw[lX]; rfl) (eQ _),aj]
  generalize hH6:H4.set (n+1) (some (.cells (ints X) 111 false none))=H6
  have u1:H6.get (n+1)=some (.cells (ints X) 111 false none):=by rw[← hH6,Tr.get_set,if_pos rfl]
  have u2:∀ b,b≠n+1→H6.get b=H4.get b:=fun b hb=>by rw[← hH6,Tr.get_set,if_neg hb]
  clear hH6
  have ht:tw H6 [n+1+1+1+2]=some (H6.set (n+1+1+1+2) none):=by
    have:H6.get (n+1+1+1+2)=some .deferred:=by rw[u2 _ (by omega)]; exact o4
    unfold tw
    simp only[this]
    rfl
  rw[ht]
  show Ret (aq (resV P ((Tr.nil:Tm).set 4 (some (.pointer (some ⟨n+1,0,none⟩)))) (H6.set (n+1+1+1+2) none) xK) fun vs=>some (oneV vs,H6.set (n+1+1+1+2) none,n3)) n H _
  rw[res66,bZ (t:=111) (s:=16) (L:=ints X) (e:=111) (vec:=none) (by rw[Tr.get_set,if_neg (by omega)]; exact u1) oV qz lX]
  refine⟨_,_,rfl,by omega,fun b hb=>?_⟩
  rw[Tr.get_set,if_neg (by omega),u2 _ (by omega),o1 _ (by omega) (by omega) (by omega),r1 _ (by omega),k1 _ (by omega),k0 _ hb]
end Go.Proofs.Ytgojjellogiglaa.spec
end
section
namespace Go.Proofs.Ytgojjellogiglaa.spec
open Go Go.Ev Go.Proofs.Ytgojjellogiglaa.nestFits Go.Proofs.Ytgojjellogiglaa.G
set_option maxRecDepth 100000
variable {ρ:Type}
theorem OQ {js ks ls:List Int} {nj np nk:Nat} (hl:ls.length=np) (hok:kz js ks ls nj np nk):oJ (cV ls np) np nk:=by
  intro i hi
  rcases Nat.lt_or_ge i np with h | h
  · rw[wQ hl h]
    rcases hok i h with q | ⟨q1,q2,_⟩
    · exact .inl q
    · exact .inr ⟨h,(ls.getD i 0).toNat,by omega,by omega⟩
  · exact .inl (AY hl h hi)
theorem limit_loads {H:Hp} {n g np p:Nat} {f:Nat→Value} {x y z:Value} {ps js X:List Int} {nj b:Nat} (hf:cx H g 859 117 f) (hs:SiteF f x y z js nj) (hx:dk H n 2 x np ps) (hp:p<np) (hnp:np≤8) (hb:H.get b=some (.cells (ints X) 111 false none)) (hX:X.length=16) :
    az P H 31 ⟨g,0+0+0,none⟩=some x∧az P H 3 ⟨b,0+p * 2+0,none⟩=some (.int .i64 (X.getD (p * 2) 0))∧az P H 3 ⟨b,0+p * 2+1,none⟩=some (.int .i64 (X.getD (p * 2+1) 0)) ∧
      ∃ rb o,aY P 31 x (.int .i64 p)=some (.pointer (some ⟨rb,o,none⟩))∧az P H 3 ⟨rb,o+0,none⟩=some (.int .i64 (ps.getD (p * 2) 0))∧az P H 3 ⟨rb,o+1,none⟩=some (.int .i64 (ps.getD (p * 2+1) 0)):=by
  refine⟨?_,?_,?_,?_⟩
  · have:=hf.load (P:=P) (k:=0) Bz (by omega)
    rw[hs.x] at this; exact this
  · rw[show 0+p * 2+0=p * 2 by omega]; exact CX hb (by omega)
  · rw[show 0+p * 2+1=p * 2+1 by omega]; exact CX hb (by omega)
  · obtain⟨rb,o,hix,_,hc⟩:=hx.at_ CJ sz90 hp
    have hl:p * 2+2≤ps.length:=by rw[hx.1]; omega
    refine⟨rb,o+p * 2,hix,?_,?_⟩
    · rw[show o+p * 2+0=o+(p * 2) by omega]; exact bw hc agg3 (nX (getD_some (by omega)))
    · rw[show o+p * 2+1=o+(p * 2+1) by omega]; exact bw hc agg3 (nX (getD_some (by omega)))
theorem call68 (l:Nat) (a b c:Value) (H:Hp) (n:Nat):(cal (l+1)).call 68 [a,b,c] H n=C68_0 (cal l) KK a b c H n:=by kernel_rfl
theorem call69 (l:Nat) (a b c:Value) (H:Hp) (n:Nat):(cal (l+1)).call 69 [a,b,c] H n=C69_0 (cal l) KK a b c H n:=by kernel_rfl
theorem missed_call (l:Nat) {H:Hp} {n g np p:Nat} {f:Nat→Value} {x y z:Value} {ps js X:List Int} {nj:Nat} (hgn:g<n) (hf:cx H g 859 117 f) (hs:SiteF f x y z js nj) (hx:dk H n 2 x np ps) (hp:p<np) (hnp:np≤8) (hX:X.length=16) :
    ∃ H' n',(∀ k:Value→Hp→Nat→Option ρ,aV P (cal (l+1)) 68 [.pointer (some ⟨g,0,none⟩),.agg ⟨ints X⟩,.int .i64 p] H n k=k (.bool (decide (X.getD (p * 2) 0<ps.getD (p * 2) 0))) H' n')∧n≤n'∧Keep n H H':=by
  have hk:Keep n H (H.set n (some (.cells (ints X) 111 false none))):=(Keep.refl n H).set (Nat.le_refl _) _
  have hb:(H.set n (some (.cells (ints X) 111 false none))).get n=some (.cells (ints X) 111 false none):=by rw[Tr.get_set,if_pos rfl]
  refine⟨H.set n (some (.cells (ints X) 111 false none)),n+1,fun k=>?_,by omega,hk⟩
  unfold aV
  have:(fw P 68 && bW [.pointer (some ⟨g,0,none⟩),.agg ⟨ints X⟩,.int .i64 p])=false:=by rw[Bool.and_eq_false_iff]; exact .inr rfl
  rw[this,call68]
  unfold C68_0 B68_0
  rw[cQ]
  simp only[bj,ptr]
  obtain⟨a1,a2,a3,rb,o,a4,a5,a6⟩:=limit_loads (hf.keep hk hgn) hs ((hx.keep hk (Nat.le_refl _)).up (show n≤n+1 by omega)) hp hnp hb hX
  rw[VK n 0 (by omega),aj,fa53_0,aj,aJ,aj,a2,aj,kW,aj,pw,aj,sW,aj,aJ,aj,a1,aj,a4,aj,fa90_0,aj,aJ,aj,a5,aj,ak cY]
  rfl
theorem over_call (l:Nat) {H:Hp} {n g np p:Nat} {f:Nat→Value} {x y z:Value} {ps js X:List Int} {nj:Nat} (hgn:g<n) (hf:cx H g 859 117 f) (hs:SiteF f x y z js nj) (hx:dk H n 2 x np ps) (hp:p<np) (hnp:np≤8) (hX:X.length=16) :
    ∃ H' n',(∀ k:Value→Hp→Nat→Option ρ,aV P (cal (l+1)) 69 [.pointer (some ⟨g,0,none⟩),.agg ⟨ints X⟩,.int .i64 p] H n k=k (.bool (decide (ps.getD (p * 2+1) 0<X.getD (p * 2+1) 0))) H' n')∧n≤n'∧Keep n H H':=by
  have hk:Keep n H (H.set n (some (.cells (ints X) 111 false none))):=(Keep.refl n H).set (Nat.le_refl _) _
  have hb:(H.set n (some (.cells (ints X) 111 false none))).get n=some (.cells (ints X) 111 false none):=by rw[Tr.get_set,if_pos rfl]
  refine⟨H.set n (some (.cells (ints X) 111 false none)),n+1,fun k=>?_,by omega,hk⟩
  unfold aV
  have:(fw P 69 && bW [.pointer (some ⟨g,0,none⟩),.agg ⟨ints X⟩,.int .i64 p])=false:=by rw[Bool.and_eq_false_iff]; exact .inr rfl
  rw[this,call69]
  unfold C69_0 B69_0
  rw[cQ]
  simp only[bj,ptr]
  obtain⟨a1,a2,a3,rb,o,a4,a5,a6⟩:=limit_loads (hf.keep hk hgn) hs ((hx.keep hk (Nat.le_refl _)).up (show n≤n+1 by omega)) hp hnp hb hX
  rw[VK n 0 (by omega),aj,fa53_1,aj,aJ,aj,a3,aj,kW,aj,pw,aj,sW,aj,aJ,aj,a1,aj,a4,aj,fa90_1,aj,aJ,aj,a6,aj,ak wx]
  rfl
theorem bounds_call (l:Nat) {H:Hp} {n g np nj nk:Nat} {f:Nat→Value} {js ks L:List Int} (hgn:g<n) (hf:cx H g 859 117 f) (hn:∀ p kd,p<np→kd<nk→pZ f js ks nj np p kd) (hks:kj ks nk) (hnp:np≤8) (hnk:nk≤3) (hL:L.length=8) (hK:oJ L np nk) :
    ∃ X H' n',Bk X js ks L nj np 8∧(∀ k:Value→Hp→Nat→Option ρ,aV P (cal (l+4)) 66 [.pointer (some ⟨g,0,none⟩),.agg ⟨ints L⟩] H n k=k (.agg ⟨ints X⟩) H' n')∧n≤n'∧Keep n H H':=by
  obtain⟨X,hX,H',n',e,h1,h2⟩:=bounds_spec l hgn hf hn hks hnp hnk hL hK
  refine⟨X,H',n',hX,fun k=>?_,h1,h2⟩
  unfold aV
  have:(fw P 66 && bW [.pointer (some ⟨g,0,none⟩),.agg ⟨ints L⟩])=false:=by rw[Bool.and_eq_false_iff]; exact .inr rfl
  rw[this,e]
  rfl
end Go.Proofs.Ytgojjellogiglaa.spec
end
section
namespace Go.Proofs.Ytgojjellogiglaa.spec
open Go Go.Ev Go.Proofs.Ytgojjellogiglaa.nestFits Go.Proofs.Ytgojjellogiglaa.G
set_option maxRecDepth 100000
variable {ρ:Type}
def missB (X ps:List Int) (p:Nat):Bool:=decide (X.getD (p * 2) 0<ps.getD (p * 2) 0)
def Jj (X ps:List Int) (p:Nat):Bool:=decide (ps.getD (p * 2+1) 0<X.getD (p * 2+1) 0)
structure FL (H:Hp) (base n g b9:Nat) (f:Nat→Value) (X:List Int) (u4 u5:Value) (q4 q5:List Int):Prop where
  site:cx H g 859 117 f
  row:H.get b9=some (.cells (ints X) 111 false none)
  gl:g<base
  bl:b9<base
  bn:base≤n
  v4:VecAt H base n 1 3 u4 q4.length q4
  v5:VecAt H base n 1 3 u5 q5.length q5
  off:∀ k,fj u4 k→¬ fj u5 k
theorem FL.keep {H H':Hp} {base n m g b9:Nat} {f:Nat→Value} {X:List Int} {u4 u5:Value} {q4 q5:List Int} (h:FL H base n g b9 f X u4 u5 q4 q5) (hk:Keep n H H') (hm:n≤m):FL H' base m g b9 f X u4 u5 q4 q5:=by
  obtain⟨h1,h2,h3,h4,h5,h6,h7,h8⟩:=h
  exact⟨h1.keep hk (by omega),(hk b9 (by omega)).trans h2,h3,h4,by omega,h6.same hm fun b hb _=>hk b hb,h7.same hm fun b hb _=>hk b hb,h8⟩
end Go.Proofs.Ytgojjellogiglaa.spec
end
section
namespace Go.Proofs.Ytgojjellogiglaa.spec
open Go Go.Ev Go.Proofs.Ytgojjellogiglaa.nestFits Go.Proofs.Ytgojjellogiglaa.G
set_option maxRecDepth 100000
variable {ρ:Type}
theorem holds_loop (l k:Nat) {g b np nj:Nat} {f:Nat→Value} {x y z:Value} {ps js X:List Int} (hs:SiteF f x y z js nj) (hnp:np≤8) (hX:X.length=16):∀(m i:Nat) (H:Hp) (n:Nat),g<n→b<n→cx H g 859 117 f→H.get b=some (.cells (ints X) 111 false none)→dk H n 2 x np ps→i≤np→np-i≤m →
    ∃ r,Ret (UY (cal (l+1)) k m (.pointer (some ⟨g,0,none⟩)) (.pointer (some ⟨b,0,none⟩)) (.int .i64 np) (.int .i64 i) H n) n H (.bool r)∧(r=true↔∀ p,i≤p→p<np→Jj X ps p=false):=by
  have lX:(ints X).length=16:=by rw[aK,hX]
  have body:∀(b1:Value→Value→Value→Value→Hp→Nat→Res) (m i:Nat) (H:Hp) (n:Nat),g<n→b<n→cx H g 859 117 f→H.get b=some (.cells (ints X) 111 false none)→dk H n 2 x np ps→i≤np →
      (∀ H' n',n≤n'→Keep n H H'→i<np→∃ r,Ret (b1 (.pointer (some ⟨g,0,none⟩)) (.pointer (some ⟨b,0,none⟩)) (.int .i64 np) (.int .i64 ((i+1:Nat):Int)) H' n') n' H' (.bool r)∧(r=true↔∀ p,i+1≤p→p<np→Jj X ps p=false)) →
      ∃ r,Ret (UX (cal (l+1)) k m b1 (.pointer (some ⟨g,0,none⟩)) (.pointer (some ⟨b,0,none⟩)) (.int .i64 np) (.int .i64 i) H n) n H (.bool r)∧(r=true↔∀ p,i≤p→p<np→Jj X ps p=false):=by
    intro b1 m i H n hg hb hf hbx hx hi ih
    unfold UX B111_1
    rw[ak cY,iJ]
    by_cases hlt:i<np
    · have hI:I64 ((i:Int)+1):=by unfold I64; omega
      have hcast:((i:Int)+1)=((i+1:Nat):Int):=by omega
      obtain⟨H2,n2,c1,c2,c3⟩:=over_call (ρ:=Value × Hp × Nat) (l+0) hg hf hs hx hlt hnp hX
      rw[if_pos (by omega),aJ,aj,bZ hbx oV qz lX,aj,c1]
      cases hd:Jj X ps i with
      | true=>
        have hd':decide (ps.getD (i * 2+1) 0<X.getD (i * 2+1) 0)=true:=hd
        rw[hd',eJ]
        exact⟨false,⟨H2,n2,rfl,c2,c3⟩,⟨fun h=>(by cases h),fun h=>absurd (h i (Nat.le_refl _) hlt) (by rw[hd]; simp)⟩⟩
      | false=>
        have hd':decide (ps.getD (i * 2+1) 0<X.getD (i * 2+1) 0)=false:=hd
        rw[hd',dW,ak (bV hI),hcast]
        obtain⟨r,⟨H3,n3,e1,e2,e3⟩,e4⟩:=ih H2 n2 c2 c3 hlt
        refine⟨r,⟨H3,n3,e1,by omega,c3.trans e3 c2⟩,e4.trans ?_⟩
        refine⟨fun h p q1 q2=>?_,fun h p q1 q2=>h p (by omega) q2⟩
        rcases Nat.eq_or_lt_of_le q1 with q | q
        · subst q; exact hd
        · exact h p q q2
    · have hi':i=np:=by omega
      subst hi'
      rw[if_neg (by omega)]
      exact⟨true,⟨H,n,rfl,Nat.le_refl _,Keep.refl _ _⟩,⟨fun _ p q1 q2=>by omega,fun _=>rfl⟩⟩
  intro m
  induction m with
  | zero=>intro i H n h1 h2 h3 h4 h5 h6 h7; exact body _ 0 i H n h1 h2 h3 h4 h5 h6 (fun _ _ _ _ h=>by omega)
  | succ m ih=>intro i H n h1 h2 h3 h4 h5 h6 h7; exact body _ (m+1) i H n h1 h2 h3 h4 h5 h6 (fun H' n' q1 q2 q3=>ih (i+1) H' n' (by omega) (by omega) (h3.keep q2 h1) ((q2 b h2).trans h4) ((h5.keep q2 (Nat.le_refl _)).up q1) (by omega) (by omega))
theorem call111 (l:Nat) (a b:Value) (H:Hp) (n:Nat):(cal (l+1)).call 111 [a,b] H n=C111_0 (cal l) KK a b H n:=by kernel_rfl
theorem OV (l:Nat) {H:Hp} {n g np nj:Nat} {f:Nat→Value} {x y z:Value} {ps js X:List Int} (hg:g<n) (hf:cx H g 859 117 f) (hs:SiteF f x y z js nj) (hx:dk H n 2 x np ps) (hnp:np≤8) (hX:X.length=16) :
    ∃(r:Bool) (H':Hp) (n':Nat),(r=true↔∀ p,p<np→Jj X ps p=false)∧(∀ k:Value→Hp→Nat→Option ρ,aV P (cal (l+2)) 111 [.pointer (some ⟨g,0,none⟩),.agg ⟨ints X⟩] H n k=k (.bool r) H' n')∧n≤n'∧Keep n H H':=by
  have hk:Keep n H (H.set n (some (.cells (ints X) 111 false none))):=(Keep.refl n H).set (Nat.le_refl _) _
  have hb:(H.set n (some (.cells (ints X) 111 false none))).get n=some (.cells (ints X) 111 false none):=by rw[Tr.get_set,if_pos rfl]
  obtain⟨r,⟨H',n',e1,e2,e3⟩,e4⟩:=holds_loop l KK hs hnp hX KK 0 (H.set n (some (.cells (ints X) 111 false none))) (n+1) (by omega) (Nat.lt_succ_self n) (hf.keep hk hg) hb ((hx.keep hk (Nat.le_refl _)).up (by omega)) (by omega) (by unfold KK; omega)
  refine⟨r,H',n',?_,fun k=>?_,by omega,hk.trans e3 (by omega)⟩
  · exact e4.trans ⟨fun h p hp=>h p (Nat.zero_le _) hp,fun h p _ hp=>h p hp⟩
  · unfold aV
    have:(fw P 111 && bW [.pointer (some ⟨g,0,none⟩),.agg ⟨ints X⟩])=false:=by rw[Bool.and_eq_false_iff]; exact .inr rfl
    rw[this,call111]
    unfold C111_0 B111_0
    generalize hS:UY (cal (l+1)) KK KK=S
    have lx:az P (H.set n (some (.cells (ints X) 111 false none))) 31 ⟨g,0+0+0,none⟩=some x:=by
      have:=(hf.keep hk hg).load (P:=P) (k:=0) Bz (by omega)
      rw[hs.x] at this; exact this
    rw[cQ]
    simp only[bj,ptr]
    rw[kW,aj,pw,aj,sW,aj,aJ,aj,lx,aj,hx.len_eq CJ,aj,← hS]
    exact congrArg (fun r=>aq r _) e1
def RightX (X ps:List Int) (np:Nat):Prop:=∀ p,p<np→missB X ps p=false∧Jj X ps p=false
theorem right_loop (l k:Nat) {g b np nj:Nat} {f:Nat→Value} {x y z:Value} {ps js X:List Int} (hs:SiteF f x y z js nj) (hnp:np≤8) (hX:X.length=16):∀(m i:Nat) (H:Hp) (n:Nat),g<n→b<n→cx H g 859 117 f→H.get b=some (.cells (ints X) 111 false none)→dk H n 2 x np ps→i≤np→np-i≤m →
    ∃ r,Ret (S83_1 (cal (l+3)) k m (.pointer (some ⟨g,0,none⟩)) (.pointer (some ⟨b,0,none⟩)) (.int .i64 np) (.int .i64 i) H n) n H (.bool r)∧(r=true↔(∀ p,i≤p→p<np→missB X ps p=false)∧∀ p,p<np→Jj X ps p=false):=by
  have lX:(ints X).length=16:=by rw[aK,hX]
  have body:∀(b1:Value→Value→Value→Value→Hp→Nat→Res) (m i:Nat) (H:Hp) (n:Nat),g<n→b<n→cx H g 859 117 f→H.get b=some (.cells (ints X) 111 false none)→dk H n 2 x np ps→i≤np →
      (∀ H' n',n≤n'→Keep n H H'→i<np→∃ r,Ret (b1 (.pointer (some ⟨g,0,none⟩)) (.pointer (some ⟨b,0,none⟩)) (.int .i64 np) (.int .i64 ((i+1:Nat):Int)) H' n') n' H' (.bool r)∧(r=true↔(∀ p,i+1≤p→p<np→missB X ps p=false)∧∀ p,p<np→Jj X ps p=false)) →
      ∃ r,Ret (C83_1 (cal (l+3)) k m b1 (.pointer (some ⟨g,0,none⟩)) (.pointer (some ⟨b,0,none⟩)) (.int .i64 np) (.int .i64 i) H n) n H (.bool r)∧(r=true↔(∀ p,i≤p→p<np→missB X ps p=false)∧∀ p,p<np→Jj X ps p=false):=by
    intro b1 m i H n hg hb hf hbx hx hi ih
    unfold C83_1 B83_1
    rw[ak cY,iJ]
    by_cases hlt:i<np
    · have hI:I64 ((i:Int)+1):=by unfold I64; omega
      have hcast:((i:Int)+1)=((i+1:Nat):Int):=by omega
      obtain⟨H2,n2,c1,c2,c3⟩:=missed_call (ρ:=Value × Hp × Nat) (l+2) hg hf hs hx hlt hnp hX
      rw[if_pos (by omega),aJ,aj,bZ hbx oV qz lX,aj,c1]
      cases hd:missB X ps i with
      | true=>
        have hd':decide (X.getD (i * 2) 0<ps.getD (i * 2) 0)=true:=hd
        rw[hd',eJ]
        exact⟨false,⟨H2,n2,rfl,c2,c3⟩,⟨fun h=>(by cases h),fun h=>absurd (h.1 i (Nat.le_refl _) hlt) (by rw[hd]; simp)⟩⟩
      | false=>
        have hd':decide (X.getD (i * 2) 0<ps.getD (i * 2) 0)=false:=hd
        rw[hd',dW,ak (bV hI),hcast]
        obtain⟨r,⟨H3,n3,e1,e2,e3⟩,e4⟩:=ih H2 n2 c2 c3 hlt
        refine⟨r,⟨H3,n3,e1,by omega,c3.trans e3 c2⟩,e4.trans ?_⟩
        refine⟨fun h=>⟨fun p q1 q2=>?_,h.2⟩,fun h=>⟨fun p q1 q2=>h.1 p (by omega) q2,h.2⟩⟩
        rcases Nat.eq_or_lt_of_le q1 with q | q
        · subst q; exact hd
        · exact h.1 p q q2
    · have hi':i=np:=by omega
      subst hi'
      rw[if_neg (by omega)]
      obtain⟨r,H2,n2,c0,c1,c2,c3⟩:=OV (ρ:=Value × Hp × Nat) (l+1) hg hf hs hx hnp hX
      rw[aJ,aj,bZ hbx oV qz lX,aj,c1]
      exact⟨r,⟨H2,n2,rfl,c2,c3⟩,c0.trans ⟨fun h=>⟨fun p q1 q2=>by omega,h⟩,fun h=>h.2⟩⟩
  intro m
  induction m with
  | zero=>intro i H n h1 h2 h3 h4 h5 h6 h7; exact body _ 0 i H n h1 h2 h3 h4 h5 h6 (fun _ _ _ _ h=>by omega)
  | succ m ih=>intro i H n h1 h2 h3 h4 h5 h6 h7; exact body _ (m+1) i H n h1 h2 h3 h4 h5 h6 (fun H' n' q1 q2 q3=>ih (i+1) H' n' (by omega) (by omega) (h3.keep q2 h1) ((q2 b h2).trans h4) ((h5.keep q2 (Nat.le_refl _)).up q1) (by omega) (by omega))
theorem call83 (l:Nat) (a b:Value) (H:Hp) (n:Nat):(cal (l+1)).call 83 [a,b] H n=C83_0 (cal l) KK a b H n:=by kernel_rfl
theorem right_call (l:Nat) {H:Hp} {n g np nj:Nat} {f:Nat→Value} {x y z:Value} {ps js X:List Int} (hg:g<n) (hf:cx H g 859 117 f) (hs:SiteF f x y z js nj) (hx:dk H n 2 x np ps) (hnp:np≤8) (hX:X.length=16) :
    ∃(r:Bool) (H':Hp) (n':Nat),(r=true↔RightX X ps np)∧(∀ k:Value→Hp→Nat→Option ρ,aV P (cal (l+4)) 83 [.pointer (some ⟨g,0,none⟩),.agg ⟨ints X⟩] H n k=k (.bool r) H' n')∧n≤n'∧Keep n H H':=by
  have hk:Keep n H (H.set n (some (.cells (ints X) 111 false none))):=(Keep.refl n H).set (Nat.le_refl _) _
  have hb:(H.set n (some (.cells (ints X) 111 false none))).get n=some (.cells (ints X) 111 false none):=by rw[Tr.get_set,if_pos rfl]
  obtain⟨r,⟨H',n',e1,e2,e3⟩,e4⟩:=right_loop l KK hs hnp hX KK 0 (H.set n (some (.cells (ints X) 111 false none))) (n+1) (by omega) (Nat.lt_succ_self n) (hf.keep hk hg) hb ((hx.keep hk (Nat.le_refl _)).up (by omega)) (by omega) (by unfold KK; omega)
  refine⟨r,H',n',?_,fun k=>?_,by omega,hk.trans e3 (by omega)⟩
  · exact e4.trans ⟨fun h p hp=>⟨h.1 p (Nat.zero_le _) hp,h.2 p hp⟩,fun h=>⟨fun p _ hp=>(h p hp).1,fun p hp=>(h p hp).2⟩⟩
  · unfold aV
    have:(fw P 83 && bW [.pointer (some ⟨g,0,none⟩),.agg ⟨ints X⟩])=false:=by rw[Bool.and_eq_false_iff]; exact .inr rfl
    rw[this,call83]
    unfold C83_0 B83_0
    generalize hS:S83_1 (cal (l+3)) KK KK=S
    have lx:az P (H.set n (some (.cells (ints X) 111 false none))) 31 ⟨g,0+0+0,none⟩=some x:=by
      have:=(hf.keep hk hg).load (P:=P) (k:=0) Bz (by omega)
      rw[hs.x] at this; exact this
    rw[cQ]
    simp only[bj,ptr]
    rw[kW,aj,pw,aj,sW,aj,aJ,aj,lx,aj,hx.len_eq CJ,aj,← hS]
    exact congrArg (fun r=>aq r _) e1
end Go.Proofs.Ytgojjellogiglaa.spec
end
section
namespace Go.Proofs.Ytgojjellogiglaa.spec
open Go Go.Ev Go.Proofs.Ytgojjellogiglaa.nestFits Go.Proofs.Ytgojjellogiglaa.G
set_option maxRecDepth 100000
variable {ρ:Type}
end Go.Proofs.Ytgojjellogiglaa.spec
end
section
namespace Go.Proofs.Ytgojjellogiglaa.spec
open Go Go.Ev Go.Proofs.Ytgojjellogiglaa.nestFits Go.Proofs.Ytgojjellogiglaa.G
set_option maxRecDepth 100000
variable {ρ:Type}
theorem guardD_ff {op:KD ρ→Option ρ} {ex:Extra} {H:Hp} {n:Nat} {k:KD ρ}:ix (.bool false) false op ex H n k=op k:=rfl
theorem guardD_tf {op:KD ρ→Option ρ} {ex:Extra} {H:Hp} {n:Nat} {k:KD ρ}:ix (.bool true) false op ex H n k=k undef ex H n:=rfl
theorem guardD_u {w:Bool} {op:KD ρ→Option ρ} {ex:Extra} {H:Hp} {n:Nat} {k:KD ρ}:ix undef w op ex H n k=k undef ex H n:=rfl
theorem isLayout_loop (l k:Nat) {np nj nk:Nat} {ps js ks ls:List Int} (good:Good np nj nk ps js ks) (hjs:js.length=nj * 2) (g:Nat) (x y z w:Value) :
    ∀(m i:Nat) (H:Hp) (n:Nat),g<n→aX H g 0 [x,y,z]→GroveI H n (.agg ⟨[x,y,z]⟩) np nj nk ps js ks→ListR H n w np ls→i≤np→np-i≤m →
    ∃ r,Ret (S58_1 (cal (l+4)) k m w (.pointer (some ⟨g,0,none⟩)) (.int .i64 i) H n) n H (.bool r)∧(r=true↔∀ p,i≤p→p<np→ls.getD p 0=-1∨mQ js ks nj np nk p (ls.getD p 0)):=by
  have body:∀(b1:Value→Value→Value→Hp→Nat→Res) (m i:Nat) (H:Hp) (n:Nat),g<n→aX H g 0 [x,y,z]→GroveI H n (.agg ⟨[x,y,z]⟩) np nj nk ps js ks→ListR H n w np ls→i≤np →
      (∀ H' n',n≤n'→Keep n H H'→i<np→∃ r,Ret (b1 w (.pointer (some ⟨g,0,none⟩)) (.int .i64 ((i+1:Nat):Int)) H' n') n' H' (.bool r)∧(r=true↔∀ p,i+1≤p→p<np→ls.getD p 0=-1∨mQ js ks nj np nk p (ls.getD p 0))) →
      ∃ r,Ret (C58_1 (cal (l+4)) k m b1 w (.pointer (some ⟨g,0,none⟩)) (.int .i64 i) H n) n H (.bool r)∧(r=true↔∀ p,i≤p→p<np→ls.getD p 0=-1∨mQ js ks nj np nk p (ls.getD p 0)):=by
    intro b1 m i H n hgn hb hg hw hi ih
    have np8:=good.np8
    have nk3:=good.nk3
    have nj16:=good.nj16
    unfold C58_1 B58_1
    rw[hw.len_eq,aj,ak cY,iJ]
    by_cases hlt:i<np
    · obtain⟨rb,o,hix,_,hld⟩:=hw.at_ hlt
      have hI:I64 ((i:Int)+1):=by unfold I64; omega
      have hcast:((i:Int)+1)=((i+1:Nat):Int):=by omega
      have go:(ls.getD i 0=-1∨mQ js ks nj np nk i (ls.getD i 0))→∀(H':Hp) (n':Nat),n≤n'→Keep n H H' →
          ∃ r,Ret (b1 w (.pointer (some ⟨g,0,none⟩)) (.int .i64 ((i+1:Nat):Int)) H' n') n H (.bool r)∧(r=true↔∀ p,i≤p→p<np→ls.getD p 0=-1∨mQ js ks nj np nk p (ls.getD p 0)):=by
        intro hok H' n' h1 h2
        obtain⟨r,⟨H2,n2,e1,e2,e3⟩,e4⟩:=ih H' n' h1 h2 hlt
        refine⟨r,⟨H2,n2,e1,by omega,h2.trans e3 h1⟩,e4.trans ⟨fun h p q1 q2=>?_,fun h p q1 q2=>h p (by omega) q2⟩⟩
        rcases Nat.eq_or_lt_of_le q1 with q | q
        · subst q; exact hok
        · exact h p q q2
      have no:¬ (ls.getD i 0=-1∨mQ js ks nj np nk i (ls.getD i 0))→∀(H':Hp) (n':Nat),n≤n'→Keep n H H' →
          ∃ r,Ret (some (Value.bool false,H',n')) n H (.bool r)∧(r=true↔∀ p,i≤p→p<np→ls.getD p 0=-1∨mQ js ks nj np nk p (ls.getD p 0)):=
        fun hno H' n' h1 h2=>⟨false,⟨H',n',rfl,h1,h2⟩,⟨fun h=>(by cases h),fun h=>absurd (h i (Nat.le_refl _) hlt) hno⟩⟩
      rw[if_pos (by omega),hix,aj,aJ,aj,hld,aj,ak lw]
      cases c1:decide (ls.getD i 0=-1) with
      | true=>
        simp only[Bool.not_true,guardD_ft,guardD_u,dv,aj,dW,ak (bV hI),hcast]
        exact go (.inl (of_decide_eq_true c1)) H n (Nat.le_refl _) (Keep.refl _ _)
      | false=>
        have hg0:=hg
        obtain⟨x',y',z',hxyz,h1,h2,h3⟩:=hg.eq
        cases hxyz
        have lz:az P H 24 ⟨g,0+2,none⟩=some z:=bq hb IZ rfl h3.hole.1 h3.hole.2
        have elz:lenV P 24 z=some (.int .i64 nk):=h3.len_eq EX
        have hIk:I64 ((nk:Int)-1):=by unfold I64; omega
        have l26:=wk hb h1.hole.1 h2.hole.1 h3.hole.1
        simp only[Bool.not_false,guardD_tt,hix,aj,aJ,hld,zZ,lz,elz,ak (wy hIk),GZ (l+3)]
        cases c2:decide (0≤ls.getD i 0∧ls.getD i 0≤(nk:Int)-1) with
        | false=>
          simp only[qy,aj,guardD_tf,cZ,eJ]
          refine no ?_ H n (Nat.le_refl _) (Keep.refl _ _)
          rintro(h | ⟨q1,q2,_⟩)
          · exact of_decide_eq_false c1 h
          · exact of_decide_eq_false c2 ⟨q1,by omega⟩
        | true=>
          obtain⟨p1,p2⟩:=of_decide_eq_true c2
          obtain⟨kd,hkd⟩:∃ kd:Nat,ls.getD i 0=kd:=⟨(ls.getD i 0).toNat,by omega⟩
          have hk:kd<nk:=by omega
          obtain⟨r,H2,n2,d1,d2,d3,d4⟩:=fitsR_call (ρ:=Value × Hp × Nat) l (show nj≤KK by unfold KK; omega) (show np≤100 by omega) kd hk (i:Int) good.small hg0
          rw[hkd] at c1
          simp only[ow,aj,guardD_ff,hix,aJ,hld,l26,hkd,d2]
          have ag:=fits_agree good hjs hlt hk
          have tk:mQ js ks nj np nk i (kd:Int)↔r=true:=by
            unfold mQ
            rw[Int.toNat_natCast,ag,d1]
            exact⟨fun h=>h.2.2,fun h=>⟨by omega,by omega,h⟩⟩
          cases r with
          | true=>
            simp only[ow,aj,cZ,dv,dW,ak (bV hI),hcast]
            refine go ?_ H2 n2 d3 d4
            rw[hkd]; exact .inr (tk.2 rfl)
          | false=>
            simp only[qy,aj,cZ,dv,eJ]
            refine no ?_ H2 n2 d3 d4
            rw[hkd]
            rintro(h | h)
            · exact of_decide_eq_false c1 h
            · exact absurd (tk.1 h) (by simp)
    · rw[if_neg (by omega)]
      exact⟨true,⟨H,n,rfl,Nat.le_refl _,Keep.refl _ _⟩,⟨fun _ p q1 q2=>by omega,fun _=>rfl⟩⟩
  intro m
  induction m with
  | zero=>
    intro i H n h1 h2 h3 h4 h5 h6
    exact body _ 0 i H n h1 h2 h3 h4 h5 (fun _ _ _ _ h=>by omega)
  | succ m ih=>
    intro i H n h1 h2 h3 h4 h5 h6
    exact body _ (m+1) i H n h1 h2 h3 h4 h5 (fun H' n' q1 q2 q3=>ih (i+1) H' n' (by omega) (h2.keep q2 h1) (h3.keep q2 q1) (h4.keep q2 q1) (by omega) (by omega))
theorem isLayout_spec (l:Nat) {np nj nk nl:Nat} {ps js ks ls:List Int} (good:Good np nj nk ps js ks) {H:Hp} {n:Nat} {v w:Value} (hg:GroveI H n v np nj nk ps js ks) (hw:ListR H n w nl ls) :
    ∃ r,Ret (C58_0 (cal (l+4)) KK v w H n) n H (.bool r)∧(r=true↔nl=np∧kz js ks ls nj np nk):=by
  have hg0:=hg
  obtain⟨x,y,z,rfl,h1,h2,h3⟩:=hg.eq
  unfold C58_0 B58_0
  generalize hS:S58_1 (cal (l+4)) KK KK=S
  rw[cQ]
  simp only[bj,ptr]
  have hk:Keep n H (H.set n (some (.cells [x,y,z] 26 false none))):=(Keep.refl n H).set (Nat.le_refl _) _
  have hb:aX (H.set n (some (.cells [x,y,z] 26 false none))) n 0 [x,y,z]:=aX.new
  generalize H.set n (some (.cells [x,y,z] 26 false none))=H1 at hk hb ⊢
  have lx:az P H1 22 ⟨n,0+0,none⟩=some x:=bq hb IY rfl h1.hole.1 h1.hole.2
  have elx:lenV P 22 x=some (.int .i64 np):=h1.len_eq EY
  rw[hw.len_eq,aj,wz,aj,aJ,aj,lx,aj,elx,aj,ak lw]
  cases c1:decide ((nl:Int)=(np:Int)) with
  | false=>
    rw[Bool.not_false,eJ]
    exact⟨false,⟨H1,n+1,rfl,by omega,hk⟩,⟨fun h=>(by cases h),fun h=>absurd (by omega) (of_decide_eq_false c1)⟩⟩
  | true=>
    have e:nl=np:=by have:=of_decide_eq_true c1; omega
    subst e
    rw[Bool.not_true,dW,← hS]
    obtain⟨r,⟨H',n',e1,e2,e3⟩,e4⟩:=isLayout_loop l KK good h2.1 n x y z w KK 0 H1 (n+1) (by omega) hb (hg0.keep hk (by omega)) (hw.keep hk (by omega)) (by omega) (by have:=good.np8; unfold KK; omega)
    exact⟨r,⟨H',n',e1,by omega,hk.trans e3 (by omega)⟩,e4.trans ⟨fun h=>⟨rfl,fun p hp=>h p (Nat.zero_le _) hp⟩,fun h p _ hp=>h.2 p hp⟩⟩
theorem call58 (l:Nat) (a b:Value) (H:Hp) (n:Nat):(cal (l+1)).call 58 [a,b] H n=C58_0 (cal l) KK a b H n:=by kernel_rfl
theorem isLayout_call (l:Nat) {np nj nk nl:Nat} {ps js ks ls:List Int} (good:Good np nj nk ps js ks) {H:Hp} {n:Nat} {v w:Value} (hg:GroveI H n v np nj nk ps js ks) (hw:ListR H n w nl ls) :
    ∃(r:Bool) (H':Hp) (n':Nat),(r=true↔nl=np∧kz js ks ls nj np nk)∧(∀ k:Value→Hp→Nat→Option ρ,aV P (cal (l+5)) 58 [v,w] H n k=k (.bool r) H' n')∧n≤n'∧Keep n H H':=by
  obtain⟨r,H',n',⟨b,rfl,hb⟩,e1,e2,e3⟩:=dq (ρ:=ρ) (P:=P) (cal:=cal (l+5)) (f:=58) (args:=[v,w]) (H:=H) (n:=n)
    (Pre:=fun H n=>GroveI H n v np nj nk ps js ks∧ListR H n w nl ls) (Q:=fun r=>∃ b:Bool,r=.bool b∧(b=true↔nl=np∧kz js ks ls nj np nk))
    (fun H n h=>by
      obtain⟨r,h1,h2⟩:=isLayout_spec l good h.1 h.2
      exact⟨.bool r,by rw[call58]; exact h1,r,rfl,h2⟩) (fun r ⟨b,e,_⟩ _=>by subst e; rfl) ⟨hg,hw⟩ (fun hp=>by
        simp only[bW,Bool.and_eq_true] at hp
        exact⟨hg.nil hp.1,hw.nil hp.2.1⟩)
  exact⟨b,H',n',hb,e1,e2,e3⟩
theorem placed_spec (l:Nat) {np nj nk nl:Nat} {ps js ks ls:List Int} {H:Hp} {n:Nat} {v w:Value} (hg:GroveI H n v np nj nk ps js ks) (hw:ListR H n w nl ls) :
    Ret (C25_0 (cal (l+5)) KK v w H n) n H (.int .i64 (kY np nj nk nl ps js ks ls)):=by
  have hg0:=hg
  obtain⟨x,y,z,rfl,h1,h2,h3⟩:=hg.eq
  unfold C25_0 B25_0
  rw[cQ]
  simp only[bj,ptr]
  have hk:Keep n H (H.set n (some (.cells [x,y,z] 26 false none))):=(Keep.refl n H).set (Nat.le_refl _) _
  have hb:aX (H.set n (some (.cells [x,y,z] 26 false none))) n 0 [x,y,z]:=aX.new
  generalize H.set n (some (.cells [x,y,z] 26 false none))=H1 at hk hb ⊢
  have ld:∀ H2,aX H2 n 0 [x,y,z]→az P H2 26 ⟨n,0,none⟩=some (.agg ⟨[x,y,z]⟩):=fun H2 h=>wk h h1.hole.1 h2.hole.1 h3.hole.1
  have hg1:GroveI H1 (n+1) (.agg ⟨[x,y,z]⟩) np nj nk ps js ks:=hg0.keep hk (by omega)
  obtain⟨H2,n2,e1,e2,e3⟩:=lawfault_call (ρ:=Value × Hp × Nat) (l+1) hg1
  have kk:Keep n H H2:=hk.trans e3 (by omega)
  rw[aJ,aj,ld H1 hb,aj,e1,ak lw]
  unfold kY
  by_cases he:dX np nj nk ps js ks=0
  · have d0:decide (dX np nj nk ps js ks=0)=true:=decide_eq_true he
    have good:=CW he
    obtain⟨r,H3,n3,f1,f2,f3,f4⟩:=isLayout_call (ρ:=Value × Hp × Nat) l good (hg1.keep e3 e2) (hw.keep kk (show n≤n2 by omega))
    rw[d0,Bool.not_true,dW,aj,ld H2 (hb.keep e3 (by omega)),aj,f2,if_neg (fun h=>h he)]
    cases r with
    | true=>
      rw[ow,aj,dW,if_pos (f1.1 rfl)]
      exact⟨H3,n3,rfl,by omega,kk.trans f4 (by omega)⟩
    | false=>
      rw[qy,aj,eJ,if_neg (fun h=>absurd (f1.2 h) (by simp))]
      exact⟨H3,n3,rfl,by omega,kk.trans f4 (by omega)⟩
  · have d0:decide (dX np nj nk ps js ks=0)=false:=decide_eq_false he
    rw[d0,Bool.not_false,eJ,if_pos he]
    exact⟨H2,n2,rfl,by omega,kk⟩
theorem call25 (l:Nat) (a b:Value) (H:Hp) (n:Nat):(cal (l+1)).call 25 [a,b] H n=C25_0 (cal l) KK a b H n:=by kernel_rfl
theorem placedN_call (l:Nat) {np nj nk nl:Nat} {ps js ks ls:List Int} {H:Hp} {n:Nat} {v w:Value} (hg:GroveI H n v np nj nk ps js ks) (hw:ListR H n w nl ls) :
    ∃ H' n',(∀ k:Value→Hp→Nat→Option ρ,aV P (cal (l+6)) 25 [v,w] H n k=k (.int .i64 (kY np nj nk nl ps js ks ls)) H' n')∧n≤n'∧Keep n H H':=by
  obtain⟨r,H',n',rfl,e1,e2,e3⟩:=dq (ρ:=ρ) (P:=P) (cal:=cal (l+6)) (f:=25) (args:=[v,w]) (H:=H) (n:=n)
    (Pre:=fun H n=>GroveI H n v np nj nk ps js ks∧ListR H n w nl ls) (Q:=fun r=>r=.int .i64 (kY np nj nk nl ps js ks ls))
    (fun H n h=>⟨_,by rw[call25]; exact placed_spec l h.1 h.2,rfl⟩) (fun r e _=>by subst e; rfl) ⟨hg,hw⟩ (fun hp=>by
        simp only[bW,Bool.and_eq_true] at hp
        exact⟨hg.nil hp.1,hw.nil hp.2.1⟩)
  exact⟨H',n',e1,e2,e3⟩
end Go.Proofs.Ytgojjellogiglaa.spec
end
section
namespace Go.Ev
open Go
variable {P:Program} {t:TypeId} {x y:Operand} {a b:Int} {ρ:Type}
theorem bin_rem (hb:b≠0):binV P .rem t x y (.int .i64 a) (.int .i64 b)=some (.int .i64 (a.tmod b)):=by
  refine wv (by simp [binOp,Op.intDiv,hb]) rfl ?_
  rintro m n rfl rfl
  exact .inr rfl
theorem rem_small {a n:Nat} (h:n≠0):((a:Int).tmod (n:Int))=((a % n:Nat):Int):=by
  rw[Int.tmod_eq_emod_of_nonneg (by omega)]
  rfl
end Go.Ev
end
section
namespace Go.Proofs.Ytgojjellogiglaa.spec
open Go Go.Ev Go.Proofs.Ytgojjellogiglaa.nestFits Go.Proofs.Ytgojjellogiglaa.G
set_option maxRecDepth 100000
variable {ρ:Type}
theorem list_at (c:Cal) (k:Nat) {H:Hp} {n len:Nat} {v:Value} {xs:List Int} (h:ListR H n v len xs) (h0:len≠0) (hlen:len≤1000) :
    ∃ H' n',Nw c k v H n=some (.slice (some ⟨n+1,0,none⟩) len capV,H',n')∧n+1<n'∧Keep n H H'∧H'.get (n+1)=some (.cells (ints xs) 3 false (some 1)):=by
  unfold Nw B23_0 rowK
  rw[row44_0,aj]
  unfold newK
  dsimp only
  have hk:Keep n H (H.set n (some (.cells [] 3 false none))):=(Keep.refl n H).set (Nat.le_refl _) _
  have hg:(H.set n (some (.cells [] 3 false none))).get n=some (.cells [] 3 false none):=by rw[Tr.get_set,if_pos rfl]
  have h1:=h.keep hk (show n≤n+1 by omega)
  generalize H.set n (some (.cells [] 3 false none))=H1 at hk hg h1 ⊢
  have hold:vV H1 ⟨n,0,none⟩ (0 * 1)=some []:=LZ (L:=[]) (fx hg) rfl rfl
  have hbig:xy (0+len) 1 8=true:=by unfold xy; simp; omega
  have hb1:Nat.beq (bj (.int .i64 0)).length 1=true:=rfl
  have c0:Nat.blt 0 capV=true:=by decide +kernel
  have ha:jZ P (bare H1 (n+1)) 44 44 (.slice (some ⟨n,0,none⟩) 0 0) v=some (.slice (some ⟨n+1,0,none⟩) len capV,bare (H1.set (n+1) (some (.cells (ints xs) 3 false (some 1)))) (n+1+1)):=by
    unfold jZ
    have hs:tq (bare H1 (n+1)).H 1 v=some (ints xs,len):=h1.src
    have hold':vV (bare H1 (n+1)).H ⟨n,0,none⟩ (0 * 1)=some []:=hold
    simp only[sl44,sz3,by3,zero3,hs,hb1,hold',hbig]
    unfold vW
    have c1:Nat.ble len 0=false:=by
      cases len with
      | zero=>exact absurd rfl h0
      | succ m=>rfl
    simp only[c0,c1,PW,bare,sJ,List.nil_append,Nat.zero_add]
  unfold stK
  dsimp only
  rw[ha,aj]
  dsimp only [bare]
  exact⟨_,_,rfl,by omega,hk.set (by omega) _,by rw[Tr.get_set,if_pos rfl]⟩
theorem at44L (b len cap:Nat) {i:Nat} (hi:i<len):aY P 44 (.slice (some ⟨b,0,none⟩) len cap) (.int .i64 i)=some (.pointer (some ⟨b,0+i * 1,none⟩)):=by
  unfold aY
  simp only[und44,OJ hi,sz3]
  rfl
theorem store3 (H:Hp) (b o:Nat) (a:Int):bx P 3 (.pointer (some ⟨b,o,none⟩)) (.int .i64 a) H=storeN H ⟨b,o,none⟩ [.int .i64 a]:=by kernel_rfl
end Go.Proofs.Ytgojjellogiglaa.spec
end
section
namespace Go.Proofs.Ytgojjellogiglaa.spec
open Go Go.Ev Go.Proofs.Ytgojjellogiglaa.nestFits Go.Proofs.Ytgojjellogiglaa.G
set_option maxRecDepth 100000
variable {ρ:Type}
def oW (js ks ps L:List Int) (nj np:Nat):Prop:=∀ q,q<np→¬ bsum js ks L nj np 8 0 q<ps.getD (q * 2) 0∧¬ ps.getD (q * 2+1) 0<bsum js ks L nj np 8 1 q
theorem right_iff {js ks ps L X:List Int} {nj np:Nat} (hX:Bk X js ks L nj np 8) (hnp:np≤8):RightX X ps np↔oW js ks ps L nj np:=by
  unfold RightX oW missB Jj
  constructor
  · intro h q hq
    obtain⟨a,b⟩:=hX.2 q (by omega)
    obtain⟨c,d⟩:=h q hq
    rw[← a,← b]
    exact⟨of_decide_eq_false c,of_decide_eq_false d⟩
  · intro h q hq
    obtain⟨a,b⟩:=hX.2 q (by omega)
    obtain⟨c,d⟩:=h q hq
    rw[← a] at c
    rw[← b] at d
    exact⟨decide_eq_false c,decide_eq_false d⟩
theorem at121 (b:Nat) {i:Nat} (hi:i<8):aY P 121 (.pointer (some ⟨b,0,none⟩)) (.int .i64 i)=some (.pointer (some ⟨b,0+i * 1,none⟩)):=by
  unfold aY
  have:qw (.int .i64 (i:Int)) 8=some i:=by
    show qw (.int .i64 (.ofNat i)) 8=some i
    simp [qw,hi]
  simp only[und121,this,sz3]
  rfl
end Go.Proofs.Ytgojjellogiglaa.spec
end
section
namespace Go.Proofs.Ytgojjellogiglaa.spec
open Go Go.Ev Go.Proofs.Ytgojjellogiglaa.nestFits Go.Proofs.Ytgojjellogiglaa.G
set_option maxRecDepth 100000
variable {ρ:Type}
theorem ext_nonneg {y:Int} {L:List Int} (hL:pq L) (hf:kK L 0≤y) {e:Nat} (he:e<2) (q:Nat):0≤ext y L e q:=by
  unfold ext
  match e,he with
  | 0,_=>
    have:=(hL (q * 2+0)).1
    unfold lim
    simp only
    omega
  | 1,_=>
    have:=(hL (q * 2+1)).1
    have:=(hL (q * 2+0)).1
    unfold lim
    simp only[Nat.sub_self]
    omega
theorem tz {L:List Int} {p:Nat} {a:Int} (h:p<L.length):(L.set p a).getD p 0=a:=by
  rw[List.getD_eq_getElem?_getD,List.getElem?_set,if_pos rfl,if_pos h]
  rfl
theorem vQ {L:List Int} {p q:Nat} {a:Int} (h:q≠p):(L.set p a).getD q 0=L.getD q 0:=by
  rw[List.getD_eq_getElem?_getD,List.getElem?_set,if_neg (by omega),← List.getD_eq_getElem?_getD]
end Go.Proofs.Ytgojjellogiglaa.spec
end
section
namespace Go.Proofs.Ytgojjellogiglaa.spec
open Go Go.Ev Go.Proofs.Ytgojjellogiglaa.nestFits Go.Proofs.Ytgojjellogiglaa.G
set_option maxRecDepth 100000
def sX {α:Type} (F:Nat→Option α) (N:Nat):Nat→Option α
  | 0=>none
  | m+1=>match F (N-(m+1)) with
    | some r=>some r
    | none=>sX F N m
theorem CY {α:Type} {F:Nat→Option α} {N i:Nat} (h:i<N):sX F N (N-i)=match F i with
    | some r=>some r
    | none=>sX F N (N-(i+1)):=by
  have e:N-i=(N-(i+1))+1:=by omega
  have e2:N-((N-(i+1))+1)=i:=by omega
  rw[e,sX,e2]
theorem Kx {α:Type} {F:Nat→Option α} {N:Nat}:∀ {m:Nat} {r:α},m≤N→sX F N m=some r→∃ k,N-m≤k∧k<N∧F k=some r∧∀ j,N-m≤j→j<k→F j=none
  | 0,r,_,h=>by cases h
  | m+1,r,hm,h=>by
    unfold sX at h
    cases c:F (N-(m+1)) with
    | some r'=>
      rw[c] at h
      cases h
      exact⟨N-(m+1),Nat.le_refl _,by omega,c,fun j h1 h2=>absurd h1 (by omega)⟩
    | none=>
      rw[c] at h
      obtain⟨k,h1,h2,h3,h4⟩:=Kx (by omega) h
      refine⟨k,by omega,h2,h3,fun j q1 q2=>?_⟩
      by_cases e:j=N-(m+1)
      · rw[e]; exact c
      · exact h4 j (by omega) q2
theorem Ky {α:Type} {F:Nat→Option α} {N:Nat}:∀ {m:Nat},m≤N→sX F N m=none→∀ k,N-m≤k→k<N→F k=none
  | 0,_,_,k,h1,h2=>by omega
  | m+1,hm,h,k,h1,h2=>by
    unfold sX at h
    cases c:F (N-(m+1)) with
    | some r'=>rw[c] at h; cases h
    | none=>
      rw[c] at h
      by_cases e:k=N-(m+1)
      · rw[e]; exact c
      · exact Ky (by omega) h k (by omega) h2
def nq (R Hd:List Int→Bool) (tk:Nat→Nat→Bool) (np nk:Nat):Nat→List Int→Nat→Option (List Int)
  | 0,L,left=>if Hd L=false∨0<left then none else if R L=true then some L else none
  | d+1,L,left=>if Hd L=false∨d+1<left then none else if left=0 then(if R L=true then some L else none) else
      match nq R Hd tk np nk d L left with
      | some r=>some r
      | none=>sX (fun kd=>if tk (np-(d+1)) kd=true then nq R Hd tk np nk d (L.set (np-(d+1)) (kd:Int)) (left-1) else none) nk nk
def cntL (L:List Int):Nat→Nat→Nat
  | _,0=>0
  | p,d+1=>(if L.getD p 0=-1 then 0 else 1)+cntL L (p+1) d
theorem cntL_le {L:List Int}:∀ {p d:Nat},cntL L p d≤d
  | p,0=>Nat.le_refl _
  | p,d+1=>by
    have:=cntL_le (L:=L) (p:=p+1) (d:=d)
    simp only[cntL]
    split <;> omega
theorem cntL_zero {L:List Int}:∀ {p d:Nat},cntL L p d=0→∀ q,p≤q→q<p+d→L.getD q 0=-1
  | p,0,_,q,h1,h2=>by omega
  | p,d+1,h,q,h1,h2=>by
    simp only[cntL] at h
    by_cases c:L.getD p 0=-1
    · by_cases e:q=p
      · rw[e]; exact c
      · rw[if_pos c] at h
        exact cntL_zero (p:=p+1) (d:=d) (by omega) q (by omega) (by omega)
    · rw[if_neg c] at h; omega
structure GoesOn (tk:Nat→Nat→Bool) (nk:Nat) (L:List Int) (p d left:Nat) (M:List Int):Prop where
  len:M.length=8
  before:∀ q,q<p→M.getD q 0=L.getD q 0
  kinds:∀ q,p≤q→q<p+d→M.getD q 0=-1∨∃ kd:Nat,kd<nk∧tk q kd=true∧M.getD q 0=kd
  after:∀ q,p+d≤q→q<8→M.getD q 0=-1
  cnt:cntL M p d=left
def Jq (L M:List Int) (p np:Nat):Prop:=∃ q,p≤q∧q<np∧L.getD q 0<M.getD q 0∧∀ k,p≤k→k<q→L.getD k 0=M.getD k 0
theorem list_ext8 {L M:List Int} (hL:L.length=8) (hM:M.length=8) (h:∀ q,q<8→L.getD q 0=M.getD q 0):L=M:=by
  apply List.ext_getElem?
  intro k
  by_cases hk:k<8
  · rw[getD_some (by omega),getD_some (by omega),h k hk]
  · rw[List.getElem?_eq_none (by omega),List.getElem?_eq_none (by omega)]
def Open (L:List Int) (p:Nat):Prop:=L.length=8∧∀ q,p≤q→q<8→L.getD q 0=-1
theorem GoesOn.none {tk:Nat→Nat→Bool} {nk:Nat} {L M:List Int} {p d:Nat} (h:GoesOn tk nk L p d 0 M) (hL:Open L p):M=L:=by
  refine list_ext8 h.len hL.1 fun q hq=>?_
  by_cases c:q<p
  · exact h.before q c
  · rw[hL.2 q (by omega) hq]
    by_cases e:q<p+d
    · exact cntL_zero h.cnt q (by omega) e
    · exact h.after q (by omega) hq
theorem GoesOn.skip {tk:Nat→Nat→Bool} {nk:Nat} {L M:List Int} {p d left:Nat} (h:GoesOn tk nk L p (d+1) left M) (hp:M.getD p 0=-1) (hL:Open L p) (hp8:p<8):GoesOn tk nk L (p+1) d left M:=by
  refine⟨h.len,fun q hq=>?_,fun q h1 h2=>h.kinds q (by omega) (by omega),fun q h1 h2=>h.after q (by omega) h2,?_⟩
  · by_cases e:q=p
    · rw[e,hp,hL.2 p (Nat.le_refl _) hp8]
    · exact h.before q (by omega)
  · have:=h.cnt
    simp only[cntL] at this
    rw[if_pos hp] at this
    omega
theorem GoesOn.put {tk:Nat→Nat→Bool} {nk kd:Nat} {L M:List Int} {p d left:Nat} (h:GoesOn tk nk L p (d+1) left M) (hp:M.getD p 0=kd) (hL:Open L p) (hp8:p<8):GoesOn tk nk (L.set p (kd:Int)) (p+1) d (left-1) M:=by
  refine⟨h.len,fun q hq=>?_,fun q h1 h2=>h.kinds q (by omega) (by omega),fun q h1 h2=>h.after q (by omega) h2,?_⟩
  · by_cases e:q=p
    · rw[e,hp,tz (by rw[hL.1]; exact hp8)]
    · rw[vQ e]; exact h.before q (by omega)
  · have:=h.cnt
    simp only[cntL] at this
    rw[if_neg (by omega)] at this
    omega
theorem GoesOn.of_skip {tk:Nat→Nat→Bool} {nk:Nat} {L M:List Int} {p d left:Nat} (h:GoesOn tk nk L (p+1) d left M) (hL:Open L p) (hp8:p<8):GoesOn tk nk L p (d+1) left M∧M.getD p 0=-1:=by
  have hp:M.getD p 0=-1:=by rw[h.before p (by omega),hL.2 p (Nat.le_refl _) hp8]
  refine⟨⟨h.len,fun q hq=>h.before q (by omega),fun q h1 h2=>?_,fun q h1 h2=>h.after q (by omega) h2,?_⟩,hp⟩
  · by_cases e:q=p
    · rw[e]; exact .inl hp
    · exact h.kinds q (by omega) (by omega)
  · simp only[cntL]
    rw[if_pos hp,h.cnt]
    omega
theorem GoesOn.of_put {tk:Nat→Nat→Bool} {nk kd:Nat} {L M:List Int} {p d left:Nat} (h:GoesOn tk nk (L.set p (kd:Int)) (p+1) d (left-1) M) (hL:Open L p) (hp8:p<8) (hk:kd<nk) (ht:tk p kd=true) (hl:left≠0):GoesOn tk nk L p (d+1) left M∧M.getD p 0=kd:=by
  have hp:M.getD p 0=kd:=by rw[h.before p (by omega),tz (by rw[hL.1]; exact hp8)]
  refine⟨⟨h.len,fun q hq=>by rw[h.before q (by omega),vQ (by omega)],fun q h1 h2=>?_,fun q h1 h2=>h.after q (by omega) h2,?_⟩,hp⟩
  · by_cases e:q=p
    · rw[e]; exact .inr ⟨kd,hk,ht,hp⟩
    · exact h.kinds q (by omega) (by omega)
  · simp only[cntL]
    rw[if_neg (by omega),h.cnt]
    omega
theorem Open.skip {L:List Int} {p:Nat} (h:Open L p):Open L (p+1):=⟨h.1,fun q h1 h2=>h.2 q (by omega) h2⟩
theorem Open.put {L:List Int} {p:Nat} {a:Int} (h:Open L p):Open (L.set p a) (p+1):=⟨by simp [h.1],fun q h1 h2=>by rw[vQ (by omega)]; exact h.2 q (by omega) h2⟩
theorem OW {R Hd:List Int→Bool} {tk:Nat→Nat→Bool} {np nk:Nat} (hnp:np≤8) (prune:∀ L M p d left,Open L p→p+d=np→GoesOn tk nk L p d left M→R M=true→Hd L=true):∀(d:Nat) (L:List Int) (left p:Nat),p+d=np→Open L p →
    (∀ r,nq R Hd tk np nk d L left=some r→GoesOn tk nk L p d left r∧R r=true∧∀ M,GoesOn tk nk L p d left M→R M=true→r=M∨Jq r M p np) ∧
    (nq R Hd tk np nk d L left=none→∀ M,GoesOn tk nk L p d left M→R M=true→False):=by
  have stop:∀(d:Nat) (L:List Int) (p:Nat),p+d=np→Open L p →
      (∀ r,(if R L=true then some L else none)=some r→GoesOn tk nk L p d 0 r∧R r=true∧∀ M,GoesOn tk nk L p d 0 M→R M=true→r=M∨Jq r M p np) ∧
      ((if R L=true then some L else none)=none→∀ M,GoesOn tk nk L p d 0 M→R M=true→False):=by
    intro d L p hpd hL
    constructor
    · intro r h
      by_cases c:R L=true
      · rw[if_pos c] at h
        cases h
        refine⟨⟨hL.1,fun _ _=>rfl,fun q h1 h2=>.inl (hL.2 q h1 (by omega)),fun q h1 h2=>hL.2 q (by omega) h2,?_⟩,c,fun M hM _=>.inl (hM.none hL).symm⟩
        have:∀ d p,p+d=np→Open L p→cntL L p d=0:=by
          intro d
          induction d with
          | zero=>intro p _ _; rfl
          | succ d ih=>
            intro p h1 h2
            simp only[cntL]
            rw[if_pos (h2.2 p (Nat.le_refl _) (by omega)),ih (p+1) (by omega) h2.skip]
        exact this d p hpd hL
      · rw[if_neg c] at h; cases h
    · intro h M hM hR
      rw[hM.none hL] at hR
      rw[if_pos hR] at h
      cases h
  intro d
  induction d with
  | zero=>
    intro L left p hpd hL
    unfold nq
    by_cases c:Hd L=false∨0<left
    · rw[if_pos c]
      refine⟨fun r h=>(by cases h),fun _ M hM hR=>?_⟩
      rcases c with c | c
      · rw[prune L M p 0 left hL hpd hM hR] at c; cases c
      · have:=hM.cnt
        simp only[cntL] at this
        omega
    · rw[if_neg c]
      have:left=0:=by
        have:=fun h=>c (.inr h)
        omega
      subst this
      exact stop 0 L p hpd hL
  | succ d ih=>
    intro L left p hpd hL
    have hp8:p<8:=by omega
    have ep:np-(d+1)=p:=by omega
    unfold nq
    rw[ep]
    by_cases c:Hd L=false∨d+1<left
    · rw[if_pos c]
      refine⟨fun r h=>(by cases h),fun _ M hM hR=>?_⟩
      rcases c with c | c
      · rw[prune L M p (d+1) left hL hpd hM hR] at c; cases c
      · have:=hM.cnt
        have:=cntL_le (L:=M) (p:=p) (d:=d+1)
        omega
    · rw[if_neg c]
      by_cases c0:left=0
      · subst c0
        rw[if_pos rfl]
        exact stop (d+1) L p hpd hL
      · rw[if_neg c0]
        obtain⟨i1,i2⟩:=ih L left (p+1) (by omega) hL.skip
        have split:∀ M,GoesOn tk nk L p (d+1) left M→M.getD p 0=-1∨∃ kd:Nat,kd<nk∧tk p kd=true∧M.getD p 0=kd:=fun M hM=>hM.kinds p (Nat.le_refl _) (by omega)
        cases e:nq R Hd tk np nk d L left with
        | some r0=>
          refine⟨fun r h=>?_,fun h=>(by cases h)⟩
          cases h
          obtain⟨a1,a2,a3⟩:=i1 r0 e
          obtain⟨b1,b2⟩:=a1.of_skip hL hp8
          refine⟨b1,a2,fun M hM hR=>?_⟩
          rcases split M hM with h | ⟨kd,h1,h2,h3⟩
          · rcases a3 M (hM.skip h hL hp8) hR with z | ⟨q,z1,z2,z3,z4⟩
            · exact .inl z
            · refine .inr ⟨q,by omega,z2,z3,fun k k1 k2=>?_⟩
              by_cases ek:k=p
              · rw[ek,b2,h]
              · exact z4 k (by omega) k2
          · exact .inr ⟨p,Nat.le_refl _,by omega,by rw[b2,h3]; omega,fun k k1 k2=>absurd k1 (by omega)⟩
        | none=>
          dsimp only
          have none1:=i2 e
          constructor
          · intro r h
            obtain⟨kd,k1,k2,k3,k4⟩:=Kx (Nat.le_refl _) h
            rw[Nat.sub_self] at k1 k4
            by_cases ht:tk p kd=true
            · rw[if_pos ht] at k3
              obtain⟨a1,a2,a3⟩:=(ih (L.set p (kd:Int)) (left-1) (p+1) (by omega) hL.put).1 r k3
              obtain⟨b1,b2⟩:=a1.of_put hL hp8 k2 ht c0
              refine⟨b1,a2,fun M hM hR=>?_⟩
              rcases split M hM with h | ⟨kd',h1,h2,h3⟩
              · exact absurd (none1 M (hM.skip h hL hp8) hR) id
              · rcases Nat.lt_trichotomy kd' kd with z | z | z
                · have:=k4 kd' (Nat.zero_le _) z
                  rw[if_pos h2] at this
                  exact absurd ((ih (L.set p (kd':Int)) (left-1) (p+1) (by omega) hL.put).2 this M (hM.put h3 hL hp8) hR) id
                · subst z
                  rcases a3 M (hM.put h3 hL hp8) hR with z | ⟨q,z1,z2,z3,z4⟩
                  · exact .inl z
                  · refine .inr ⟨q,by omega,z2,z3,fun k q1 q2=>?_⟩
                    by_cases ek:k=p
                    · rw[ek,b2,h3]
                    · exact z4 k (by omega) q2
                · exact .inr ⟨p,Nat.le_refl _,by omega,by rw[b2,h3]; omega,fun k q1 q2=>absurd q1 (by omega)⟩
            · rw[if_neg ht] at k3; cases k3
          · intro h M hM hR
            have hn:=Ky (Nat.le_refl _) h
            rcases split M hM with h' | ⟨kd,h1,h2,h3⟩
            · exact none1 M (hM.skip h' hL hp8) hR
            · have:=hn kd (by omega) h1
              rw[if_pos h2] at this
              exact(ih (L.set p (kd:Int)) (left-1) (p+1) (by omega) hL.put).2 this M (hM.put h3 hL hp8) hR
end Go.Proofs.Ytgojjellogiglaa.spec
end
section
namespace Go.Proofs.Ytgojjellogiglaa.spec
open Go Go.Ev Go.Proofs.Ytgojjellogiglaa.nestFits Go.Proofs.Ytgojjellogiglaa.G
set_option maxRecDepth 100000
variable {ρ:Type}
theorem min70 (a b:Int) (H:Hp) (n:Nat) (k:Value→Hp→Nat→Option ρ) :
    wj P .min [3,3] (Go.Call.mk (Go.Callee.builtin Go.Builtin.min) #[(Go.Operand.tmp 33),(Go.Operand.tmp 34)] #[3,3]) 3 [.int .i64 a,.int .i64 b] H n k=k (.int .i64 (min a b)) H n:=by
  have h:min a b=if b<a then b else a:=by omega
  rw[h]
  rfl
theorem qck (a b:Int):fK P 55 [(0,.int .i64 a),(1,.int .i64 b)]=some (.agg ⟨[.int .i64 a,.int .i64 b]⟩):=by kernel_rfl
theorem res70 (H:Hp) (b:Nat):resV P (Tr.set Tr.nil 8 (some (.pointer (some ⟨b,0,none⟩)))) H eX=(match az P H 55 ⟨b,0,none⟩ with
  | some v=>some [v]
  | none=>none):=by kernel_rfl
theorem end70 {H:Hp} {n b:Nat} {u w:Int} {c:List Value} (hg:H.get b=some (.cells c 55 false none)) (hc:c.length=2) :
    (aq (bx P 55 (.pointer (some ⟨b,0,none⟩)) (.agg ⟨[.int .i64 u,.int .i64 w]⟩) H) fun H'=>aq (resV P (Tr.set Tr.nil 8 (some (.pointer (some ⟨b,0,none⟩)))) H' eX) fun vs=>some (oneV vs,H',n)) =
      some (.agg ⟨[.int .i64 u,.int .i64 w]⟩,H.set b (some (.cells [.int .i64 u,.int .i64 w] 55 false none)),n):=by
  have hst:=eK (vs:=[.int .i64 u,.int .i64 w]) hg (by rw[hc]; rfl) rfl
  have hld:az P (H.set b (some (.cells [.int .i64 u,.int .i64 w] 55 false none))) 55 ⟨b,0,none⟩=some (.agg ⟨[.int .i64 u,.int .i64 w]⟩):=
    bY (o:=0) (k:=0) (aX.new (n:=b)) QV sz55 (by simp) rfl
  rw[Cz,hst,aj,res70,hld]
  rfl
theorem mV {H:Hp} {b:Nat} {vs:List Value} {e:TypeId} {ro:Bool} {vec:Option Nat} (h:H.get b=some (.cells vs e ro vec)):aX H b 0 vs:=
  ⟨_,vs,h,rfl,fun k v h=>by simpa using h⟩
structure PartAt (H0 H:Hp) (base n g:Nat) (x y z:Value) (lo hi r1 r2:Int):Prop where
  keep:Keep base H0 H
  below:base+3≤g
  top:g<n
  box:H.get base=some (.cells [x,y,z] 26 false none)
  res:H.get (base+1)=some (.cells [.int .i64 0,.int .i64 0] 55 false none)
  out:H.get (base+2)=some (.cells [.int .i64 lo,.int .i64 hi] 55 false none)
  row:H.get g=some (.cells [.int .i64 r1,.int .i64 r2] 55 false none)
theorem PartAt.go {H0 H H':Hp} {base n n' g:Nat} {x y z:Value} {lo hi r1 r2:Int} (h:PartAt H0 H base n g x y z lo hi r1 r2) (hk:Keep n H H') (hn:n≤n'):PartAt H0 H' base n' g x y z lo hi r1 r2:=by
  have:=h.below
  have:=h.top
  exact⟨h.keep.trans hk (by omega),h.below,by omega,(hk _ (by omega)).trans h.box,(hk _ (by omega)).trans h.res,(hk _ (by omega)).trans h.out,(hk _ (by omega)).trans h.row⟩
theorem PartAt.put {H0 H:Hp} {base n g:Nat} {x y z:Value} {lo hi r1 r2:Int} (h:PartAt H0 H base n g x y z lo hi r1 r2) (u w:Int):PartAt H0 (H.set (base+2) (some (.cells [.int .i64 u,.int .i64 w] 55 false none))) base n g x y z u w r1 r2:=by
  have:=h.below
  refine⟨h.keep.set (by omega) _,h.below,h.top,?_,?_,?_,?_⟩
  · rw[Tr.get_set,if_neg (by omega)]; exact h.box
  · rw[Tr.get_set,if_neg (by omega)]; exact h.res
  · rw[Tr.get_set,if_pos rfl]
  · rw[Tr.get_set,if_neg (by omega)]; exact h.row
def OX (A B a lo hi lo' hi':Int):Prop:=(max a A≤B∧lo'=min lo (max a A)∧hi'=B)∨(B<max a A∧lo'=lo∧hi'=hi)
theorem part_loop (l k:Nat) {np nj nk:Nat} {ps js ks:List Int} (hnj:nj≤KK) (hnp:np≤100) (kind:Nat) (hk:kind<nk) (at_ pad:Int) (hs:EZ ks nk) {H0:Hp} {base g:Nat} {x y z:Value} {r1 r2 A B:Int} (hr:r2≤1000) (hB:B≤r2)
    (hg:GroveI H0 base (.agg ⟨[x,y,z]⟩) np nj nk ps js ks) (hAB:∀ a,0≤a→a≤r2→r1≤a→(Aj js ks nj np kind at_ pad a↔A≤a∧a≤B)) :
    ∀(m:Nat) (a lo hi:Int) (H:Hp) (n:Nat),PartAt H0 H base n g x y z lo hi r1 r2→0≤a→r1≤a→a≤r2+1→r2+1-a≤m →
    ∃ lo' hi',OX A B a lo hi lo' hi'∧Ret (S70_1 (cal (l+3)) k m (.int .i64 kind) (.int .i64 at_) (.int .i64 pad) (.pointer (some ⟨base,0,none⟩)) (.pointer (some ⟨base+1,0,none⟩)) (.pointer (some ⟨base+2,0,none⟩)) (.pointer (some ⟨g,0,none⟩)) (.int .i64 a) H n) base H0 (.agg ⟨[.int .i64 lo',.int .i64 hi']⟩):=by
  have body:∀(b1:Value→Value→Value→Value→Value→Value→Value→Value→Hp→Nat→Res) (m:Nat) (a lo hi:Int) (H:Hp) (n:Nat),PartAt H0 H base n g x y z lo hi r1 r2→0≤a→r1≤a→a≤r2+1 →
      (∀ H' n' lo2 hi2,PartAt H0 H' base n' g x y z lo2 hi2 r1 r2→a≤r2→∃ lo' hi',OX A B (a+1) lo2 hi2 lo' hi' ∧
        Ret (b1 (.int .i64 kind) (.int .i64 at_) (.int .i64 pad) (.pointer (some ⟨base,0,none⟩)) (.pointer (some ⟨base+1,0,none⟩)) (.pointer (some ⟨base+2,0,none⟩)) (.pointer (some ⟨g,0,none⟩)) (.int .i64 (a+1)) H' n') base H0 (.agg ⟨[.int .i64 lo',.int .i64 hi']⟩)) →
      ∃ lo' hi',OX A B a lo hi lo' hi'∧Ret (C70_1 (cal (l+3)) k m b1 (.int .i64 kind) (.int .i64 at_) (.int .i64 pad) (.pointer (some ⟨base,0,none⟩)) (.pointer (some ⟨base+1,0,none⟩)) (.pointer (some ⟨base+2,0,none⟩)) (.pointer (some ⟨g,0,none⟩)) (.int .i64 a) H n) base H0 (.agg ⟨[.int .i64 lo',.int .i64 hi']⟩):=by
    intro b1 m a lo hi H n st ha har ha2 ih
    have hbel:=st.below
    have htop:=st.top
    have lr:az P H 3 ⟨g,0+1,none⟩=some (.int .i64 r2):=bw (mV st.row) agg3 rfl
    obtain⟨x',y',z',hxyz,h1,h2,h3⟩:=hg.eq
    cases hxyz
    unfold C70_1 B70_1
    rw[GK,aj,aJ,aj,lr,aj,ak rX,iJ]
    by_cases hle:a≤r2
    · have hI:I64 (a+1):=by unfold I64; omega
      rw[if_pos hle,aJ,aj,wk (mV st.box) h1.hole.1 h2.hole.1 h3.hole.1,aj]
      obtain⟨r,H1,n1,hrr,e,e2,e3⟩:=some_call (ρ:=Value × Hp × Nat) l hnj hnp kind hk at_ pad a (by omega) hs (hg.keep st.keep (show base≤n by omega))
      have s1:=st.go e3 e2
      rw[e]
      have hq:=hAB a ha hle har
      cases r with
      | true=>
        have hin:=hq.1 (hrr.1 rfl)
        obtain⟨lo',hi',p1,p2⟩:=ih _ n1 (min lo a) a (s1.put (min lo a) a) hle
        have l0:az P H1 3 ⟨base+2,0+0,none⟩=some (.int .i64 lo):=bw (mV s1.out) agg3 rfl
        rw[eJ,Dz,aj,aJ,aj,l0,aj,min70,qck,aj,Cz,eK (c:=[.int .i64 lo,.int .i64 hi]) (vs:=[.int .i64 (min lo a),.int .i64 a]) (e:=55) (vec:=none) s1.out rfl rfl,aj]
        unfold C70_2 B70_2
        rw[ak (bV hI)]
        refine⟨lo',hi',?_,p2⟩
        unfold OX at p1 ⊢
        omega
      | false=>
        have hout:¬ (A≤a∧a≤B):=fun h=>absurd (hrr.2 (hq.2 h)) (by simp)
        obtain⟨lo',hi',p1,p2⟩:=ih H1 n1 lo hi s1 hle
        rw[dW]
        unfold C70_2 B70_2
        rw[ak (bV hI)]
        refine⟨lo',hi',?_,p2⟩
        unfold OX at p1 ⊢
        omega
    · have lo9:az P H 55 ⟨base+2,0,none⟩=some (.agg ⟨[.int .i64 lo,.int .i64 hi]⟩):=bY (o:=0) (k:=0) (mV st.out) QV sz55 (by simp) rfl
      rw[if_neg hle,aJ,aj,lo9,aj,end70 st.res rfl]
      refine⟨lo,hi,?_,_,_,rfl,by omega,st.keep.set (by omega) _⟩
      unfold OX
      omega
  intro m
  induction m with
  | zero=>
    intro a lo hi H n h1 h2 h3 h4 h5
    exact body _ 0 a lo hi H n h1 h2 h3 h4 (fun _ _ _ _ _ h=>by omega)
  | succ m ih=>
    intro a lo hi H n h1 h2 h3 h4 h5
    exact body _ (m+1) a lo hi H n h1 h2 h3 h4 (fun H' n' lo2 hi2 q1 q2=>ih (a+1) lo2 hi2 H' n' q1 (by omega) (by omega) (by omega) (by omega))
theorem part_spec (l:Nat) {np nj nk:Nat} {ps js ks:List Int} (hnj:nj≤KK) (hnp:np≤100) (kind:Nat) (hk:kind<nk) (at_ pad:Int) (hs:EZ ks nk) {A B:Int}
    (hAB:∀ a,0≤a→a≤(cw js ks nj kind at_ pad).2→(cw js ks nj kind at_ pad).1≤a→(Aj js ks nj np kind at_ pad a↔A≤a∧a≤B)) (hA:(cw js ks nj kind at_ pad).1≤A) (hle:A≤B) (hB:B≤(cw js ks nj kind at_ pad).2)
    {H:Hp} {n:Nat} {v:Value} (hg:GroveI H n v np nj nk ps js ks) :
    Ret (C70_0 (cal (l+3)) KK v (.int .i64 kind) (.int .i64 at_) (.int .i64 pad) H n) n H (.agg ⟨[.int .i64 A,.int .i64 B]⟩):=by
  have hg0:=hg
  obtain⟨x,y,z,rfl,h1,h2,h3⟩:=hg.eq
  obtain⟨r1,r2,r3⟩:=Ck (js:=js) (nj:=nj) hs hk at_ pad
  unfold C70_0 B70_0
  generalize hS:S70_1 (cal (l+3)) KK KK=S
  rw[cQ,dZ Oj,qck,aj,dZ Oj,ptr,ptr,ptr,Cz]
  simp only[bj]
  rw[eK (c:=[.int .i64 0,.int .i64 0]) (vs:=[.int .i64 2000,.int .i64 (-1)]) (e:=55) (vec:=none) (by rw[Tr.get_set,if_pos rfl]) rfl rfl,aj]
  generalize hH1:(((H.set n (some (.cells [x,y,z] 26 false none))).set (n+1) (some (.cells [.int .i64 0,.int .i64 0] 55 false none))).set (n+1+1) (some (.cells [.int .i64 0,.int .i64 0] 55 false none))).set (n+1+1) (some (.cells [.int .i64 2000,.int .i64 (-1)] 55 false none))=H1
  have k1:Keep n H H1:=fun b hb=>by rw[← hH1,Tr.get_set,if_neg (by omega),Tr.get_set,if_neg (by omega),Tr.get_set,if_neg (by omega),Tr.get_set,if_neg (by omega)]
  have p0:H1.get n=some (.cells [x,y,z] 26 false none):=by rw[← hH1,Tr.get_set,if_neg (by omega),Tr.get_set,if_neg (by omega),Tr.get_set,if_neg (by omega),Tr.get_set,if_pos rfl]
  have p1:H1.get (n+1)=some (.cells [.int .i64 0,.int .i64 0] 55 false none):=by rw[← hH1,Tr.get_set,if_neg (by omega),Tr.get_set,if_neg (by omega),Tr.get_set,if_pos rfl]
  have p2:H1.get (n+2)=some (.cells [.int .i64 2000,.int .i64 (-1)] 55 false none):=by rw[← hH1,Tr.get_set,if_pos rfl]
  clear hH1
  rw[aJ,aj,wk (mV p0) h1.hole.1 h2.hole.1 h3.hole.1,aj]
  obtain⟨H2,n2,e,e2,e3⟩:=Oq (ρ:=Value × Hp × Nat) (l+1) (hg0.keep k1 (show n≤n+1+1+1 by omega)) hnj kind hk at_ pad
  rw[e,box55]
  have hk55:=Ow (H:=H2) (n:=n2) (a:=some (.cells [.int .i64 0,.int .i64 0] 55 false none)) (b:=some (.cells [.int .i64 (cw js ks nj kind at_ pad).1,.int .i64 (cw js ks nj kind at_ pad).2] 55 false none))
  have hnew:((H2.set n2 (some (.cells [.int .i64 0,.int .i64 0] 55 false none))).set n2 (some (.cells [.int .i64 (cw js ks nj kind at_ pad).1,.int .i64 (cw js ks nj kind at_ pad).2] 55 false none))).get n2=some (.cells [.int .i64 (cw js ks nj kind at_ pad).1,.int .i64 (cw js ks nj kind at_ pad).2] 55 false none):=by rw[Tr.get_set,if_pos rfl]
  generalize (H2.set n2 (some (.cells [.int .i64 0,.int .i64 0] 55 false none))).set n2 (some (.cells [.int .i64 (cw js ks nj kind at_ pad).1,.int .i64 (cw js ks nj kind at_ pad).2] 55 false none))=H3 at hk55 hnew ⊢
  have k13:Keep (n+1+1+1) H1 H3:=e3.trans hk55 e2
  have st:PartAt H H3 n (n2+1) n2 x y z 2000 (-1) (cw js ks nj kind at_ pad).1 (cw js ks nj kind at_ pad).2:=
    ⟨k1.trans k13 (by omega),by omega,by omega,(k13 _ (by omega)).trans p0,(k13 _ (by omega)).trans p1,(k13 _ (by omega)).trans p2,hnew⟩
  have l0:az P H3 3 ⟨n2,0+0,none⟩=some (.int .i64 (cw js ks nj kind at_ pad).1):=bw (mV hnew) agg3 rfl
  rw[Dz,aj,aJ,aj,l0,aj,← hS]
  obtain⟨lo',hi',q1,q2⟩:=part_loop l KK hnj hnp kind hk at_ pad hs r3 hB hg0 hAB KK (cw js ks nj kind at_ pad).1 2000 (-1) H3 (n2+1) st r1 (Int.le_refl _) (by omega) (by unfold KK; omega)
  unfold OX at q1
  rw[show A=lo' by omega,show B=hi' by omega]
  exact q2
end Go.Proofs.Ytgojjellogiglaa.spec
end
section
namespace Go.Proofs.Ytgojjellogiglaa.spec
open Go Go.Ev Go.Proofs.Ytgojjellogiglaa.nestFits Go.Proofs.Ytgojjellogiglaa.G
set_option maxRecDepth 100000
variable {ρ:Type}
theorem part_ext {np nj nk p q kd:Nat} {ps js ks:List Int} (good:Good np nj nk ps js ks) (hjs:js.length=nj * 2) (hp:p<np) (hq:q<np) (hkd:kd<nk) (hfit:QW js ks nj np kd p) :
    (cw js ks nj kd p q).1≤ext (ks.getD (kd * 5) 0) (shP js ks nj np p kd) 0 q∧ext (ks.getD (kd * 5) 0) (shP js ks nj np p kd) 0 q≤ext (ks.getD (kd * 5) 0) (shP js ks nj np p kd) 1 q∧ext (ks.getD (kd * 5) 0) (shP js ks nj np p kd) 1 q≤(cw js ks nj kd p q).2 ∧
    ∀ a,0≤a→a≤(cw js ks nj kd p q).2→(cw js ks nj kd p q).1≤a→(Aj js ks nj np kd p q a↔ext (ks.getD (kd * 5) 0) (shP js ks nj np p kd) 0 q≤a∧a≤ext (ks.getD (kd * 5) 0) (shP js ks nj np p kd) 1 q):=by
  have hi:=good.inner hjs
  have np8:=good.np8
  obtain⟨g1,g2⟩:=zY (ks:=ks) (kd:=kd) hi np8 hp q
  have t0:kK (shP js ks nj np p kd) 0=dV (fun q=>(cw js ks nj kd p q).1) 8:=uw (fun q _=>(zY hi np8 hp q).1)
  have t1:kK (shP js ks nj np p kd) 1=dV (fun q=>(cw js ks nj kd p q).2) 8:=uw (fun q _=>(zY hi np8 hp q).2)
  have e0:dV (fun q=>(cw js ks nj kd p q).1) 8=dV (fun q=>(cw js ks nj kd p q).1) np:=qW np8 fun k h1 _=>by rw[AX hi hp h1]
  have e1:dV (fun q=>(cw js ks nj kd p q).2) 8=dV (fun q=>(cw js ks nj kd p q).2) np:=qW np8 fun k h1 _=>by rw[AX hi hp h1]
  have l0:=qcq js ks nj kd p q np
  have l1:=Tx js ks nj kd p q np
  rw[if_pos hq] at l0 l1
  obtain⟨f0,f1⟩:=(fitsB_iff8 good.small hkd hp hi np8).1 hfit
  obtain⟨r0,r1,_⟩:=Ck (js:=js) (nj:=nj) good.small hkd p q
  obtain⟨s0,s1,_⟩:=Hj (js:=js) (nj:=nj) good.small hkd p q np
  have x0:ext (ks.getD (kd * 5) 0) (shP js ks nj np p kd) 0 q=max (cw js ks nj kd p q).1 (ks.getD (kd * 5) 0-qV js ks nj kd p q np):=by
    show max ((shP js ks nj np p kd).getD (q * 2) 0) (ks.getD (kd * 5) 0-(kK (shP js ks nj np p kd) 1-(shP js ks nj np p kd).getD (q * 2+1) 0))=_
    rw[g1,g2,t1,e1,l1]
    congr 1
    omega
  have x1:ext (ks.getD (kd * 5) 0) (shP js ks nj np p kd) 1 q=min (cw js ks nj kd p q).2 (ks.getD (kd * 5) 0-lows js ks nj kd p q np):=by
    show min ((shP js ks nj np p kd).getD (q * 2+1) 0) (ks.getD (kd * 5) 0-(kK (shP js ks nj np p kd) 0-(shP js ks nj np p kd).getD (q * 2) 0))=_
    rw[g1,g2,t0,e0,l0]
    congr 1
    omega
  rw[x0,x1]
  rw[e0,l0] at f0
  rw[e1,l1] at f1
  refine⟨by omega,by omega,by omega,fun a h0 h1 h2=>?_⟩
  unfold Aj
  omega
theorem call70 (l:Nat) (a b c d:Value) (H:Hp) (n:Nat):(cal (l+1)).call 70 [a,b,c,d] H n=C70_0 (cal l) KK a b c d H n:=by kernel_rfl
theorem part_call (l:Nat) {np nj nk p q kd:Nat} {ps js ks:List Int} (good:Good np nj nk ps js ks) (hjs:js.length=nj * 2) (hp:p<np) (hq:q<np) (hkd:kd<nk) (hfit:QW js ks nj np kd p)
    {H:Hp} {n:Nat} {v:Value} (hg:GroveI H n v np nj nk ps js ks) :
    ∃ H' n',(∀ k:Value→Hp→Nat→Option ρ,aV P (cal (l+4)) 70 [v,.int .i64 kd,.int .i64 p,.int .i64 q] H n k =
      k (.agg ⟨[.int .i64 (ext (ks.getD (kd * 5) 0) (shP js ks nj np p kd) 0 q),.int .i64 (ext (ks.getD (kd * 5) 0) (shP js ks nj np p kd) 1 q)]⟩) H' n')∧n≤n'∧Keep n H H':=by
  obtain⟨x0,x1,x2,x3⟩:=part_ext good hjs hp hq hkd hfit
  have np8:=good.np8
  have nj16:=good.nj16
  obtain⟨r,H',n',rfl,e1,e2,e3⟩:=dq (ρ:=ρ) (P:=P) (cal:=cal (l+4)) (f:=70) (args:=[v,.int .i64 kd,.int .i64 p,.int .i64 q]) (H:=H) (n:=n)
    (Pre:=fun H n=>GroveI H n v np nj nk ps js ks) (Q:=fun r=>r=.agg ⟨[.int .i64 (ext (ks.getD (kd * 5) 0) (shP js ks nj np p kd) 0 q),.int .i64 (ext (ks.getD (kd * 5) 0) (shP js ks nj np p kd) 1 q)]⟩)
    (fun H n h=>⟨_,by rw[call70]; exact part_spec l (show nj≤KK by unfold KK; omega) (show np≤100 by omega) kd hkd p q good.small x3 x0 x1 x2 h,rfl⟩) (fun r e _=>by subst e; rfl) hg (fun hp=>hg.nil (by simp only[bW,Bool.and_eq_true] at hp; exact hp.1))
  exact⟨H',n',e1,e2,e3⟩
theorem effK_a {H:Hp} {n id:Nat} {c:List Value} {e:TypeId} {op:Hp→Nat→(Value→Hp→Nat→Option ρ)→Option ρ} {k:Value→Hp→Nat→Option ρ} :
    effK P [.a id c e] H n op k=op (H.set id none) n (fun v H2 n2=>k v (H2.set id (H.get id)) n2):=rfl
theorem res27 (H:Hp) (b:Nat):resV P (Tr.set Tr.nil 6 (some (.pointer (some ⟨b,0,none⟩)))) H eY=(match az P H 55 ⟨b,0,none⟩ with
  | some v=>some [v]
  | none=>none):=by kernel_rfl
theorem end27 {H:Hp} {n b:Nat} {u w:Int} {c:List Value} (hg:H.get b=some (.cells c 55 false none)) (hc:c.length=2) :
    (aq (bx P 55 (.pointer (some ⟨b,0,none⟩)) (.agg ⟨[.int .i64 u,.int .i64 w]⟩) H) fun H'=>aq (resV P (Tr.set Tr.nil 6 (some (.pointer (some ⟨b,0,none⟩)))) H' eY) fun vs=>some (oneV vs,H',n)) =
      some (.agg ⟨[.int .i64 u,.int .i64 w]⟩,H.set b (some (.cells [.int .i64 u,.int .i64 w] 55 false none)),n):=by
  have hst:=eK (vs:=[.int .i64 u,.int .i64 w]) hg (by rw[hc]; rfl) rfl
  have hld:az P (H.set b (some (.cells [.int .i64 u,.int .i64 w] 55 false none))) 55 ⟨b,0,none⟩=some (.agg ⟨[.int .i64 u,.int .i64 w]⟩):=
    bY (o:=0) (k:=0) (aX.new (n:=b)) QV sz55 (by simp) rfl
  rw[Cz,hst,aj,res27,hld]
  rfl
structure SumAt (H0 H:Hp) (base n:Nat) (x y z:Value) (lo hi:Int):Prop where
  keep:Keep base H0 H
  top:base+3≤n
  box:H.get base=some (.cells [x,y,z] 26 false none)
  res:H.get (base+1)=some (.cells [.int .i64 0,.int .i64 0] 55 false none)
  out:H.get (base+2)=some (.cells [.int .i64 lo,.int .i64 hi] 55 false none)
theorem SumAt.go {H0 H H':Hp} {base n n':Nat} {x y z:Value} {lo hi:Int} (h:SumAt H0 H base n x y z lo hi) (hk:Keep n H H') (hn:n≤n'):SumAt H0 H' base n' x y z lo hi:=by
  have:=h.top
  exact⟨h.keep.trans hk (by omega),by omega,(hk _ (by omega)).trans h.box,(hk _ (by omega)).trans h.res,(hk _ (by omega)).trans h.out⟩
theorem SumAt.put {H0 H:Hp} {base n:Nat} {x y z:Value} {lo hi:Int} (h:SumAt H0 H base n x y z lo hi) (u w:Int):SumAt H0 (H.set (base+2) (some (.cells [.int .i64 u,.int .i64 w] 55 false none))) base n x y z u w:=by
  refine⟨h.keep.set (by omega) _,h.top,?_,?_,?_⟩
  · rw[Tr.get_set,if_neg (by omega)]; exact h.box
  · rw[Tr.get_set,if_neg (by omega)]; exact h.res
  · rw[Tr.get_set,if_pos rfl]
theorem Mj (js ks L:List Int) (nj np i e q:Nat):bsum js ks L nj np (i+1) e q=bsum js ks L nj np i e q+if L.getD i 0=-1 then 0 else ext (ks.getD ((L.getD i 0).toNat * 5) 0) (shP js ks nj np i (L.getD i 0).toNat) e q:=rfl
theorem TQ {js ks ls:List Int} {nj np e q:Nat} (hl:ls.length=np) {i:Nat} (hi:i≤np):bsum js ks ls nj np i e q=bsum js ks (cV ls np) nj np i e q:=
  uw fun k hk=>by rw[wQ hl (by omega)]
theorem rbounds_loop (l k:Nat) {np nj nk q:Nat} {ps js ks ls:List Int} (good:Good np nj nk ps js ks) (hjs:js.length=nj * 2) (hok:kz js ks ls nj np nk) (hq:q<np) (hls:ls.length=np) {H0:Hp} {base:Nat} {x y z w:Value}
    (hg:GroveI H0 base (.agg ⟨[x,y,z]⟩) np nj nk ps js ks) (hw:ListR H0 base w np ls) :
    ∀(m i:Nat) (H:Hp) (n:Nat),SumAt H0 H base n x y z (bsum js ks ls nj np i 0 q) (bsum js ks ls nj np i 1 q)→i≤np→np-i≤m →
    Ret (S27_1 (cal (l+4)) k m w (.int .i64 q) (.pointer (some ⟨base,0,none⟩)) (.pointer (some ⟨base+1,0,none⟩)) (.pointer (some ⟨base+2,0,none⟩)) (.int .i64 i) H n) base H0 (.agg ⟨[.int .i64 (bsum js ks ls nj np np 0 q),.int .i64 (bsum js ks ls nj np np 1 q)]⟩):=by
  have np8:=good.np8
  have body:∀(b1:Value→Value→Value→Value→Value→Value→Hp→Nat→Res) (m i:Nat) (H:Hp) (n:Nat),SumAt H0 H base n x y z (bsum js ks ls nj np i 0 q) (bsum js ks ls nj np i 1 q)→i≤np →
      (∀ H' n',SumAt H0 H' base n' x y z (bsum js ks ls nj np (i+1) 0 q) (bsum js ks ls nj np (i+1) 1 q)→i<np →
        Ret (b1 w (.int .i64 q) (.pointer (some ⟨base,0,none⟩)) (.pointer (some ⟨base+1,0,none⟩)) (.pointer (some ⟨base+2,0,none⟩)) (.int .i64 ((i+1:Nat):Int)) H' n') base H0 (.agg ⟨[.int .i64 (bsum js ks ls nj np np 0 q),.int .i64 (bsum js ks ls nj np np 1 q)]⟩)) →
      Ret (C27_1 (cal (l+4)) k m b1 w (.int .i64 q) (.pointer (some ⟨base,0,none⟩)) (.pointer (some ⟨base+1,0,none⟩)) (.pointer (some ⟨base+2,0,none⟩)) (.int .i64 i) H n) base H0 (.agg ⟨[.int .i64 (bsum js ks ls nj np np 0 q),.int .i64 (bsum js ks ls nj np np 1 q)]⟩):=by
    intro b1 m i H n st hi ih
    have htop:=st.top
    obtain⟨x',y',z',hxyz,h1,h2,h3⟩:=hg.eq
    cases hxyz
    have hwH:=hw.keep st.keep (show base≤n by omega)
    unfold C27_1 B27_1
    rw[hwH.len_eq,aj,ak cY,iJ]
    by_cases hlt:i<np
    · have hI:I64 ((i:Int)+1):=by unfold I64; omega
      have hcast:((i:Int)+1)=((i+1:Nat):Int):=by omega
      obtain⟨rb,o,hix,hrb,hld⟩:=hwH.at_ hlt
      rw[if_pos (by omega),hix,aj,aJ,aj,hld,aj,ak Av,iJ]
      by_cases hge:0≤ls.getD i 0
      · rcases hok i hlt with hm | ⟨_,p2,p3⟩
        · omega
        obtain⟨kd,hkd⟩:∃ kd:Nat,ls.getD i 0=kd:=⟨(ls.getD i 0).toNat,by omega⟩
        rw[hkd] at p2 p3
        have hkn:kd<nk:=by omega
        rw[Int.toNat_natCast] at p3
        have hfit:=(fits_agree good hjs hlt hkn).1 p3
        rw[if_pos (by omega),aJ,aj,wk (mV st.box) h1.hole.1 h2.hole.1 h3.hole.1,aj]
        simp only[aj,aJ,hld,hkd,Oj,newK,effK_a]
        have kA:Keep n H ((H.set n (some (.cells (bj (.agg #[.int .i64 0,.int .i64 0])) 55 false none))).set n none):=((Keep.refl n H).set (Nat.le_refl _) _).set (Nat.le_refl _) _
        obtain⟨H2,n2,e,e2,e3⟩:=part_call (ρ:=Value × Hp × Nat) l good hjs hlt hq hkn hfit (hg.keep (st.keep.trans kA (by omega)) (show base≤n+1 by omega))
        rw[e]
        have hget:(H2.set n ((H.set n (some (.cells (bj (.agg #[.int .i64 0,.int .i64 0])) 55 false none))).get n)).get n=some (.cells [.int .i64 0,.int .i64 0] 55 false none):=by
          rw[Tr.get_set,if_pos rfl,Tr.get_set,if_pos rfl]; rfl
        have kB:Keep n H (H2.set n ((H.set n (some (.cells (bj (.agg #[.int .i64 0,.int .i64 0])) 55 false none))).get n)):=(kA.trans e3 (by omega)).set (Nat.le_refl _) _
        generalize (H2.set n ((H.set n (some (.cells (bj (.agg #[.int .i64 0,.int .i64 0])) 55 false none))).get n))=H3 at hget kB ⊢
        have n0:=Mj js ks ls nj np i 0 q
        have n1:=Mj js ks ls nj np i 1 q
        rw[hkd,Int.toNat_natCast,if_neg (by omega)] at n0 n1
        have kin:oJ (cV ls np) np nk:=OQ hls hok
        have m0:=AZ (js:=js) (nj:=nj) (q:=q) (i:=i+1) (e:=0) good.kinds np8 kin (by omega) (by omega)
        have m1:=AZ (js:=js) (nj:=nj) (q:=q) (i:=i+1) (e:=1) good.kinds np8 kin (by omega) (by omega)
        rw[← TQ hls (by omega),n0] at m0
        rw[← TQ hls (by omega),n1] at m1
        generalize ext (ks.getD (kd * 5) 0) (shP js ks nj np i kd) 0 q=E0 at n0 m0 ⊢
        generalize ext (ks.getD (kd * 5) 0) (shP js ks nj np i kd) 1 q=E1 at n1 m1 ⊢
        have i0:I64 (bsum js ks ls nj np i 0 q+E0):=by unfold I64; omega
        have i1:I64 (bsum js ks ls nj np i 1 q+E1):=by unfold I64; omega
        rw[ptr,Cz,eK (c:=[.int .i64 0,.int .i64 0]) (vs:=[.int .i64 E0,.int .i64 E1]) (e:=55) (vec:=none) hget rfl rfl,aj]
        have hnew:(H3.set n (some (.cells [.int .i64 E0,.int .i64 E1] 55 false none))).get n=some (.cells [.int .i64 E0,.int .i64 E1] 55 false none):=by rw[Tr.get_set,if_pos rfl]
        have st4:SumAt H0 (H3.set n (some (.cells [.int .i64 E0,.int .i64 E1] 55 false none))) base n2 x y z (bsum js ks ls nj np i 0 q) (bsum js ks ls nj np i 1 q):=st.go (kB.set (Nat.le_refl _) _) (by omega)
        generalize H3.set n (some (.cells [.int .i64 E0,.int .i64 E1] 55 false none))=H4 at hnew st4 ⊢
        have a0:az P H4 3 ⟨base+2,0+0,none⟩=some (.int .i64 (bsum js ks ls nj np i 0 q)):=bw (mV st4.out) agg3 rfl
        have a1:az P H4 3 ⟨base+2,0+1,none⟩=some (.int .i64 (bsum js ks ls nj np i 1 q)):=bw (mV st4.out) agg3 rfl
        have c0:az P H4 3 ⟨n,0+0,none⟩=some (.int .i64 E0):=bw (mV hnew) agg3 rfl
        have c1:az P H4 3 ⟨n,0+1,none⟩=some (.int .i64 E1):=bw (mV hnew) agg3 rfl
        rw[Dz,aj,aJ,aj,a0,aj,Dz,aj,aJ,aj,c0,aj,ak (bV i0),GK,aj,aJ,aj,a1,aj,GK,aj,aJ,aj,c1,aj,ak (bV i1),
          qck,aj,Cz,eK (c:=[.int .i64 (bsum js ks ls nj np i 0 q),.int .i64 (bsum js ks ls nj np i 1 q)]) (vs:=[.int .i64 (bsum js ks ls nj np i 0 q+E0),.int .i64 (bsum js ks ls nj np i 1 q+E1)]) (e:=55) (vec:=none) st4.out rfl rfl,aj,← n0,← n1]
        unfold C27_2 B27_2
        rw[ak (bV hI),hcast]
        exact ih _ n2 (st4.put _ _) hlt
      · rcases hok i hlt with hm | ⟨p1,_,_⟩
        · have n0:=Mj js ks ls nj np i 0 q
          have n1:=Mj js ks ls nj np i 1 q
          rw[if_pos hm,Int.add_zero] at n0 n1
          rw[if_neg (by omega)]
          unfold C27_2 B27_2
          rw[ak (bV hI),hcast]
          exact ih H n (by rw[n0,n1]; exact st) hlt
        · omega
    · have e:i=np:=by omega
      subst e
      have lo9:az P H 55 ⟨base+2,0,none⟩=some (.agg ⟨[.int .i64 (bsum js ks ls nj i i 0 q),.int .i64 (bsum js ks ls nj i i 1 q)]⟩):=bY (o:=0) (k:=0) (mV st.out) QV sz55 (by simp) rfl
      rw[if_neg (by omega),aJ,aj,lo9,aj,end27 st.res rfl]
      exact⟨_,_,rfl,by omega,st.keep.set (by omega) _⟩
  intro m
  induction m with
  | zero=>
    intro i H n h1 h2 h3
    exact body _ 0 i H n h1 h2 (fun _ _ _ h=>by omega)
  | succ m ih=>
    intro i H n h1 h2 h3
    exact body _ (m+1) i H n h1 h2 (fun H' n' q1 q2=>ih (i+1) H' n' q1 (by omega) (by omega))
theorem rbounds_spec (l:Nat) {np nj nk q:Nat} {ps js ks ls:List Int} (good:Good np nj nk ps js ks) (hok:kz js ks ls nj np nk) (hq:q<np) {H:Hp} {n:Nat} {v w:Value} (hg:GroveI H n v np nj nk ps js ks) (hw:ListR H n w np ls) :
    Ret (C27_0 (cal (l+4)) KK v w (.int .i64 q) H n) n H (.agg ⟨[.int .i64 (bsum js ks (cV ls np) nj np 8 0 q),.int .i64 (bsum js ks (cV ls np) nj np 8 1 q)]⟩):=by
  have hg0:=hg
  have np8:=good.np8
  have hls:=hw.1
  obtain⟨x,y,z,rfl,h1,h2,h3⟩:=hg.eq
  have fin:∀ e,bsum js ks (cV ls np) nj np 8 e q=bsum js ks ls nj np np e q:=fun e=>by
    rw[TQ hls (Nat.le_refl _)]
    refine qW np8 fun k k1 k2=>?_
    have kin:oJ (cV ls np) np nk:=OQ hls hok
    rcases kin k (by omega) with h | h
    · rw[if_pos h]
    · omega
  unfold C27_0 B27_0
  generalize hS:S27_1 (cal (l+4)) KK KK=S
  rw[cQ,dZ Oj,dZ Oj,ptr,ptr,ptr]
  simp only[bj]
  generalize hH1:((H.set n (some (.cells [x,y,z] 26 false none))).set (n+1) (some (.cells [.int .i64 0,.int .i64 0] 55 false none))).set (n+1+1) (some (.cells [.int .i64 0,.int .i64 0] 55 false none))=H1
  have st:SumAt H H1 n (n+1+1+1) x y z (bsum js ks ls nj np 0 0 q) (bsum js ks ls nj np 0 1 q):=by
    refine⟨fun b hb=>?_,by omega,?_,?_,?_⟩
    · rw[← hH1,Tr.get_set,if_neg (by omega),Tr.get_set,if_neg (by omega),Tr.get_set,if_neg (by omega)]
    · rw[← hH1,Tr.get_set,if_neg (by omega),Tr.get_set,if_neg (by omega),Tr.get_set,if_pos rfl]
    · rw[← hH1,Tr.get_set,if_neg (by omega),Tr.get_set,if_pos rfl]
    · rw[← hH1,Tr.get_set,if_pos rfl]; rfl
  rw[← hS,fin 0,fin 1]
  exact rbounds_loop l KK good h2.1 hok hq hls hg0 hw KK 0 H1 _ st (by omega) (by unfold KK; omega)
theorem call27 (l:Nat) (a b c:Value) (H:Hp) (n:Nat):(cal (l+1)).call 27 [a,b,c] H n=C27_0 (cal l) KK a b c H n:=by kernel_rfl
theorem rbounds_call (l:Nat) {np nj nk q:Nat} {ps js ks ls:List Int} (good:Good np nj nk ps js ks) (hok:kz js ks ls nj np nk) (hq:q<np) {H:Hp} {n:Nat} {v w:Value} (hg:GroveI H n v np nj nk ps js ks) (hw:ListR H n w np ls) :
    ∃ H' n',(∀ k:Value→Hp→Nat→Option ρ,aV P (cal (l+5)) 27 [v,w,.int .i64 q] H n k=k (.agg ⟨[.int .i64 (bsum js ks (cV ls np) nj np 8 0 q),.int .i64 (bsum js ks (cV ls np) nj np 8 1 q)]⟩) H' n')∧n≤n'∧Keep n H H':=by
  obtain⟨r,H',n',rfl,e1,e2,e3⟩:=dq (ρ:=ρ) (P:=P) (cal:=cal (l+5)) (f:=27) (args:=[v,w,.int .i64 q]) (H:=H) (n:=n)
    (Pre:=fun H n=>GroveI H n v np nj nk ps js ks∧ListR H n w np ls) (Q:=fun r=>r=.agg ⟨[.int .i64 (bsum js ks (cV ls np) nj np 8 0 q),.int .i64 (bsum js ks (cV ls np) nj np 8 1 q)]⟩)
    (fun H n h=>⟨_,by rw[call27]; exact rbounds_spec l good hok hq h.1 h.2,rfl⟩) (fun r e _=>by subst e; rfl) ⟨hg,hw⟩ (fun hp=>by
        simp only[bW,Bool.and_eq_true] at hp
        exact⟨hg.nil hp.1,hw.nil hp.2.1⟩)
  exact⟨H',n',e1,e2,e3⟩
end Go.Proofs.Ytgojjellogiglaa.spec
end
section
namespace Go.Proofs.Ytgojjellogiglaa.spec
open Go Go.Ev Go.Proofs.Ytgojjellogiglaa.nestFits Go.Proofs.Ytgojjellogiglaa.G
set_option maxRecDepth 100000
variable {ρ:Type}
theorem bound_load {H:Hp} {g np nj p kd:Nat} {f:Nat→Value} {js ks:List Int} (hf:cx H g 859 117 f) (hn:pZ f js ks nj np p kd) (hp:p<8) (hkd:kd<3) :
    ∃ B,jy (ks.getD (kd * 5) 0) (shP js ks nj np p kd) B 8∧az P H 111 ⟨g,0+67+p * 99+kd * 33+17,none⟩=some (.agg ⟨ints B⟩):=by
  obtain⟨B,hB,hj⟩:=hn
  refine⟨B,hB,?_⟩
  rw[hf.load_agg oV qz (by omega)]
  have e:((List.range 16).map fun j=>f (0+67+p * 99+kd * 33+17+j))=ints B:=by
    apply List.ext_getElem?
    intro j
    by_cases h:j<16
    · rw[List.getElem?_map,List.getElem?_range h,nX (getD_some (by rw[hB.1]; omega))]
      simp only[Option.map_some]
      rw[show 0+67+p * 99+kd * 33+17+j=67+p * 99+kd * 33+(17+j) by omega,hj (17+j) (by omega)]
      congr 2
      unfold bK
      rw[List.getD_eq_getElem?_getD,List.getD_eq_getElem?_getD,show 17+j=(16+j)+1 by omega,List.getElem?_cons_succ,List.getElem?_append_right (by rw[QZ]; omega),QZ,show 16+j-16=j by omega,← List.getD_eq_getElem?_getD]
    · rw[List.getElem?_eq_none (by simp; omega),List.getElem?_eq_none (by rw[aK,hB.1]; omega)]
  rw[e]
theorem sumTo_put {f g:Nat→Int} {p:Nat} {a:Int} (h:∀ k,k≠p→g k=f k) (hp:g p=f p+a):∀ i,dV g i=dV f i+if p<i then a else 0
  | 0=>by simp [dV]
  | i+1=>by
    have ih:=sumTo_put h hp i
    simp only[dV]
    rw[ih]
    by_cases c:i=p
    · subst c
      rw[if_neg (by omega),if_pos (by omega),hp]
      omega
    · rw[h i c]
      by_cases d:p<i
      · rw[if_pos d,if_pos (by omega)]; omega
      · rw[if_neg d,if_neg (by omega)]; omega
theorem bsum_put {js ks L:List Int} {nj np p kd:Nat} (hL:L.length=8) (hp:p<8) (h1:L.getD p 0=-1) (e q:Nat) :
    bsum js ks (L.set p (kd:Int)) nj np 8 e q=bsum js ks L nj np 8 e q+ext (ks.getD (kd * 5) 0) (shP js ks nj np p kd) e q:=by
  have:=sumTo_put (f:=fun p=>if L.getD p 0=-1 then 0 else ext (ks.getD ((L.getD p 0).toNat * 5) 0) (shP js ks nj np p (L.getD p 0).toNat) e q) (g:=fun k=>if(L.set p (kd:Int)).getD k 0=-1 then 0 else ext (ks.getD (((L.set p (kd:Int)).getD k 0).toNat * 5) 0) (shP js ks nj np k ((L.set p (kd:Int)).getD k 0).toNat) e q) (p:=p) (a:=ext (ks.getD (kd * 5) 0) (shP js ks nj np p kd) e q)
    (fun k hk=>by simp only[vQ hk]) (by
      simp only[tz (show p<L.length by omega)]
      rw[if_pos h1,if_neg (by omega),Int.toNat_natCast]
      omega) 8
  rw[if_pos hp] at this
  exact this
theorem row_put {js ks L X B Z:List Int} {nj np p kd:Nat} (hL:L.length=8) (hp:p<8) (h1:L.getD p 0=-1) (hX:Bk X js ks L nj np 8) (hB:jy (ks.getD (kd * 5) 0) (shP js ks nj np p kd) B 8) (hZ:PlusTo X B Z 8):Bk Z js ks (L.set p (kd:Int)) nj np 8:=by
  refine⟨hZ.len,fun q hq=>?_⟩
  obtain⟨a1,a2⟩:=hZ.below q hq
  obtain⟨b1,b2⟩:=hX.2 q hq
  obtain⟨c1,c2⟩:=hB.2 q hq
  rw[a1,a2,b1,b2,c1,c2,bsum_put hL hp h1,bsum_put hL hp h1]
  exact⟨rfl,rfl⟩
theorem kinds_put {L:List Int} {np nk p kd:Nat} (hK:oJ L np nk) (hL:L.length=8) (hp:p<np) (hkd:kd<nk):oJ (L.set p (kd:Int)) np nk:=by
  intro i hi
  by_cases e:i=p
  · subst e
    rw[tz (by omega)]
    exact .inr ⟨hp,kd,hkd,rfl⟩
  · rw[vQ e]
    exact hK i hi
open Classical in
noncomputable def nv (js ks ps:List Int) (nj np:Nat) (L:List Int):Bool:=decide (∀ q,q<np→¬ ps.getD (q * 2+1) 0<bsum js ks L nj np 8 1 q)
open Classical in
noncomputable def nw (js ks ps:List Int) (nj np:Nat) (L:List Int):Bool:=decide (oW js ks ps L nj np)
open Classical in
theorem holdsD_iff {js ks ps L:List Int} {nj np:Nat}:nv js ks ps nj np L=true↔∀ q,q<np→¬ ps.getD (q * 2+1) 0<bsum js ks L nj np 8 1 q:=by unfold nv; exact decide_eq_true_iff
open Classical in
theorem yj {js ks ps L:List Int} {nj np:Nat}:nw js ks ps nj np L=true↔oW js ks ps L nj np:=by unfold nw; exact decide_eq_true_iff
theorem holds_iff {js ks ps L X:List Int} {nj np:Nat} (hX:Bk X js ks L nj np 8) (hnp:np≤8):(∀ p,p<np→Jj X ps p=false)↔nv js ks ps nj np L=true:=by
  rw[holdsD_iff]
  unfold Jj
  constructor
  · intro h q hq
    rw[← (hX.2 q (by omega)).2]
    exact of_decide_eq_false (h q hq)
  · intro h q hq
    have:=h q hq
    rw[← (hX.2 q (by omega)).2] at this
    exact decide_eq_false this
theorem qcv {js ks ps:List Int} {nj np nk:Nat} (hnp:np≤8) (hks:kj ks nk):∀(L M:List Int) (p d left:Nat),Open L p→p+d=np→GoesOn (fitD js ks nj np) nk L p d left M→nw js ks ps nj np M=true→nv js ks ps nj np L=true:=by
  intro L M p d left hL hpd hM hR
  rw[holdsD_iff]
  intro q hq
  have:=(yj.1 hR q hq).2
  have hle:bsum js ks L nj np 8 1 q≤bsum js ks M nj np 8 1 q:=by
    unfold bsum
    refine sumTo_le fun k hk=>?_
    by_cases c:k<p
    · rw[hM.before k c]
      exact Int.le_refl _
    · rw[hL.2 k (by omega) hk,if_pos rfl]
      by_cases e:k<p+d
      · rcases hM.kinds k (by omega) e with z | ⟨kd,h1,h2,h3⟩
        · rw[if_pos z]; exact Int.le_refl _
        · rw[h3,if_neg (by omega),Int.toNat_natCast]
          exact ext_nonneg (zX hks h1 hnp (by omega)) (of_decide_eq_true h2).1 (by omega) q
      · rw[hM.after k (by omega) hk,if_pos rfl]; exact Int.le_refl _
  omega
end Go.Proofs.Ytgojjellogiglaa.spec
end
section
namespace Go.Proofs.Ytgojjellogiglaa.spec
open Go Go.Ev Go.Proofs.Ytgojjellogiglaa.nestFits Go.Proofs.Ytgojjellogiglaa.G
set_option maxRecDepth 100000
variable {ρ:Type}
theorem agg175:eZ P 175=some false:=by kernel_rfl
theorem agg176:eZ P 176=some false:=by kernel_rfl
def Hw (sb yb pb:Nat):Value:=.func (.func 118) ⟨[]⟩ ⟨[.pointer (some ⟨sb,0,none⟩),.pointer (some ⟨yb,0,none⟩),.pointer (some ⟨pb,0,none⟩)]⟩
structure Around (Inv:Hp→Nat→Prop) (base sb yb pb g np:Nat) (f:Nat→Value) (x yv:Value) (ps:List Int):Prop where
  facts:∀ H n,Inv H n→base≤n∧H.get sb=some (.cells [.pointer (some ⟨g,0,none⟩)] 105 false none)∧H.get yb=some (.cells [yv] 175 false none)∧H.get pb=some (.cells [Hw sb yb pb] 176 false none)∧cx H g 859 117 f∧dk H base 2 x np ps
  same:∀ H n H' n',Inv H n→base≤n'→(∀ b,b<base→H'.get b=H.get b)→Inv H' n'
  low:sb<base∧yb<base∧pb<base∧g<base
  holes:iw yv=true∧oy yv=true
def wV (Inv:Hp→Nat→Prop) (Fin:List Int→Hp→Nat→Prop) (base:Nat) (r:Res) (o:Option (List Int)) (H:Hp) (t n:Nat):Prop:=∃ H' n',n≤n'∧(∀ b,base≤b→b<t→H'.get b=H.get b)∧match o with
  | some M=>r=some (.bool false,H',n')∧Fin M H' n'
  | none=>r=some (.bool true,H',n')∧Inv H' n'
theorem wV.from {Inv:Hp→Nat→Prop} {Fin:List Int→Hp→Nat→Prop} {base t s n m:Nat} {r:Res} {o:Option (List Int)} {H H1:Hp} (h:wV Inv Fin base r o H1 s m) (hn:n≤m) (ht:t≤s) (hk:∀ b,base≤b→b<t→H1.get b=H.get b):wV Inv Fin base r o H t n:=by
  obtain⟨H',n',h1,h2,h3⟩:=h
  exact⟨H',n',by omega,fun b hb hbn=>(h2 b hb (by omega)).trans (hk b hb hbn),h3⟩
theorem jV {H:Hp} {b:Nat} {v:Value} {e t:TypeId} (h:H.get b=some (.cells [v] e false none)) (ht:eZ P t=some false) (h1:iw v=true) (h2:oy v=true):az P H t ⟨b,0,none⟩=some v:=
  bq (o:=0) (k:=0) (fx h) ht rfl h1 h2
theorem call118 (l:Nat) (a b c d e f g:Value) (H:Hp) (n:Nat):(cal (l+1)).call 118 [a,b,c,d,e,f,g] H n=IW (cal l) KK a b c d e f g H n:=by kernel_rfl
theorem Kz (l:Nat) (a b c d:Value) (sb yb pb:Nat) (H:Hp) (n:Nat) (k:Value→Hp→Nat→Option ρ):gk P (cal (l+1)) (Hw sb yb pb) [a,b,c,d] H n k=aq (IW (cal l) KK a b c d (.pointer (some ⟨sb,0,none⟩)) (.pointer (some ⟨yb,0,none⟩)) (.pointer (some ⟨pb,0,none⟩)) H n) fun r=>k r.1 r.2.1 r.2.2:=by
  unfold Hw
  rw[callVK_f]
  show aV P (cal (l+1)) 118 [a,b,c,d,.pointer (some ⟨sb,0,none⟩),.pointer (some ⟨yb,0,none⟩),.pointer (some ⟨pb,0,none⟩)] H n k=_
  unfold aV
  have:(fw P 118 && bW [a,b,c,d,.pointer (some ⟨sb,0,none⟩),.pointer (some ⟨yb,0,none⟩),.pointer (some ⟨pb,0,none⟩)])=false:=by simp [bW,bz]
  rw[this,call118]
theorem kinds_loop (l k:Nat) {Inv:Hp→Nat→Prop} {Fin:List Int→Hp→Nat→Prop} {base t sb yb pb g np nj nk p d left bL bX:Nat} {f:Nat→Value} {x y z yv:Value} {ps js ks L X:List Int} (ar:Around Inv base sb yb pb g np f x yv ps) (hs:SiteF f x y z js nj) (hz:lenV P 33 z=some (.int .i64 nk)) (hn:∀ p kd,p<np→kd<nk→pZ f js ks nj np p kd) (hks:kj ks nk) (hnp:np≤8) (hnk:nk≤3)
    (hp:p<np) (hL:Open L p) (hK:oJ L np nk) (hX:Bk X js ks L nj np 8) (hleft:1≤left) (hl8:left≤8) (hbt:base≤t) (htL:t≤bL) (htX:t≤bX) (hne:bL≠bX)
    (hrec:∀(kd:Nat) (Z:List Int) (H:Hp) (n:Nat),kd<nk→fitD js ks nj np p kd=true→Bk Z js ks (L.set p (kd:Int)) nj np 8→Inv H n →
      wV Inv Fin base (IW (cal (l+5+d)) KK (.agg ⟨ints (L.set p (kd:Int))⟩) (.agg ⟨ints Z⟩) (.int .i64 ((p+1:Nat):Int)) (.int .i64 ((left-1:Nat):Int)) (.pointer (some ⟨sb,0,none⟩)) (.pointer (some ⟨yb,0,none⟩)) (.pointer (some ⟨pb,0,none⟩)) H n) (nq (nw js ks ps nj np) (nv js ks ps nj np) (fitD js ks nj np) np nk d (L.set p (kd:Int)) (left-1)) H n n) :
    ∀(m i:Nat) (W:List Int) (H:Hp) (n:Nat),Inv H n→bL<n→bX<n→W.length=8→(∀ a,W.set p a=L.set p a)→H.get bL=some (.cells (ints W) 121 false none)→H.get bX=some (.cells (ints X) 111 false none)→i≤nk→nk-i≤m →
    wV Inv Fin base (PQ (cal (l+5+(d+1))) k m (.int .i64 p) (.int .i64 left) (.pointer (some ⟨sb,0,none⟩)) (.pointer (some ⟨pb,0,none⟩)) (.pointer (some ⟨bL,0,none⟩)) (.pointer (some ⟨bX,0,none⟩)) (.int .i64 nk) (.int .i64 i) H n)
      (sX (fun kd=>if fitD js ks nj np p kd=true then nq (nw js ks ps nj np) (nv js ks ps nj np) (fitD js ks nj np) np nk d (L.set p (kd:Int)) (left-1) else none) nk (nk-i)) H t n:=by
  obtain⟨lo1,lo2,lo3,lo4⟩:=ar.low
  generalize hF:(fun kd=>if fitD js ks nj np p kd=true then nq (nw js ks ps nj np) (nv js ks ps nj np) (fitD js ks nj np) np nk d (L.set p (kd:Int)) (left-1) else none)=F
  have lXi:(ints X).length=16:=by rw[aK,hX.1]
  have hL8:=hL.1
  have hp1:L.getD p 0=-1:=hL.2 p (Nat.le_refl _) (by omega)
  have body:∀(b1:Value→Value→Value→Value→Value→Value→Value→Value→Hp→Nat→Res) (m i:Nat) (W:List Int) (H:Hp) (n:Nat),Inv H n→bL<n→bX<n→W.length=8→(∀ a,W.set p a=L.set p a)→H.get bL=some (.cells (ints W) 121 false none)→H.get bX=some (.cells (ints X) 111 false none)→i≤nk →
      (∀(W:List Int) (H:Hp) (n:Nat),Inv H n→bL<n→bX<n→W.length=8→(∀ a,W.set p a=L.set p a)→H.get bL=some (.cells (ints W) 121 false none)→H.get bX=some (.cells (ints X) 111 false none)→i<nk→wV Inv Fin base (b1 (.int .i64 p) (.int .i64 left) (.pointer (some ⟨sb,0,none⟩)) (.pointer (some ⟨pb,0,none⟩)) (.pointer (some ⟨bL,0,none⟩)) (.pointer (some ⟨bX,0,none⟩)) (.int .i64 nk) (.int .i64 ((i+1:Nat):Int)) H n) (sX F nk (nk-(i+1))) H t n) →
      wV Inv Fin base (Vv (cal (l+5+(d+1))) k m b1 (.int .i64 p) (.int .i64 left) (.pointer (some ⟨sb,0,none⟩)) (.pointer (some ⟨pb,0,none⟩)) (.pointer (some ⟨bL,0,none⟩)) (.pointer (some ⟨bX,0,none⟩)) (.int .i64 nk) (.int .i64 i) H n) (sX F nk (nk-i)) H t n:=by
    intro b1 m i W H n hI hbLn hbXn hW8 hW hgL hgX hi ih
    obtain⟨f1,f2,f3,f4,f5,f6⟩:=ar.facts H n hI
    unfold Vv B118_1
    rw[ak cY,iJ]
    by_cases hlt:i<nk
    · have hI1:I64 ((i:Int)+1):=by unfold I64; omega
      have hcast:((i:Int)+1)=((i+1:Nat):Int):=by omega
      have next:∀(W:List Int) (H':Hp) (n':Nat),F i=none→Inv H' n'→bL<n'→bX<n'→W.length=8→(∀ a,W.set p a=L.set p a)→H'.get bL=some (.cells (ints W) 121 false none)→H'.get bX=some (.cells (ints X) 111 false none) →
          wV Inv Fin base (Vq (cal (l+5+(d+1))) k m b1 (.int .i64 p) (.int .i64 left) (.pointer (some ⟨sb,0,none⟩)) (.pointer (some ⟨pb,0,none⟩)) (.pointer (some ⟨bL,0,none⟩)) (.pointer (some ⟨bX,0,none⟩)) (.int .i64 nk) (.int .i64 i) H' n') (sX F nk (nk-i)) H' t n':=by
        intro W H' n' hFi hI' h1 h2 h3 h4 h5 h6
        rw[CY hlt,hFi]
        unfold Vq B118_2
        rw[ak (bV hI1),hcast]
        exact ih W H' n' hI' h1 h2 h3 h4 h5 h6 hlt
      have lsb:=jV f2 xZ rfl rfl
      obtain⟨r,hr,hc⟩:=takes_call (ρ:=Value × Hp × Nat) (l+1+(d+1)) (n:=n) f5 hs hz hn hks hnp hnk hp (i:Int)
      have hr':r=true↔fitD js ks nj np p i=true:=by
        rw[hr]
        unfold mQ
        rw[Int.toNat_natCast]
        exact⟨fun h=>h.2.2,fun h=>⟨by omega,by omega,h⟩⟩
      rw[show l+1+(d+1)+4=l+5+(d+1) by omega] at hc
      rw[if_pos (by omega),aJ,aj,lsb,aj,hc]
      cases r with
      | false=>
        have hFi:F i=none:=by rw[← hF]; exact if_neg (fun h=>absurd (hr'.2 h) (by simp))
        rw[qy,aj,eJ]
        exact next W H n hFi hI hbLn hbXn hW8 hW hgL hgX
      | true=>
        have hfit:=hr'.1 rfl
        have hFi:F i=nq (nw js ks ps nj np) (nv js ks ps nj np) (fitD js ks nj np) np nk d (L.set p (i:Int)) (left-1):=by rw[← hF]; exact if_pos hfit
        have hst:bx P 3 (.pointer (some ⟨bL,0+p * 1,none⟩)) (.int .i64 i) H=some (H.set bL (some (.cells (ints (L.set p (i:Int))) 121 false none))):=by
          rw[store3,show 0+p * 1=p by omega,LK hgL (by omega),hW]
        rw[ow,aj,dW,at121 _ (by omega),aj,hst,aj]
        have g1:(H.set bL (some (.cells (ints (L.set p (i:Int))) 121 false none))).get bL=some (.cells (ints (L.set p (i:Int))) 121 false none):=by rw[Tr.get_set,if_pos rfl]
        have g2:∀ b,b≠bL→(H.set bL (some (.cells (ints (L.set p (i:Int))) 121 false none))).get b=H.get b:=fun b hb=>by rw[Tr.get_set,if_neg hb]
        generalize H.set bL (some (.cells (ints (L.set p (i:Int))) 121 false none))=H2 at g1 g2 ⊢
        have lens:(ints (L.set p (i:Int))).length=8:=by rw[aK]; simp [hL8]
        have l1:=jV ((g2 pb (by omega)).trans f4) agg176 rfl rfl
        have l2:=bZ g1 pK mK lens
        have l3:=bZ ((g2 bX (Ne.symm hne)).trans hgX) oV qz lXi
        have l4:=jV ((g2 sb (by omega)).trans f2) xZ rfl rfl
        have hf2:cx H2 g 859 117 f:=by
          obtain⟨c,a1,a2,a3⟩:=f5
          exact⟨c,(g2 g (by omega)).trans a1,a2,a3⟩
        obtain⟨B,hB,l5⟩:=bound_load hf2 (hn p i hp hlt) (by omega) (by omega)
        have hI2:I64 ((p:Int)+1):=by unfold I64; omega
        have hI3:I64 ((left:Int)-1):=by unfold I64; omega
        have hc2:((p:Int)+1)=((p+1:Nat):Int):=by omega
        have hc3:((left:Int)-1)=((left-1:Nat):Int):=by omega
        have mX:Mild X:=QK hX.1 fun q hq=>by
          obtain⟨a,b⟩:=hX.2 q hq
          rw[a,b]; exact⟨AZ hks hnp hK (by omega) (by omega),AZ hks hnp hK (by omega) (by omega)⟩
        have hsb:=zX (js:=js) (nj:=nj) hks hlt hnp hp
        have mB:Mild B:=QK hB.1 fun q hq=>by
          obtain⟨y1,_,_⟩:=hks i hlt
          obtain⟨a,b⟩:=hB.2 q hq
          have e0:=Kw hsb y1 (e:=0) (q:=q) (by omega)
          have e1:=Kw hsb y1 (e:=1) (q:=q) (by omega)
          rw[a,b]; omega
        obtain⟨Z,hZ,hplus⟩:=plus_call (ρ:=Value × Hp × Nat) (l+4+(d+1)) hX.1 hB.1 mX mB
        rw[show l+4+(d+1)+1=l+5+(d+1) by omega] at hplus
        have hRow:=row_put hL8 (show p<8 by omega) hp1 hX hB hZ
        obtain⟨H3,s3,c3⟩:=uv (P:=P) (ρ:=Value × Hp × Nat) (ex:=[.l 121 ⟨bL,0,none⟩,.l 176 ⟨pb,0,none⟩]) (H:=H2) (n:=n) (v:=.agg ⟨ints Z⟩)
          (op:=fun H n k=>aV P (cal (l+5+(d+1))) 103 [.agg ⟨ints X⟩,.agg ⟨ints B⟩] H n fun v H n=>k v H n)
          ⟨fun q hq=>.inl (by
            simp only[List.mem_cons,List.not_mem_nil,or_false] at hq
            rcases hq with rfl | rfl
            · exact⟨_,_,rfl,.inl ⟨_,_,_,_,g1⟩⟩
            · exact⟨_,_,rfl,.inl ⟨_,_,_,_,(g2 pb (by omega)).trans f4⟩⟩),fun t a id c e h1 h2=>by simp at h2⟩ (fun H k=>hplus H _ _)
        have hInv3:Inv H3 n:=ar.same H n H3 n hI f1 fun b hb=>by rw[s3,g2 b (by omega)]
        have keep3:∀ b,b≠bL→H3.get b=H.get b:=fun b hb=>by rw[s3,g2 b hb]
        have hr3:=hrec i Z H3 n hlt hfit hRow hInv3
        have epl:=Kz (ρ:=Value × Hp × Nat) (l+5+d) (.agg ⟨ints (L.set p (i:Int))⟩) (.agg ⟨ints Z⟩) (.int .i64 ((p+1:Nat):Int)) (.int .i64 ((left-1:Nat):Int)) sb yb pb
        rw[show l+5+d+1=l+5+(d+1) by omega] at epl
        rw[aJ,aj,l1,aj,aJ,aj,l2,aj,aJ,aj,l3,aj,aj,l4,aj,kW,aj,Xk,aj,at115 _ _ (by omega),aj,at114 _ _ (by omega),aj,fa113_2,aj,aJ,aj,l5,aj,
          ak (bV hI2),ak (wy hI3),c3,hc2,hc3,epl]
        obtain⟨H4,n4,q1,q2,q3⟩:=hr3
        rw[CY hlt,hFi]
        cases hfd:nq (nw js ks ps nj np) (nv js ks ps nj np) (fitD js ks nj np) np nk d (L.set p (i:Int)) (left-1) with
        | some M=>
          rw[hfd] at q3
          obtain⟨q3,q4⟩:=q3
          rw[q3,aj]
          dsimp only
          rw[qy,aj,eJ]
          exact⟨H4,n4,q1,fun b hb hbt=>by rw[q2 b hb (by omega),keep3 b (by omega)],rfl,q4⟩
        | none=>
          rw[hfd] at q3 hFi
          obtain⟨q3,q4⟩:=q3
          rw[q3,aj]
          dsimp only
          rw[ow,aj,dW]
          have:=next (L.set p (i:Int)) H4 n4 hFi q4 (by omega) (by omega) (by simp [hL8]) (fun a=>by rw[List.set_set]) (by rw[q2 bL (by omega) hbLn,s3]; exact g1) (by rw[q2 bX (by omega) hbXn,keep3 bX (Ne.symm hne)]; exact hgX)
          rw[CY hlt,hFi] at this
          exact this.from q1 (Nat.le_refl _) fun b hb hbt=>by rw[q2 b hb (by omega),keep3 b (by omega)]
    · rw[if_neg (by omega)]
      have:nk-i=0:=by omega
      rw[this]
      exact⟨H,n,Nat.le_refl _,fun _ _ _=>rfl,rfl,hI⟩
  intro m
  induction m with
  | zero=>
    intro i W H n h1 h2 h3 h4 h5 h6 h7 h8 h9
    exact body _ 0 i W H n h1 h2 h3 h4 h5 h6 h7 h8 (fun _ _ _ _ _ _ _ _ _ _ h=>by omega)
  | succ m ih=>
    intro i W H n h1 h2 h3 h4 h5 h6 h7 h8 h9
    exact body _ (m+1) i W H n h1 h2 h3 h4 h5 h6 h7 h8 (fun W H n q1 q2 q3 q4 q5 q6 q7 q8=>ih (i+1) W H n q1 q2 q3 q4 q5 q6 q7 (by omega) (by omega))
end Go.Proofs.Ytgojjellogiglaa.spec
end
