/- Texts S20 to S91. -/
import Derived.Test.YtekajfobmnedjaaB1
section
namespace Go.Proofs.Ytekajfobmnedjaa.spec
open Go.Ev Go.Proofs.Ytekajfobmnedjaa.nestFits Go.Proofs.Ytekajfobmnedjaa.G
set_option maxRecDepth 100000
variable {ρ:Type}
noncomputable def ext (y:Int) (L:List Int) (e p:Nat):Int:=lim e (L.getD (p * 2+e) 0) (y-(kV L (1-e)-L.getD (p * 2+(1-e)) 0))
theorem QW (b o:Nat) {i:Nat} (hi:i<8):aQ P 111 (.pointer (some ⟨b,o,none⟩)) (.int .i64 i)=some (.pointer (some ⟨b,o+i * 2,none⟩)):=by
  unfold aQ
  have:qW (.int .i64 (i:Int)) 8=some i:=by
    show qW (.int .i64 (.ofNat i)) 8=some i
    simp [qW,hi]
  simp only[und111,this,sz53]
  rfl
theorem nest_share {y:Int} {L B:List Int} (hL:L.length=16) {i:Nat} (hi:i<8):((ints (bK y L B)).drop (1+i * 2)).take 2=((ints L).drop (i * 2)).take 2:=by
  rw[Ak,Ak]
  congr 1
  unfold bK
  rw[Nat.add_comm,List.drop_succ_cons,List.drop_append_of_le_length (by omega),List.take_append_of_le_length (by simp; omega)]
theorem total_range {L:List Int} (hb:nX L) (e:Nat):0≤kV L e∧kV L e≤8000:=by
  have:=AJ (f:=fun p=>L.getD (p * 2+e) 0) (c:=1000) (i:=8) (fun p _=>hb _)
  exact⟨this.1,by unfold kV; omega⟩
theorem row44 (x:Int):Cx P 44 1 [(0,.int .i64 x)]=some ([.int .i64 x],3):=by kernel_rfl
theorem extreme_spec (l:Nat) {e:Nat} (he:e<2) {y:Int} {L B:List Int} (hL:L.length=16) (hB:B.length=16) (hb:nX L) (hy:0≤y∧y≤1000) {p:Nat} (hp:p<8) :
    ∃ H' n',UJ (cal (l+2)) KK (.agg ⟨ints (bK y L B)⟩) (.int .i64 p) (endV e) .nil 0=some (.int .i64 (ext y L e p),H',n'):=by
  unfold UJ B120_0
  simp only[dq,bj,ptr,endV]
  have hg0:(((Tr.nil:Hp).set 0 (some (.cells (ints (bK y L B)) 113 false none))).set (0+1) (some (.cells [endF e,endF (1-e),Bv e] 179 false none))).get 0=some (.cells (ints (bK y L B)) 113 false none):=by rw[Tr.get_set,if_neg (by omega),Tr.get_set,if_pos rfl]
  have hg1:(((Tr.nil:Hp).set 0 (some (.cells (ints (bK y L B)) 113 false none))).set (0+1) (some (.cells [endF e,endF (1-e),Bv e] 179 false none))).get 1=some (.cells [endF e,endF (1-e),Bv e] 179 false none):=by rw[Tr.get_set,if_pos rfl]
  generalize ((Tr.nil:Hp).set 0 (some (.cells (ints (bK y L B)) 113 false none))).set (0+1) (some (.cells [endF e,endF (1-e),Bv e] 179 false none))=H1 at hg0 hg1 ⊢
  simp only[Nat.zero_add]
  have lens:(ints (bK y L B)).length=33:=by rw[bq,gZ hL hB]
  have loads:∀ H:Hp,H.get 0=H1.get 0→H.get 1=H1.get 1 →
      az P H 113 ⟨0,0,none⟩=some (.agg ⟨ints (bK y L B)⟩)∧az P H 129 ⟨1,0+0,none⟩=some (endF e)∧az P H 129 ⟨1,0+1,none⟩=some (endF (1-e))∧az P H 160 ⟨1,0+2,none⟩=some (Bv e) ∧
      az P H 53 ⟨0,0+1+p * 2,none⟩=some (.agg ⟨((ints L).drop (p * 2)).take 2⟩)∧az P H 3 ⟨0,0+0,none⟩=some (.int .i64 y):=by
    intro H q0 q1
    have c0:aX H 0 0 (ints (bK y L B)):=dj (q0.trans hg0)
    have c1:aX H 1 0 [endF e,endF (1-e),Bv e]:=dj (q1.trans hg1)
    refine⟨dw (q0.trans hg0) SY JQ lens,bw c1 agg129 rfl (FZ _).2.1 (FZ _).2.2.1,bw c1 agg129 rfl (FZ _).2.1 (FZ _).2.2.1,bw c1 agg160 rfl (Pj _).2.1 (Pj _).2.2.1,?_,bv c0 agg3 (by simp [ints,bK])⟩
    have:=cw (P:=P) (k:=1+p * 2) c0 QQ sz53 (by rw[lens]; omega) (dJ _)
    rw[nest_share hL hp,← Nat.add_assoc] at this
    exact this
  obtain⟨a0,a1,a2,a3,a4,a5⟩:=loads H1 rfl rfl
  have h1e:1-e<2:=by omega
  rw[aJ,aj,a0,aj,fa179_1,aj,aJ,aj,a2,aj,aj,aJ,aj,a2,aj,fa113_1,aj,QW 0 (0+1) hp,aj,aJ,aj,a4,aj]
  obtain⟨H2,s2,e2⟩:=CJ (P:=P) (ρ:=Value × Hp × Nat) (ex:=[.l 53 ⟨0,0+1+p * 2,none⟩,.l 129 ⟨1,0+1,none⟩]) (H:=H1) (n:=1+1) (v:=.int .i64 (kV L (1-e)))
    (op:=fun H n k=>aY P (cal (l+2)) 98 [.agg ⟨ints (bK y L B)⟩,endF (1-e)] H n fun v H n=>k v H n)
    ⟨fun q hq=>.inl (by
      simp only[List.mem_cons,List.not_mem_nil,or_false] at hq
      rcases hq with rfl | rfl
      · exact⟨_,_,rfl,.inl ⟨_,_,_,_,hg0⟩⟩
      · exact⟨_,_,rfl,.inl ⟨_,_,_,_,hg1⟩⟩),fun t a id c e h1 h2=>by simp at h2⟩ (fun H k=>qax l h1e hL hB hb H _ _)
  rw[e2,qaz (l+1) h1e L (p * 2) (by omega)]
  obtain⟨t0,t1⟩:=total_range hb (1-e)
  obtain⟨u0,u1⟩:=hb (p * 2+(1-e))
  have hI:I64 (kV L (1-e)-L.getD (p * 2+(1-e)) 0):=by unfold I64; omega
  have hI2:I64 (y-(kV L (1-e)-L.getD (p * 2+(1-e)) 0)):=by unfold I64; omega
  obtain⟨b0,b1,b2,b3,b4,b5⟩:=loads H2 (s2 0) (s2 1)
  rw[ak (zK hI),fa179_2,aj,aJ,aj,b3,aj,fa179_0,aj,aJ,aj,b1,aj,aj,QW 0 (0+1) hp,aj,aJ,aj,b4,aj,fa113_0,aj,aJ,aj,b5,aj,
    ak (zK hI2),row44,aj]
  unfold newK
  have hg0':(H2.set (1+1) (some (.cells [.int .i64 (y-(kV L (1-e)-L.getD (p * 2+(1-e)) 0))] 3 false none))).get 0=some (.cells (ints (bK y L B)) 113 false none):=by rw[Tr.get_set,if_neg (by omega),s2]; exact hg0
  have hg1':(H2.set (1+1) (some (.cells [.int .i64 (y-(kV L (1-e)-L.getD (p * 2+(1-e)) 0))] 3 false none))).get 1=some (.cells [endF e,endF (1-e),Bv e] 179 false none):=by rw[Tr.get_set,if_neg (by omega),s2]; exact hg1
  have hrow:aX (H2.set (1+1) (some (.cells [.int .i64 (y-(kV L (1-e)-L.getD (p * 2+(1-e)) 0))] 3 false none))) 2 0 [.int .i64 (y-(kV L (1-e)-L.getD (p * 2+(1-e)) 0))]:=aX.new
  obtain⟨H3,s3,e3⟩:=CJ (P:=P) (ρ:=Value × Hp × Nat) (ex:=[.a (1+1) [.int .i64 (y-(kV L (1-e)-L.getD (p * 2+(1-e)) 0))] 3,.l 3 ⟨0,0+0,none⟩,.l 160 ⟨1,0+2,none⟩])
    (H:=H2.set (1+1) (some (.cells [.int .i64 (y-(kV L (1-e)-L.getD (p * 2+(1-e)) 0))] 3 false none))) (n:=1+1+1) (v:=.int .i64 (L.getD (p * 2+e) 0))
    (op:=fun H n k=>lK P (cal (l+2)) (endF e) [.agg ⟨((ints L).drop (p * 2)).take 2⟩] H n fun v H n=>k v H n)
    ⟨fun q hq=>by
      simp only[List.mem_cons,List.not_mem_nil,or_false] at hq
      rcases hq with rfl | rfl | rfl
      · exact .inr ⟨_,_,_,rfl⟩
      · exact .inl ⟨_,_,rfl,.inl ⟨_,_,_,_,hg0'⟩⟩
      · exact .inl ⟨_,_,rfl,.inl ⟨_,_,_,_,hg1'⟩⟩,fun t a id c e h1 h2=>by
      simp only[List.mem_cons,List.not_mem_nil,or_false,Extra.a.injEq,reduceCtorEq,Extra.l.injEq,false_or] at h1 h2
      obtain⟨rfl,_⟩:=h2
      rcases h1 with⟨_,rfl⟩ | ⟨_,rfl⟩ <;> simp⟩ (fun H k=>qaz (l+1) he L (p * 2) (by omega) H _ _)
  have ee:∀ k,effK P [.a (1+1) [.int .i64 (y-(kV L (1-e)-L.getD (p * 2+(1-e)) 0))] 3,.l 3 ⟨0,0+0,none⟩,.l 160 ⟨1,0+2,none⟩] (H2.set (1+1) (some (.cells [.int .i64 (y-(kV L (1-e)-L.getD (p * 2+(1-e)) 0))] 3 false none))) (1+1+1)
    (fun H n k=>lK P (cal (l+2)) (endF e) [.agg ⟨((ints L).drop (p * 2)).take 2⟩] H n fun v H n=>k v H n) k=k (.int .i64 (L.getD (p * 2+e) 0)) H3 (1+1+1):=e3
  simp only[ee]
  have hx:aX H3 (1+1) 0 [.int .i64 (y-(kV L (1-e)-L.getD (p * 2+(1-e)) 0))]:=aX.of_get hrow (s3 2)
  rw[with_call (l+1) he _ _ hx]
  exact⟨_,_,rfl⟩
theorem flat120:fX P 120=true:=by kernel_rfl
theorem call120 (l:Nat) (a b c:Value) (H:Hp) (n:Nat):(cal (l+1)).call 120 [a,b,c] H n=UJ (cal l) KK a b c H n:=
  (show(cal (l+1)).call 120 [a,b,c] H n=GK ent120 (cal l) [a,b,c] H n by kernel_rfl).trans (Hj ..)
theorem extreme_call (l:Nat) {e:Nat} (he:e<2) {y:Int} {L B:List Int} (hL:L.length=16) (hB:B.length=16) (hb:nX L) (hy:0≤y∧y≤1000) {p:Nat} (hp:p<8) (H:Hp) (n:Nat) (k:Value→Hp→Nat→Option ρ) :
    aY P (cal (l+3)) 120 [.agg ⟨ints (bK y L B)⟩,.int .i64 p,endV e] H n k=k (.int .i64 (ext y L e p)) H n:=by
  obtain⟨H',n',h⟩:=extreme_spec l he (B:=B) hL hB hb hy hp
  refine fY flat120 ?_ ((call120 ..).trans h) rfl
  simp only[endV,cx,bz,lW,wZ,(FZ _).2.2.2,(Pj _).2.2.2,Bool.and_self]
end Go.Proofs.Ytekajfobmnedjaa.spec
end
section
namespace Go.Proofs.Ytekajfobmnedjaa.spec
open Go.Ev Go.Proofs.Ytekajfobmnedjaa.nestFits Go.Proofs.Ytekajfobmnedjaa.G
set_option maxRecDepth 100000
variable {ρ:Type}
noncomputable def oV:List Int:=List.replicate 16 0
theorem tq:oV.length=16:=rfl
theorem WV:jX P 113=some (.agg ⟨ints (bK 0 oV oV)⟩):=by kernel_rfl
theorem build113 (y:Int) {L:List Int} (hL:L.length=16):jW P 113 [(0,.int .i64 y),(1,.agg ⟨ints L⟩)]=some (.agg ⟨ints (bK y L oV)⟩):=by
  match L,hL with
  | [a0,a1,a2,a3,a4,a5,a6,a7,a8,a9,a10,a11,a12,a13,a14,a15],_=>
    show jW P 113 [(0,.int .i64 y),(1,.agg ⟨ints [a0,a1,a2,a3,a4,a5,a6,a7,a8,a9,a10,a11,a12,a13,a14,a15]⟩)]=some (.agg ⟨ints (bK y [a0,a1,a2,a3,a4,a5,a6,a7,a8,a9,a10,a11,a12,a13,a14,a15] oV)⟩)
    kernel_rfl
theorem res115 (H:Hp) (b:Nat):resV P (Tr.set Tr.nil 4 (some (.pointer (some ⟨b,0,none⟩)))) H fy=(match az P H 113 ⟨b,0,none⟩ with
  | none=>none
  | some v=>some [v]):=by kernel_rfl
theorem nest_set {y a b:Int} {L B:List Int} (hL:L.length=16) (j:Nat):((bK y L B).set (17+j) a).set (17+j+1) b=bK y L ((B.set j a).set (j+1) b):=by
  unfold bK
  rw[show 17+j=(16+j)+1 by omega,List.set_cons_succ,List.set_cons_succ,List.set_append_right _ _ (by omega),List.set_append_right _ _ (by omega),hL]
  rw[show 16+j-16=j by omega,show 16+j+1-16=j+1 by omega]
def kZ (y:Int) (L B:List Int) (i:Nat):Prop:=B.length=16∧∀ p,p<i→B.getD (p * 2) 0=ext y L 0 p∧B.getD (p * 2+1) 0=ext y L 1 p
theorem kZ.next {y:Int} {L B:List Int} {i:Nat} (h:kZ y L B i) (hi:i<8):kZ y L ((B.set (i * 2) (ext y L 0 i)).set (i * 2+1) (ext y L 1 i)) (i+1):=by
  obtain⟨h1,h2⟩:=h
  refine⟨by simp [h1],fun p hp=>?_⟩
  simp only[List.getD_eq_getElem?_getD,List.getElem?_set,List.length_set,h1]
  by_cases e:p=i
  · subst e
    rw[if_neg (show ¬ p * 2+1=p * 2 by omega),if_pos rfl,if_pos (show p * 2<16 by omega),if_pos rfl,if_pos (show p * 2+1<16 by omega)]
    exact⟨rfl,rfl⟩
  · obtain⟨g1,g2⟩:=h2 p (by omega)
    rw[List.getD_eq_getElem?_getD] at g1 g2
    rw[if_neg (by omega),if_neg (by omega),if_neg (by omega),if_neg (by omega)]
    exact⟨g1,g2⟩
theorem newNest_loop (l k:Nat) {y:Int} {L:List Int} (hL:L.length=16) (hb:nX L) (hy:0≤y∧y≤1000) (b4 b5:Nat) (hne:b4≠b5):∀(m i:Nat) (B:List Int) (w:List Value) (H:Hp) (n:Nat),b4<n→b5<n →
    H.get b5=some (.cells (ints (bK y L B)) 113 false none)→H.get b4=some (.cells w 113 false none)→w.length=33→kZ y L B i→i≤8→8-i≤m →
    ∃ B' H' n',S115_1 (cal (l+3)) k m (.pointer (some ⟨b4,0,none⟩)) (.pointer (some ⟨b5,0,none⟩)) (.int .i64 i) H n=some (.agg ⟨ints (bK y L B')⟩,H',n')∧kZ y L B' 8:=by
  have body:∀(b1:Value→Value→Value→Hp→Nat→Res) (m i:Nat) (B:List Int) (w:List Value) (H:Hp) (n:Nat),b4<n→b5<n →
      H.get b5=some (.cells (ints (bK y L B)) 113 false none)→H.get b4=some (.cells w 113 false none)→w.length=33→kZ y L B i→i≤8 →
      (∀ B2 H2 n2,b4<n2→b5<n2→H2.get b5=some (.cells (ints (bK y L B2)) 113 false none)→H2.get b4=some (.cells w 113 false none)→kZ y L B2 (i+1)→i<8 →
        ∃ B' H' n',b1 (.pointer (some ⟨b4,0,none⟩)) (.pointer (some ⟨b5,0,none⟩)) (.int .i64 ((i+1:Nat):Int)) H2 n2=some (.agg ⟨ints (bK y L B')⟩,H',n')∧kZ y L B' 8) →
      ∃ B' H' n',Ux (cal (l+3)) k m b1 (.pointer (some ⟨b4,0,none⟩)) (.pointer (some ⟨b5,0,none⟩)) (.int .i64 i) H n=some (.agg ⟨ints (bK y L B')⟩,H',n')∧kZ y L B' 8:=by
    intro b1 m i B w H n hb4 hb5 hg5 hg4 hw hB hi ih
    have lens:(ints (bK y L B)).length=33:=by rw[bq,gZ hL hB.1]
    have hld:=dw hg5 SY JQ lens
    unfold Ux B115_1
    rw[ak cY,jw]
    by_cases hlt:i<8
    · rw[if_pos (by omega),aJ,aj,hld,aj,aj,hld,aj,fa113_2,aj]
      obtain⟨H1,n1,e1,f1,g1⟩:=effK_grow (P:=P) (ρ:=Value × Hp × Nat) (ex:=[.l 113 ⟨b5,0,none⟩,.l 113 ⟨b5,0,none⟩]) (H:=H) (n:=n) (v:=endV 0)
        (op:=fun H n k=>aY P (cal (l+3)) 121 [] H n fun v H n=>k v H n)
        (fun q hq=>by simp only[List.mem_cons,List.not_mem_nil,or_false,or_self] at hq; subst hq; exact⟨_,_,rfl,hb5,.inl ⟨_,_,_,_,hg5⟩⟩)
        (fun Hm=>by obtain⟨H',n',h1,h2,h3⟩:=lowEnd_call (ρ:=Value × Hp × Nat) (l+2) Hm n; exact⟨H',n',fun k=>h1 _,h2,h3⟩)
      rw[e1]
      have k5:H1.get b5=some (.cells (ints (bK y L B)) 113 false none):=(g1 b5 hb5).trans hg5
      have k4:H1.get b4=some (.cells w 113 false none):=(g1 b4 hb4).trans hg4
      obtain⟨H2,s2,e2⟩:=CJ (P:=P) (ρ:=Value × Hp × Nat) (ex:=[.l 113 ⟨b5,0,none⟩]) (H:=H1) (n:=n1) (v:=.int .i64 (ext y L 0 i))
        (op:=fun H n k=>aY P (cal (l+3)) 120 [.agg ⟨ints (bK y L B)⟩,.int .i64 i,endV 0] H n fun v H n=>k v H n)
        ⟨fun q hq=>.inl (by simp only[List.mem_cons,List.not_mem_nil,or_false] at hq; subst hq; exact⟨_,_,rfl,.inl ⟨_,_,_,_,k5⟩⟩),fun t a id c e h1 h2=>by simp at h2⟩
        (fun H k=>extreme_call l (by omega) hL hB.1 hb hy hlt H _ _)
      rw[e2]
      have j5:H2.get b5=some (.cells (ints (bK y L B)) 113 false none):=(s2 b5).trans k5
      have j4:H2.get b4=some (.cells w 113 false none):=(s2 b4).trans k4
      obtain⟨H3,n3,e3,f3,g3⟩:=effK_grow (P:=P) (ρ:=Value × Hp × Nat) (ex:=[.l 113 ⟨b5,0,none⟩]) (H:=H2) (n:=n1) (v:=endV 1)
        (op:=fun H n k=>aY P (cal (l+3)) 122 [] H n fun v H n=>k v H n)
        (fun q hq=>by simp only[List.mem_cons,List.not_mem_nil,or_false] at hq; subst hq; exact⟨_,_,rfl,by show b5<n1; omega,.inl ⟨_,_,_,_,j5⟩⟩)
        (fun Hm=>by obtain⟨H',n',h1,h2,h3⟩:=highEnd_call (ρ:=Value × Hp × Nat) (l+2) Hm n1; exact⟨H',n',fun k=>h1 _,h2,h3⟩)
      rw[e3,extreme_call l (by omega) hL hB.1 hb hy hlt,build53,aj,QW b5 (0+17) hlt,aj,Wk]
      have i5:H3.get b5=some (.cells (ints (bK y L B)) 113 false none):=(g3 b5 (by omega)).trans j5
      have i4:H3.get b4=some (.cells w 113 false none):=(g3 b4 (by omega)).trans j4
      rw[show 0+17+i * 2=17+i * 2 by omega,SZ i5 (by rw[gZ hL hB.1]; omega),nest_set hL,aj]
      have hI:I64 ((i:Int)+1):=by unfold I64; omega
      have hcast:((i:Int)+1)=((i+1:Nat):Int):=by omega
      rw[ak (bV hI),hcast]
      exact ih _ _ n3 (by omega) (by omega) (by rw[Tr.get_set,if_pos rfl]) (by rw[Tr.get_set,if_neg hne]; exact i4) (hB.next hlt) hlt
    · rw[if_neg (by omega),aJ,aj,hld,aj,ox JQ lens,mV hg4 (by rw[lens,hw]) (fx _),aj,res115]
      have hgw:(H.set b4 (some (.cells (ints (bK y L B)) 113 false none))).get b4=some (.cells (ints (bK y L B)) 113 false none):=by rw[Tr.get_set,if_pos rfl]
      rw[dw hgw SY JQ lens]
      have hi':i=8:=by omega
      subst hi'
      exact⟨B,_,_,rfl,hB⟩
  intro m
  induction m with
  | zero=>
    intro i B w H n h1 h2 h3 h4 h5 h6 h7 h8
    exact body _ 0 i B w H n h1 h2 h3 h4 h5 h6 h7 (fun _ _ _ _ _ _ _ _ h=>by omega)
  | succ m ih=>
    intro i B w H n h1 h2 h3 h4 h5 h6 h7 h8
    exact body _ (m+1) i B w H n h1 h2 h3 h4 h5 h6 h7 (fun B2 H2 n2 q1 q2 q3 q4 q5 q6=>ih (i+1) B2 w H2 n2 q1 q2 q3 q4 h5 q5 (by omega) (by omega))
theorem newNest_spec (l:Nat) {y:Int} {L:List Int} (hL:L.length=16) (hb:nX L) (hy:0≤y∧y≤1000) :
    ∃ B H' n',Uy (cal (l+3)) KK (.int .i64 y) (.agg ⟨ints L⟩) .nil 0=some (.agg ⟨ints (bK y L B)⟩,H',n')∧kZ y L B 8:=by
  unfold Uy B115_0
  rw[dq,iV WV]
  have hg0:(((Tr.nil:Hp).set 0 (some (.cells (ints L) 111 false none))).set (0+1) (some (.cells (ints (bK 0 oV oV)) 113 false none))).get 0=some (.cells (ints L) 111 false none):=by rw[Tr.get_set,if_neg (by omega),Tr.get_set,if_pos rfl]
  have hg1:(((Tr.nil:Hp).set 0 (some (.cells (ints L) 111 false none))).set (0+1) (some (.cells (ints (bK 0 oV oV)) 113 false none))).get 1=some (.cells (ints (bK 0 oV oV)) 113 false none):=by rw[Tr.get_set,if_pos rfl]
  simp only[bj,ptr]
  generalize ((Tr.nil:Hp).set 0 (some (.cells (ints L) 111 false none))).set (0+1) (some (.cells (ints (bK 0 oV oV)) 113 false none))=H1 at hg0 hg1 ⊢
  have hl:=dw hg0 yV AQ (by rw[bq,hL])
  rw[aJ,aj,hl,aj,build113 y hL,aj]
  have lens:(ints (bK y L oV)).length=33:=by rw[bq,gZ hL tq]
  obtain⟨H2,k1,k2,k3⟩:=uX (P:=P) (ρ:=Value × Hp × Nat) (H:=H1) (n:=0+1+1) (L:=ints (bK y L oV)) WV (by show(ints (bK 0 oV oV)).length=33; rw[bq,gZ tq tq]) JQ lens (fx _)
  rw[k3]
  exact newNest_loop l KK hL hb hy 1 2 (by omega) KK 0 oV (ints (bK 0 oV oV)) H2 3 (by omega) (by omega) k2 ((k1 1 (by omega)).trans hg1) (by rw[bq,gZ tq tq]) ⟨rfl,fun p hp=>by omega⟩ (by omega) (by unfold KK; omega)
theorem flat115:fX P 115=true:=by kernel_rfl
theorem call115 (l:Nat) (a b:Value) (H:Hp) (n:Nat):(cal (l+1)).call 115 [a,b] H n=Uy (cal l) KK a b H n:=
  (show(cal (l+1)).call 115 [a,b] H n=GK ent115 (cal l) [a,b] H n by kernel_rfl).trans (Hj ..)
theorem newNest_call (l:Nat) {y:Int} {L:List Int} (hL:L.length=16) (hb:nX L) (hy:0≤y∧y≤1000):∃ B,kZ y L B 8∧∀(H:Hp) (n:Nat) (k:Value→Hp→Nat→Option ρ),
    aY P (cal (l+4)) 115 [.int .i64 y,.agg ⟨ints L⟩] H n k=k (.agg ⟨ints (bK y L B)⟩) H n:=by
  obtain⟨B,H',n',h,hB⟩:=newNest_spec l hL hb hy
  refine⟨B,hB,fun H n k=>fY flat115 ?_ ((call115 ..).trans h) ?_⟩
  · simp only[cx,bz,lW,wZ,Bool.and_self]
  · simp only[bz,lW,wZ]
end Go.Proofs.Ytekajfobmnedjaa.spec
end
section
namespace Go.Proofs.Ytekajfobmnedjaa.spec
open Go Go.Ev Go.Proofs.Ytekajfobmnedjaa.nestFits Go.Proofs.Ytekajfobmnedjaa.G
set_option maxRecDepth 100000
variable {ρ:Type}
noncomputable def code97:Code:=cV 97
noncomputable def yW:List ResultVar:=dW 97
noncomputable def asgOf:Code→Code
  | .rangeFunc _ _ a _=>a
  | _=>.skip
noncomputable def bodOf:Code→Code
  | .rangeFunc _ _ _ b=>b
  | _=>.skip
noncomputable def rk:Code:=asgOf (cL (cR (cL (cR (cR code97)))))
noncomputable def rJ:Code:=bodOf (cL (cR (cL (cR (cR code97)))))
noncomputable def K97 (c:Cal) (k:Nat):KC (Value × Hp × Nat):=ay P c (aw P c k) none 97 (cR (cR (cR code97))) .leaf (av P yW) X0 (av P yW)
noncomputable def T97 (v0 v1 v2 v5 v6 v7 v11:Value):Tm:=(((((((((Tr.nil:Tm).set 0 (some v0)).set 1 (some v1)).set 2 (some v2)).set 5 (some v5)).set 6 (some v6)).set 7 (some v7)).set 9 (some v0)).set 10 (some v1)).set 11 (some v11)
theorem pre97 (c:Cal) (k:Nat) (v0 v1 v2:Value) (H:Hp) (n:Nat):aK P c A (k+1) 97 [v0,v1,v2] H n =
    (boxK 86 v2 H n fun v5 H n=>ez P 113 H n fun v6 H n=>ez P 111 H n fun v7 H n=>aY P c 113 [v0,v1] H n fun v11 H n=>
      HJ P c none 97 v11 #[12] rk rJ (K97 c k) (upX 0 (K97 c k) X0) (av P yW) (T97 v0 v1 v2 v5 v6 v7 v11) H n []):=by
  rw[bW (fn:=Go.Proofs.Try.f97) (c:=code97) (rs:=yW) (by kernel_rfl) (by kernel_rfl) (by kernel_rfl) (by kernel_rfl)]
  kernel_rfl
theorem post97 (c:Cal) (k:Nat) (v0 v1 v2 v5 v6 v7 v11:Value) (H:Hp) (n:Nat) (D:List Nat):K97 c k (T97 v0 v1 v2 v5 v6 v7 v11) H n D =
    (aq (ax P 86 v5 1) fun v18=>aq (aW v18) fun a=>aq (az P H 53 a) fun v19=>aq (aQ P 111 v7 v1) fun v20=>aq (bJ P 53 v20 v19 H) fun H=>
      aq (ax P 86 v5 0) fun v21=>aq (aW v21) fun a=>aq (az P H 3 a) fun v22=>aq (aW v7) fun a=>aq (az P H 111 a) fun v23=>aY P c 115 [v22,v23] H n fun v24 H n=>
      aq (bJ P 113 v6 v24 H) fun H=>getK (Bq H D) fun H=>aq (resV P ((Tr.nil:Tm).set 6 (some v6)) H yW) fun vs=>some (oneV vs,H,n)):=by
  kernel_rfl
theorem call97 (l:Nat) (a b c:Value) (H:Hp) (n:Nat):(cal (l+1)).call 97 [a,b,c] H n=aK P (cal l) A (KK+1) 97 [a,b,c] H n:=by kernel_rfl
theorem asg97_eq (l lp:Nat) (v0 v1 v2 v5 v6 v7 v11 p:Value) (H:Hp) (n:Nat) :
    (cal (l+1)).body lp 97 rk { T:=(T97 v0 v1 v2 v5 v6 v7 v11).set 12 (some p),H,n,D:=[] }=some (.norm,{ T:=((T97 v0 v1 v2 v5 v6 v7 v11).set 12 (some p)).set 8 (some p),H,n,D:=[] }):=by kernel_rfl
theorem bod97_eq (l lp:Nat) (v0 v1 v2 v5 v6 v7 v11 p:Value) (H:Hp) (n:Nat) :
    (cal (l+1)).body lp 97 rJ { T:=((T97 v0 v1 v2 v5 v6 v7 v11).set 12 (some p)).set 8 (some p),H,n,D:=[] } =
      (aq (ax P 86 v5 2) fun v14=>aq (aW v14) fun a=>aq (az P H 53 a) fun v15=>aq (aQ P 111 v7 p) fun v16=>aq (bJ P 53 v16 v15 H) fun H'=>
        some (.norm,{ T:=((((((T97 v0 v1 v2 v5 v6 v7 v11).set 12 (some p)).set 8 (some p)).set 13 (some p)).set 14 (some v14)).set 15 (some v15)).set 16 (some v16),H:=H',n,D:=[] })):=by kernel_rfl
theorem res97 (H:Hp) (b:Nat):resV P ((Tr.nil:Tm).set 6 (some (.pointer (some ⟨b,0,none⟩)))) H yW=(match az P H 113 ⟨b,0,none⟩ with
  | none=>none
  | some v=>some [v]):=by kernel_rfl
theorem ntm97:ntm P 97=25:=by kernel_rfl
end Go.Proofs.Ytekajfobmnedjaa.spec
end
section
namespace Go.Proofs.Ytekajfobmnedjaa.spec
open Go Go.Ev Go.Proofs.Ytekajfobmnedjaa.nestFits Go.Proofs.Ytekajfobmnedjaa.G
set_option maxRecDepth 100000
variable {ρ:Type}
theorem agg105:fk P 105=some false:=by kernel_rfl
theorem agg4:fk P 4=some false:=by kernel_rfl
theorem und109:P.underlying 109=some (.array 8 108):=by kernel_rfl
theorem und108:P.underlying 108=some (.array 8 4):=by kernel_rfl
theorem sz108:szT P 108=some 8:=by kernel_rfl
theorem sz4:szT P 4=some 1:=by kernel_rfl
theorem pk (b o:Nat):ax P 117 (.pointer (some ⟨b,o,none⟩)) 0=some (.pointer (some ⟨b,o+0,none⟩)):=by kernel_rfl
theorem fa117_1 (b o:Nat):ax P 117 (.pointer (some ⟨b,o,none⟩)) 1=some (.pointer (some ⟨b,o+3,none⟩)):=by kernel_rfl
theorem WW (b o:Nat):ax P 117 (.pointer (some ⟨b,o,none⟩)) 2=some (.pointer (some ⟨b,o+67,none⟩)):=by kernel_rfl
theorem CQ {i n:Nat} (hi:i<n):qW (.int .i64 (i:Int)) n=some i:=by
  show qW (.int .i64 (.ofNat i)) n=some i
  simp [qW,hi]
theorem at109 (b o:Nat) {i:Nat} (hi:i<8):aQ P 109 (.pointer (some ⟨b,o,none⟩)) (.int .i64 i)=some (.pointer (some ⟨b,o+i * 8,none⟩)):=by
  unfold aQ
  simp only[und109,CQ hi,sz108]
  rfl
theorem at108 (b o:Nat) {i:Nat} (hi:i<8):aQ P 108 (.pointer (some ⟨b,o,none⟩)) (.int .i64 i)=some (.pointer (some ⟨b,o+i * 1,none⟩)):=by
  unfold aQ
  simp only[und108,CQ hi,sz4]
  rfl
theorem mj (a:Addr):nilV (.pointer (some a))=some (.pointer (some a)):=rfl
theorem Mx {op:KD ρ→Option ρ} {ex:Extra} {H:Hp} {n:Nat} {k:KD ρ}:cz (.bool true) true op ex H n k=op k:=rfl
theorem My {op:KD ρ→Option ρ} {ex:Extra} {H:Hp} {n:Nat} {k:KD ρ}:cz (.bool false) true op ex H n k=k undef ex H n:=rfl
structure Reads (H:Hp) (pb sb g:Nat) (x:Value) (pad:Nat) (near:Nat→Bool):Prop where
  pad_:az P H 3 ⟨pb,0,none⟩=some (.int .i64 pad)
  site:az P H 105 ⟨sb,0,none⟩=some (.pointer (some ⟨g,0,none⟩))
  pads:az P H 31 ⟨g,0+0+0,none⟩=some x
  near_:∀ b,b<8→az P H 4 ⟨g,0+3+pad * 8+b * 1,none⟩=some (.bool (near b))
theorem iter_loop (c:Cal) (k:Nat) (yv:Value) (pb sb g pad np:Nat) (x:Value) (near:Nat→Bool) (hpad:pad<8) (hnp:np≤8) (Inv:List Nat→Hp→Nat→Prop) (hR:∀ ps H n,Inv ps H n→Reads H pb sb g x pad near)
    (hY:∀(ps:List Nat) (p:Nat) (H:Hp) (n:Nat),Inv ps H n→p<8→∃ H' n',(∀ k:Value→Hp→Nat→Res,lK P c yv [.int .i64 p] H n k=k (.bool true) H' n')∧Inv (ps++[p]) H' n') (ps0:List Nat):∀(m i:Nat) (H:Hp) (n:Nat),
    Inv (ps0++(List.range i).filter near) H n→i≤np→np-i≤m →
    ∃ H' n',Uk c k m yv (.pointer (some ⟨pb,0,none⟩)) (.pointer (some ⟨sb,0,none⟩)) (.int .i64 np) (.int .i64 i) H n=some (.tuple ⟨[]⟩,H',n')∧Inv (ps0++(List.range np).filter near) H' n':=by
  have body:∀(b1:Value→Value→Value→Value→Value→Hp→Nat→Res) (m i:Nat) (H:Hp) (n:Nat),Inv (ps0++(List.range i).filter near) H n→i≤np →
      (∀ H' n',Inv (ps0++(List.range (i+1)).filter near) H' n'→i<np→∃ H2 n2,b1 yv (.pointer (some ⟨pb,0,none⟩)) (.pointer (some ⟨sb,0,none⟩)) (.int .i64 np) (.int .i64 ((i+1:Nat):Int)) H' n'=some (.tuple ⟨[]⟩,H2,n2)∧Inv (ps0++(List.range np).filter near) H2 n2) →
      ∃ H' n',Uz c k m b1 yv (.pointer (some ⟨pb,0,none⟩)) (.pointer (some ⟨sb,0,none⟩)) (.int .i64 np) (.int .i64 i) H n=some (.tuple ⟨[]⟩,H',n')∧Inv (ps0++(List.range np).filter near) H' n':=by
    intro b1 m i H n hI hi ih
    unfold Uz B119_1
    rw[ak cY,jw]
    by_cases hlt:i<np
    · obtain⟨r1,r2,r3,r4⟩:=hR _ _ _ hI
      have hi8:i<8:=by omega
      have hb:=r4 i hi8
      have hI1:I64 ((i:Int)+1):=by unfold I64; omega
      have hcast:((i:Int)+1)=((i+1:Nat):Int):=by omega
      rw[if_pos (by omega),aJ,aj,r2,aj,aJ,aj,r1,aj,mj,aj,fa117_1,aj,at109 _ _ hpad,aj,at108 _ _ hi8,aj,aJ,aj,hb,aj]
      cases hn:near i with
      | true=>
        obtain⟨H1,n1,e1,e2⟩:=hY _ i _ _ hI hi8
        simp only[Mx,e1,qY,aj,dQ,ej,ak (bV hI1),hcast]
        refine ih H1 n1 ?_ hlt
        rw[List.range_succ,List.filter_append,← List.append_assoc]
        simp only[List.filter_cons,hn,if_true,List.filter_nil]
        exact e2
      | false=>
        simp only[My,dk,aj,ej,ak (bV hI1),hcast]
        refine ih H n ?_ hlt
        rw[List.range_succ,List.filter_append]
        simp only[List.filter_cons,hn,List.filter_nil,Bool.false_eq_true,if_false,List.append_nil]
        exact hI
    · rw[if_neg (by omega)]
      have hi':i=np:=by omega
      subst hi'
      exact⟨H,n,rfl,hI⟩
  intro m
  induction m with
  | zero=>
    intro i H n h1 h2 h3
    exact body _ 0 i H n h1 h2 (fun _ _ _ h=>by omega)
  | succ m ih=>
    intro i H n h1 h2 h3
    exact body _ (m+1) i H n h1 h2 (fun H' n' q1 q2=>ih (i+1) H' n' q1 (by omega) (by omega))
theorem iter_spec (c:Cal) (yv:Value) (pb sb g pad np:Nat) (x:Value) (near:Nat→Bool) (hpad:pad<8) (hnp:np≤8) (hx:lenV P 31 x=some (.int .i64 np)) (Inv:List Nat→Hp→Nat→Prop) (hR:∀ ps H n,Inv ps H n→Reads H pb sb g x pad near)
    (hY:∀(ps:List Nat) (p:Nat) (H:Hp) (n:Nat),Inv ps H n→p<8→∃ H' n',(∀ k:Value→Hp→Nat→Res,lK P c yv [.int .i64 p] H n k=k (.bool true) H' n')∧Inv (ps++[p]) H' n') {H:Hp} {n:Nat} (h0:Inv [] H n) :
    ∃ H' n',PQ c KK yv (.pointer (some ⟨pb,0,none⟩)) (.pointer (some ⟨sb,0,none⟩)) H n=some (.tuple ⟨[]⟩,H',n')∧Inv (pad::(List.range np).filter near) H' n':=by
  unfold PQ B119_0
  generalize hS:Uk c KK KK=S
  obtain⟨r1,_,_,_⟩:=hR _ _ _ h0
  obtain⟨H1,n1,e1,e2⟩:=hY _ pad _ _ h0 hpad
  obtain⟨_,r2,r3,_⟩:=hR _ _ _ e2
  rw[aJ,aj,r1,aj,e1,qY,aj,ej,aJ,aj,r2,aj,mj,aj,pk,aj,rz,aj,aJ,aj,r3,aj,hx,aj,← hS]
  exact iter_loop c KK yv pb sb g pad np x near hpad hnp Inv hR hY [pad] KK 0 H1 n1 e2 (by omega) (by unfold KK; omega)
def NW (lo hi:Int) (ps:List Nat):List Int:=ps.foldl (fun X p=>(X.set (p * 2) lo).set (p * 2+1) hi) (List.replicate 16 0)
theorem fillS_snoc (lo hi:Int) (ps:List Nat) (p:Nat):NW lo hi (ps++[p])=((NW lo hi ps).set (p * 2) lo).set (p * 2+1) hi:=by
  unfold NW; rw[List.foldl_append]; rfl
theorem Dz (X:List Int) (j:Nat) (a b:Int):((X.set j a).set (j+1) b).length=X.length:=by simp
theorem Mz (lo hi:Int) (ps:List Nat):(NW lo hi ps).length=16:=by
  have:∀(ps:List Nat) (X:List Int),(ps.foldl (fun X p=>(X.set (p * 2) lo).set (p * 2+1) hi) X).length=X.length:=by
    intro ps
    induction ps with
    | nil=>intro X; rfl
    | cons p ps ih=>intro X; rw[List.foldl_cons,ih,Dz]
  exact this ps _
theorem Dk {X:List Int} (hX:X.length=16) {p q:Nat} (hp:p<8) (a b:Int):(((X.set (p * 2) a).set (p * 2+1) b).getD (q * 2) 0=if q=p then a else X.getD (q * 2) 0) ∧
    (((X.set (p * 2) a).set (p * 2+1) b).getD (q * 2+1) 0=if q=p then b else X.getD (q * 2+1) 0):=by
  simp only[List.getD_eq_getElem?_getD,List.getElem?_set,List.length_set,hX]
  by_cases e:q=p
  · subst e
    rw[if_neg (show ¬ q * 2+1=q * 2 by omega),if_pos rfl,if_pos (show q * 2<16 by omega),if_pos rfl,if_pos rfl,if_pos (show q * 2+1<16 by omega),if_pos rfl]
    exact⟨rfl,rfl⟩
  · rw[if_neg (show ¬ p * 2+1=q * 2 by omega),if_neg (show ¬ p * 2=q * 2 by omega),if_neg e,if_neg (show ¬ p * 2+1=q * 2+1 by omega),if_neg (show ¬ p * 2=q * 2+1 by omega),if_neg e]
    exact⟨rfl,rfl⟩
theorem fillS_get (lo hi:Int) (q:Nat) (ps:List Nat) (h:∀ p ∈ ps,p<8):(NW lo hi ps).getD (q * 2) 0=(if q ∈ ps then lo else 0)∧(NW lo hi ps).getD (q * 2+1) 0=(if q ∈ ps then hi else 0):=by
  have key:∀(ps:List Nat) (X:List Int),X.length=16→(∀ p ∈ ps,p<8)→(ps.foldl (fun X p=>(X.set (p * 2) lo).set (p * 2+1) hi) X).getD (q * 2) 0=(if q ∈ ps then lo else X.getD (q * 2) 0) ∧
      (ps.foldl (fun X p=>(X.set (p * 2) lo).set (p * 2+1) hi) X).getD (q * 2+1) 0=(if q ∈ ps then hi else X.getD (q * 2+1) 0):=by
    intro ps
    induction ps with
    | nil=>intro X _ _; exact⟨rfl,rfl⟩
    | cons p ps ih=>
      intro X hX hp
      obtain⟨h1,h2⟩:=ih ((X.set (p * 2) lo).set (p * 2+1) hi) (by rw[Dz]; exact hX) (fun p' hp'=>hp p' (List.mem_cons_of_mem _ hp'))
      obtain⟨g1,g2⟩:=Dk (q:=q) hX (hp p List.mem_cons_self) lo hi
      rw[List.foldl_cons,h1,h2,g1,g2]
      by_cases e:q=p <;> by_cases e2:q ∈ ps <;> simp [e,e2]
  have z:∀ k:Nat,(List.replicate 16 (0:Int)).getD k 0=0:=by
    intro k
    rw[List.getD_eq_getElem?_getD,List.getElem?_replicate]
    split <;> rfl
  have:=key ps (List.replicate 16 0) rfl h
  rw[z,z] at this
  exact this
end Go.Proofs.Ytekajfobmnedjaa.spec
end
section
namespace Go.Proofs.Ytekajfobmnedjaa.spec
open Go Go.Ev Go.Proofs.Ytekajfobmnedjaa.nestFits Go.Proofs.Ytekajfobmnedjaa.G
set_option maxRecDepth 100000
variable {ρ:Type}
theorem loadK53 {H:Hp} {b:Nat} {y a1 a2 a3 a4:Int} (h:H.get b=some (.cells [.int .i64 y,.int .i64 a1,.int .i64 a2,.int .i64 a3,.int .i64 a4] 86 false none)) :
    az P H 53 ⟨b,0+1,none⟩=some (.agg ⟨[.int .i64 a1,.int .i64 a2]⟩)∧az P H 53 ⟨b,0+3,none⟩=some (.agg ⟨[.int .i64 a3,.int .i64 a4]⟩)∧az P H 3 ⟨b,0+0,none⟩=some (.int .i64 y):=
  ⟨cw (k:=1) (dj h) QQ sz53 (by simp) rfl,cw (k:=3) (dj h) QQ sz53 (by simp) rfl,bv (dj h) agg3 rfl⟩
theorem yield97 (L:Nat) {H:Hp} {n lb b5 b7 d:Nat} {v0 v1 v2 v6 v11:Value} {y a1 a2 a3 a4:Int} {X:List Int} (hl:H.get lb=some (.loop .ready none 97 (T97 v0 v1 v2 (.pointer (some ⟨b5,0,none⟩)) v6 (.pointer (some ⟨b7,0,none⟩)) v11) (ntm P 97) #[12] rk rJ d))
    (h5:H.get b5=some (.cells [.int .i64 y,.int .i64 a1,.int .i64 a2,.int .i64 a3,.int .i64 a4] 86 false none)) (h7:H.get b7=some (.cells (ints X) 111 false none)) (hX:X.length=16) (n5:b5≠lb) (n7:b7≠lb) {p:Nat} (hp:p<8) :
    ∃ H',(∀ k:Value→Hp→Nat→Option ρ,lK P (cal (L+1)) (.func (.yield lb) #[] #[]) [.int .i64 p] H n k=k (.bool true) H' n)∧H'.get lb=H.get lb ∧
      H'.get b7=some (.cells (ints ((X.set (p * 2) a3).set (p * 2+1) a4)) 111 false none)∧∀ b,b≠lb→b≠b7→H'.get b=H.get b:=by
  have hpar:zY (T97 v0 v1 v2 (.pointer (some ⟨b5,0,none⟩)) v6 (.pointer (some ⟨b7,0,none⟩)) v11) (ntm P 97) (#[12]:Array Tmp).toList [.int .i64 p]=some ((T97 v0 v1 v2 (.pointer (some ⟨b5,0,none⟩)) v6 (.pointer (some ⟨b7,0,none⟩)) v11).set 12 (some (.int .i64 p))):=by
    rw[ntm97]; rfl
  generalize hT:T97 v0 v1 v2 (.pointer (some ⟨b5,0,none⟩)) v6 (.pointer (some ⟨b7,0,none⟩)) v11=T at hl hpar
  have hrdy:Bw H lb=true:=by unfold Bw; rw[hl]
  have hpen:qy H lb=none:=by unfold qy; rw[hl]
  have hbusy:oX H lb .busy none=some (H.set lb (some (.loop .busy none 97 T (ntm P 97) #[12] rk rJ d))):=by unfold oX; rw[hl]
  have g5:(H.set lb (some (.loop .busy none 97 T (ntm P 97) #[12] rk rJ d))).get b5=some (.cells [.int .i64 y,.int .i64 a1,.int .i64 a2,.int .i64 a3,.int .i64 a4] 86 false none):=by rw[Tr.get_set,if_neg n5]; exact h5
  have g7:(H.set lb (some (.loop .busy none 97 T (ntm P 97) #[12] rk rJ d))).get b7=some (.cells (ints X) 111 false none):=by rw[Tr.get_set,if_neg n7]; exact h7
  have gl:(H.set lb (some (.loop .busy none 97 T (ntm P 97) #[12] rk rJ d))).get lb=some (.loop .busy none 97 T (ntm P 97) #[12] rk rJ d):=by rw[Tr.get_set,if_pos rfl]
  have ho:∀ b,b≠lb→(H.set lb (some (.loop .busy none 97 T (ntm P 97) #[12] rk rJ d))).get b=H.get b:=fun b hb=>by rw[Tr.get_set,if_neg hb]
  generalize H.set lb (some (.loop .busy none 97 T (ntm P 97) #[12] rk rJ d))=H1 at hbusy g5 g7 gl ho
  have hst:=SZ (a:=a3) (b:=a4) (o:=p * 2) g7 (by omega)
  have q7:(H1.set b7 (some (.cells (ints ((X.set (p * 2) a3).set (p * 2+1) a4)) 111 false none))).get b7=some (.cells (ints ((X.set (p * 2) a3).set (p * 2+1) a4)) 111 false none):=by rw[Tr.get_set,if_pos rfl]
  have ql:(H1.set b7 (some (.cells (ints ((X.set (p * 2) a3).set (p * 2+1) a4)) 111 false none))).get lb=some (.loop .busy none 97 T (ntm P 97) #[12] rk rJ d):=by rw[Tr.get_set,if_neg (Ne.symm n7)]; exact gl
  have qo:∀ b,b≠lb→b≠b7→(H1.set b7 (some (.cells (ints ((X.set (p * 2) a3).set (p * 2+1) a4)) 111 false none))).get b=H.get b:=fun b hb hb7=>by rw[Tr.get_set,if_neg hb7]; exact ho b hb
  have hbody:∃ T',(cal (L+1)).body lb 97 rJ { T:=(T.set 12 (some (.int .i64 p))).set 8 (some (.int .i64 p)),H:=H1,n,D:=[] }=some (.norm,{ T:=T',H:=H1.set b7 (some (.cells (ints ((X.set (p * 2) a3).set (p * 2+1) a4)) 111 false none)),n,D:=[] }):=by
    rw[← hT,bod97_eq,fa86_2,aj,aJ,aj,(loadK53 g5).2.1,aj,QW b7 0 hp,aj,Wk,Nat.zero_add,hst,aj]
    exact⟨_,rfl⟩
  generalize H1.set b7 (some (.cells (ints ((X.set (p * 2) a3).set (p * 2+1) a4)) 111 false none))=H2 at q7 ql qo hbody
  obtain⟨T',hbody⟩:=hbody
  have hasg:(cal (L+1)).body lb 97 rk { T:=T.set 12 (some (.int .i64 p)),H,n,D:=[] }=some (.norm,{ T:=(T.set 12 (some (.int .i64 p))).set 8 (some (.int .i64 p)),H,n,D:=[] }):=by
    rw[← hT]; exact asg97_eq ..
  have hend:oX H2 lb .ready none=some (H2.set lb (some (.loop .ready none 97 T (ntm P 97) #[12] rk rJ d))):=by unfold oX; rw[ql]
  refine⟨H2.set lb (some (.loop .ready none 97 T (ntm P 97) #[12] rk rJ d)),fun k=>?_,by rw[Tr.get_set,if_pos rfl,hl],by rw[Tr.get_set,if_neg n7]; exact q7,fun b hb hb7=>by rw[Tr.get_set,if_neg hb]; exact qo b hb hb7⟩
  show stK (tK (fun | some l=>(cal (L+1)).body l | none=>fun _ _ _=>none) P lb [.int .i64 p] (bare H n)) k=_
  have hy:tK (fun | some l=>(cal (L+1)).body l | none=>fun _ _ _=>none) P lb [.int .i64 p] (bare H n)=some (.bool true,{ bare H n with H:=H2.set lb (some (.loop .ready none 97 T (ntm P 97) #[12] rk rJ d)) }):=by
    unfold tK
    have hb:Nat.beq (ntm P 97) (ntm P 97)=true:=Nat.beq_refl _
    have hx:Oy .norm=some none:=rfl
    simp only[bare,hl,hb,hpar,hasg,hrdy,hpen,hbusy,hbody,hx,Option.isNone_none,if_true,hend]
  rw[hy]
  rfl
end Go.Proofs.Ytekajfobmnedjaa.spec
end
section
namespace Go.Proofs.Ytekajfobmnedjaa.spec
open Go Go.Ev Go.Proofs.Ytekajfobmnedjaa.nestFits Go.Proofs.Ytekajfobmnedjaa.G
set_option maxRecDepth 100000
variable {ρ:Type}
theorem WX:jX P 111=some (.agg ⟨ints (List.replicate 16 0)⟩):=by kernel_rfl
theorem flat113:fX P 113=false:=by kernel_rfl
theorem call113 (l:Nat) (a b:Value) (H:Hp) (n:Nat):(cal (l+1)).call 113 [a,b] H n=C113_0 (cal l) KK a b H n:=by kernel_rfl
theorem call119 (l:Nat) (a b c:Value) (H:Hp) (n:Nat):(cal (l+1)).call 119 [a,b,c] H n=PQ (cal l) KK a b c H n:=by kernel_rfl
theorem reached_call (l:Nat) (g pad:Nat) (H:Hp) (n:Nat) (k:Value→Hp→Nat→Option ρ):aY P (cal (l+1)) 113 [.pointer (some ⟨g,0,none⟩),.int .i64 pad] H n k =
    k (.func (.func 119) ⟨[]⟩ ⟨[.pointer (some ⟨n+1,0,none⟩),.pointer (some ⟨n,0,none⟩)]⟩) ((H.set n (some (.cells [.pointer (some ⟨g,0,none⟩)] 105 false none))).set (n+1) (some (.cells [.int .i64 pad] 3 false none))) (n+2):=by
  unfold aY
  rw[flat113,call113]
  rfl
theorem range97 (c:Cal) (a b:Value) (K:KC (Value × Hp × Nat)) (X:XC (Value × Hp × Nat)) (Kr:KC (Value × Hp × Nat)) (T:Tm) (H:Hp) (n:Nat) :
    HJ P c none 97 (.func (.func 119) ⟨[]⟩ ⟨[a,b]⟩) #[12] rk rJ K X Kr T H n [] =
      aY P c 119 [.func (.yield (n+1)) #[] #[],a,b] ((H.set n (some .deferred)).set (n+1) (some (.loop .ready none 97 T (ntm P 97) #[12] rk rJ n))) (n+2) fun _ H n'=>fin K X Kr (qv (n+1) { T:=T,H,n:=n',D:=[n] }):=rfl
def kW (a1 a2 a3 a4:Int) (near:Nat→Bool) (np pad:Nat):List Int:=((NW a3 a4 (pad::(List.range np).filter near)).set (pad * 2) a1).set (pad * 2+1) a2
theorem wK (a1 a2 a3 a4:Int) (near:Nat→Bool) (np pad:Nat):(kW a1 a2 a3 a4 near np pad).length=16:=by
  unfold kW; rw[Dz,Mz]
theorem sharesL_get {a1 a2 a3 a4:Int} {near:Nat→Bool} {np pad:Nat} (hnp:np≤8) (hpad:pad<8) (q:Nat) :
    (kW a1 a2 a3 a4 near np pad).getD (q * 2) 0=(if q=pad then a1 else if q<np∧near q=true then a3 else 0)∧(kW a1 a2 a3 a4 near np pad).getD (q * 2+1) 0=(if q=pad then a2 else if q<np∧near q=true then a4 else 0):=by
  unfold kW
  obtain⟨h1,h2⟩:=Dk (q:=q) (Mz a3 a4 (pad::(List.range np).filter near)) hpad a1 a2
  obtain⟨g1,g2⟩:=fillS_get a3 a4 q (pad::(List.range np).filter near) (by
    intro p hp
    rcases List.mem_cons.1 hp with z | z
    · omega
    · have:=List.mem_range.1 (List.mem_filter.1 z).1; omega)
  rw[h1,h2,g1,g2]
  have hm:q≠pad→(q ∈ pad::(List.range np).filter near↔q<np∧near q=true):=fun e=>by simp [e]
  by_cases e:q=pad
  · simp [e]
  · rw[if_neg e,if_neg e,if_neg e,if_neg e]
    by_cases e2:q<np∧near q=true
    · rw[if_pos ((hm e).2 e2),if_pos ((hm e).2 e2),if_pos e2,if_pos e2]; exact⟨rfl,rfl⟩
    · rw[if_neg (fun h=>e2 ((hm e).1 h)),if_neg (fun h=>e2 ((hm e).1 h)),if_neg e2,if_neg e2]; exact⟨rfl,rfl⟩
theorem sharesL_bounded {a1 a2 a3 a4:Int} {near:Nat→Bool} {np pad:Nat} (hnp:np≤8) (hpad:pad<8) (h1:okR a1 a2) (h2:okR a3 a4):nX (kW a1 a2 a3 a4 near np pad):=by
  intro k
  unfold okR at h1 h2
  by_cases hk:k<16
  · obtain⟨g1,g2⟩:=sharesL_get (a1:=a1) (a2:=a2) (a3:=a3) (a4:=a4) (near:=near) hnp hpad (k / 2)
    rcases Nat.mod_two_eq_zero_or_one k with z | z
    · rw[show k / 2 * 2=k by omega] at g1
      rw[g1]
      split
      · omega
      · split <;> omega
    · rw[show k / 2 * 2+1=k by omega] at g2
      rw[g2]
      split
      · omega
      · split <;> omega
  · rw[List.getD_eq_getElem?_getD,List.getElem?_eq_none (by rw[wK]; omega)]
    simp
theorem nestOn_spec (l:Nat) {H:Hp} {n g np pad:Nat} {f:Nat→Value} {x:Value} {near:Nat→Bool} {y a1 a2 a3 a4:Int} (hg:g<n) (hs:bQ H g 859 117 f) (hx:f 0=x) (hlen:lenV P 31 x=some (.int .i64 np)) (hnp:np≤8) (hpad:pad<8)
    (hnear:∀ b,b<8→f (3+pad * 8+b)=.bool (near b)) (hy:0≤y∧y≤1000) (h1:okR a1 a2) (h2:okR a3 a4) :
    ∃ B,kZ y (kW a1 a2 a3 a4 near np pad) B 8∧Ret ((cal (l+5)).call 97 [.pointer (some ⟨g,0,none⟩),.int .i64 pad,.agg ⟨[.int .i64 y,.int .i64 a1,.int .i64 a2,.int .i64 a3,.int .i64 a4]⟩] H n) n H
      (.agg ⟨ints (bK y (kW a1 a2 a3 a4 near np pad) B)⟩):=by
  obtain⟨B,hB,hnest⟩:=newNest_call (ρ:=Value × Hp × Nat) l (wK a1 a2 a3 a4 near np pad) (sharesL_bounded hnp hpad h1 h2) hy
  refine⟨B,hB,?_⟩
  rw[call97,pre97]
  simp only[dq,iV WV,iV WX,bj,ptr,reached_call (l+3)]
  rw[range97]
  generalize hH1:((((H.set n (some (.cells [.int .i64 y,.int .i64 a1,.int .i64 a2,.int .i64 a3,.int .i64 a4] 86 false none))).set (n+1) (some (.cells (ints (bK 0 oV oV)) 113 false none))).set (n+1+1) (some (.cells (ints (List.replicate 16 0)) 111 false none))).set (n+1+1+1) (some (.cells [.pointer (some ⟨g,0,none⟩)] 105 false none))).set (n+1+1+1+1) (some (.cells [.int .i64 pad] 3 false none))=H1
  have k1:Keep n H H1:=fun b hb=>by rw[← hH1,Tr.get_set,if_neg (by omega),Tr.get_set,if_neg (by omega),Tr.get_set,if_neg (by omega),Tr.get_set,if_neg (by omega),Tr.get_set,if_neg (by omega)]
  have q0:H1.get n=some (.cells [.int .i64 y,.int .i64 a1,.int .i64 a2,.int .i64 a3,.int .i64 a4] 86 false none):=by rw[← hH1,Tr.get_set,if_neg (by omega),Tr.get_set,if_neg (by omega),Tr.get_set,if_neg (by omega),Tr.get_set,if_neg (by omega),Tr.get_set,if_pos rfl]
  have q1:H1.get (n+1)=some (.cells (ints (bK 0 oV oV)) 113 false none):=by rw[← hH1,Tr.get_set,if_neg (by omega),Tr.get_set,if_neg (by omega),Tr.get_set,if_neg (by omega),Tr.get_set,if_pos rfl]
  have q2:H1.get (n+1+1)=some (.cells (ints (List.replicate 16 0)) 111 false none):=by rw[← hH1,Tr.get_set,if_neg (by omega),Tr.get_set,if_neg (by omega),Tr.get_set,if_pos rfl]
  have q3:H1.get (n+1+1+1)=some (.cells [.pointer (some ⟨g,0,none⟩)] 105 false none):=by rw[← hH1,Tr.get_set,if_neg (by omega),Tr.get_set,if_pos rfl]
  have q4:H1.get (n+1+1+1+1)=some (.cells [.int .i64 pad] 3 false none):=by rw[← hH1,Tr.get_set,if_pos rfl]
  clear hH1
  generalize hT:T97 (.pointer (some ⟨g,0,none⟩)) (.int .i64 pad) (.agg ⟨[.int .i64 y,.int .i64 a1,.int .i64 a2,.int .i64 a3,.int .i64 a4]⟩) (.pointer (some ⟨n,0,none⟩)) (.pointer (some ⟨n+1,0,none⟩)) (.pointer (some ⟨n+1+1,0,none⟩))
    (.func (.func 119) ⟨[]⟩ ⟨[.pointer (some ⟨n+1+1+1+1,0,none⟩),.pointer (some ⟨n+1+1+1,0,none⟩)]⟩)=T
  have hc119:∀(a b c:Value) (H:Hp) (n:Nat) (k:Value→Hp→Nat→Res),bz b=false→aY P (cal (l+4)) 119 [a,b,c] H n k=aq (PQ (cal (l+3)) KK a b c H n) fun r=>k r.1 r.2.1 r.2.2:=by
    intro a b c H n k hb
    unfold aY
    have:(fX P 119 && cx [a,b,c])=false:=by simp [cx,hb]
    rw[this,call119]
  rw[hc119 _ _ _ _ _ _ rfl]
  generalize hH2:(H1.set (n+1+1+1+2) (some .deferred)).set (n+1+1+1+2+1) (some (.loop .ready none 97 T (ntm P 97) #[12] rk rJ (n+1+1+1+2)))=H2
  have r1:∀ b,b<n+1+1+1+2→H2.get b=H1.get b:=fun b hb=>by rw[← hH2,Tr.get_set,if_neg (by omega),Tr.get_set,if_neg (by omega)]
  have r2:H2.get (n+1+1+1+2)=some .deferred:=by rw[← hH2,Tr.get_set,if_neg (by omega),Tr.get_set,if_pos rfl]
  have r3:H2.get (n+1+1+1+2+1)=some (.loop .ready none 97 T (ntm P 97) #[12] rk rJ (n+1+1+1+2)):=by rw[← hH2,Tr.get_set,if_pos rfl]
  clear hH2
  have hs2:∀ H3:Hp,(∀ b,b≠n+1+1+1+2+1→b≠n+1+1→H3.get b=H2.get b)→Reads H3 (n+1+1+1+1) (n+1+1+1) g x pad near:=by
    intro H3 h3
    have c3:H3.get (n+1+1+1)=some (.cells [.pointer (some ⟨g,0,none⟩)] 105 false none):=by rw[h3 _ (by omega) (by omega),r1 _ (by omega)]; exact q3
    have c4:H3.get (n+1+1+1+1)=some (.cells [.int .i64 pad] 3 false none):=by rw[h3 _ (by omega) (by omega),r1 _ (by omega)]; exact q4
    have cg:bQ H3 g 859 117 f:=by
      obtain⟨c,e1,e2,e3⟩:=hs
      exact⟨c,by rw[h3 _ (by omega) (by omega),r1 _ (by omega),k1 _ hg]; exact e1,e2,e3⟩
    refine⟨bv (o:=0) (k:=0) (dj c4) agg3 rfl,bw (o:=0) (k:=0) (dj c3) agg105 rfl rfl rfl,?_,fun b hb=>?_⟩
    · have:=cg.load (P:=P) (k:=0) Cz (by omega)
      rw[hx] at this; exact this
    · have:=cg.load (P:=P) (k:=3+pad * 8+b) agg4 (by omega)
      rw[hnear b hb] at this
      rw[show 0+3+pad * 8+b * 1=3+pad * 8+b by omega]
      exact this
  obtain⟨H3,n3,e3,i1,i2,i3,i4⟩:=iter_spec (cal (l+3)) (.func (.yield (n+1+1+1+2+1)) #[] #[]) (n+1+1+1+1) (n+1+1+1) g pad np x near hpad hnp hlen
    (fun ps Hc nc=>nc=n+1+1+1+2+2∧Hc.get (n+1+1+1+2+1)=some (.loop .ready none 97 T (ntm P 97) #[12] rk rJ (n+1+1+1+2))∧Hc.get (n+1+1)=some (.cells (ints (NW a3 a4 ps)) 111 false none)∧∀ b,b≠n+1+1+1+2+1→b≠n+1+1→Hc.get b=H2.get b)
    (fun ps Hc nc ⟨_,_,_,h⟩=>hs2 Hc h)
    (fun ps p Hc nc ⟨h1,h2,h3,h4⟩ hp=>by
      have h5:Hc.get n=some (.cells [.int .i64 y,.int .i64 a1,.int .i64 a2,.int .i64 a3,.int .i64 a4] 86 false none):=by rw[h4 _ (by omega) (by omega),r1 _ (by omega)]; exact q0
      rw[← hT] at h2
      obtain⟨H',y1,y2,y3,y4⟩:=yield97 (ρ:=Value × Hp × Nat) (l+2) (n:=nc) h2 h5 h3 (Mz _ _ _) (by omega) (by omega) hp
      refine⟨H',nc,y1,h1,?_,?_,fun b hb hb'=>(y4 b hb hb').trans (h4 b hb hb')⟩
      · rw[y2,h2,hT]
      · rw[y3,fillS_snoc])
    (H:=H2) (n:=n+1+1+1+2+2) ⟨rfl,r3,by rw[r1 _ (by omega)]; exact q2,fun _ _ _=>rfl⟩
  rw[show n+1+1+1+2=n+1+1+1+2 from rfl,e3,aj]
  have hout:qv (n+1+1+1+2+1) { T:=T,H:=H3,n:=n3,D:=[n+1+1+1+2] }=some (.norm,{ T:=T,H:=H3.set (n+1+1+1+2+1) (some (.loop .exhausted none 97 T (ntm P 97) #[12] rk rJ (n+1+1+1+2))),n:=n3,D:=[n+1+1+1+2] }):=by
    unfold qv
    simp only[i2]
  rw[hout]
  show Ret (K97 (cal (l+4)) KK T (H3.set (n+1+1+1+2+1) (some (.loop .exhausted none 97 T (ntm P 97) #[12] rk rJ (n+1+1+1+2)))) n3 [n+1+1+1+2]) n H _
  generalize hH4:H3.set (n+1+1+1+2+1) (some (.loop .exhausted none 97 T (ntm P 97) #[12] rk rJ (n+1+1+1+2)))=H4
  have o1:∀ b,b≠n+1+1+1+2+1→b≠n+1+1→H4.get b=H2.get b:=fun b hb hb'=>by rw[← hH4,Tr.get_set,if_neg hb]; exact i4 b hb hb'
  have o2:H4.get (n+1+1)=some (.cells (ints (NW a3 a4 (pad::(List.range np).filter near))) 111 false none):=by rw[← hH4,Tr.get_set,if_neg (by omega)]; exact i3
  clear hH4 hout
  have o0:H4.get n=some (.cells [.int .i64 y,.int .i64 a1,.int .i64 a2,.int .i64 a3,.int .i64 a4] 86 false none):=by rw[o1 _ (by omega) (by omega),r1 _ (by omega)]; exact q0
  have o3:H4.get (n+1)=some (.cells (ints (bK 0 oV oV)) 113 false none):=by rw[o1 _ (by omega) (by omega),r1 _ (by omega)]; exact q1
  have o4:H4.get (n+1+1+1+2)=some .deferred:=by rw[o1 _ (by omega) (by omega)]; exact r2
  rw[← hT,post97,fa86_1,aj,aJ,aj,(loadK53 o0).1,aj,QW _ 0 hpad,aj,Wk,Nat.zero_add,SZ o2 (by rw[Mz]; omega),aj]
  have hsh:((NW a3 a4 (pad::(List.range np).filter near)).set (pad * 2) a1).set (pad * 2+1) a2=kW a1 a2 a3 a4 near np pad:=rfl
  rw[hsh]
  generalize hH5:H4.set (n+1+1) (some (.cells (ints (kW a1 a2 a3 a4 near np pad)) 111 false none))=H5
  have p1:∀ b,b≠n+1+1→H5.get b=H4.get b:=fun b hb=>by rw[← hH5,Tr.get_set,if_neg hb]
  have p2:H5.get (n+1+1)=some (.cells (ints (kW a1 a2 a3 a4 near np pad)) 111 false none):=by rw[← hH5,Tr.get_set,if_pos rfl]
  clear hH5
  have hl6:=dw p2 yV AQ (by rw[bq,wK])
  rw[fa86_0,aj,aJ,aj,(loadK53 ((p1 n (by omega)).trans o0)).2.2,aj,aJ,aj,hl6,aj,hnest]
  have lens:(ints (bK y (kW a1 a2 a3 a4 near np pad) B)).length=33:=by rw[bq,gZ (wK ..) hB.1]
  rw[ox JQ lens,mV ((p1 (n+1) (by omega)).trans o3) (by rw[lens,bq,gZ tq tq]) (fx _),aj]
  generalize hH6:H5.set (n+1) (some (.cells (ints (bK y (kW a1 a2 a3 a4 near np pad) B)) 113 false none))=H6
  have u1:H6.get (n+1)=some (.cells (ints (bK y (kW a1 a2 a3 a4 near np pad) B)) 113 false none):=by rw[← hH6,Tr.get_set,if_pos rfl]
  have u2:∀ b,b≠n+1→H6.get b=H5.get b:=fun b hb=>by rw[← hH6,Tr.get_set,if_neg hb]
  clear hH6
  have ht:Bq H6 [n+1+1+1+2]=some (H6.set (n+1+1+1+2) none):=by
    have:H6.get (n+1+1+1+2)=some .deferred:=by rw[u2 _ (by omega),p1 _ (by omega)]; exact o4
    unfold Bq
    simp only[this]
    rfl
  rw[ht]
  show Ret (aq (resV P ((Tr.nil:Tm).set 6 (some (.pointer (some ⟨n+1,0,none⟩)))) (H6.set (n+1+1+1+2) none) yW) fun vs=>some (oneV vs,H6.set (n+1+1+1+2) none,n3)) n H _
  rw[res97,dw (t:=113) (s:=33) (L:=ints (bK y (kW a1 a2 a3 a4 near np pad) B)) (e:=113) (vec:=none) (by rw[Tr.get_set,if_neg (by omega)]; exact u1) SY JQ lens]
  refine⟨_,_,rfl,by omega,fun b hb=>?_⟩
  rw[Tr.get_set,if_neg (by omega),u2 _ (by omega),p1 _ (by omega),o1 _ (by omega) (by omega),r1 _ (by omega),k1 _ hb]
end Go.Proofs.Ytekajfobmnedjaa.spec
end
section
namespace Go.Ev
open Go
variable {P:Program} {ρ:Type}
theorem effK_gen {ex:List Extra} {H:Hp} {n:Nat} {v:Value} {op:Hp→Nat→(Value→Hp→Nat→Option ρ)→Option ρ} {R:Hp→Nat→Prop}
    (hex:∀ y ∈ ex,∃ t a,y=.l t a∧((∃ c e ro vec,H.get a.block=some (.cells c e ro vec))∨∃ c,H.get a.block=some (.rows c)))
    (hop:∀ Hm,(∀ b,¬ ldOf ex b→Hm.get b=H.get b)→∃ H2 n2,(∀ k,op Hm n k=k v H2 n2)∧(∀ b,ldOf ex b→H2.get b=Hm.get b)∧R H2 n2) :
    ∃ H' H2 n2,(∀ k,effK P ex H n op k=k v H' n2)∧R H2 n2∧(∀ b,ldOf ex b→H'.get b=H.get b)∧∀ b,¬ ldOf ex b→H'.get b=H2.get b:=by
  cases ex with
  | nil=>
    obtain⟨H2,n2,h1,_,h3⟩:=hop H (fun _ _=>rfl)
    exact⟨H2,H2,n2,fun k=>by unfold effK; exact h1 k,h3,fun b ⟨_,_,h,_⟩=>(by cases h),fun _ _=>rfl⟩
  | cons y l=>
    have hl:∀ z ∈ y::l,∃ t a,z=.l t a:=fun z hz=>by obtain⟨t,a,e,_⟩:=hex z hz; exact⟨t,a,e⟩
    obtain⟨H1,e1,e2⟩:=Ij (ex:=y::l) (H:=H) fun z hz=>by obtain⟨t,a,e,h⟩:=hex z hz; exact .inl ⟨t,a,e,h⟩
    have hnw:∀ b,¬ nwOf (y::l) b:=fun b ⟨id,c,e,h1,_⟩=>by obtain⟨t,a,q⟩:=hl _ h1; cases q
    obtain⟨H2,n2,h1,h2,h3⟩:=hop (uq (y::l) H1) fun b hb=>by
      rw[(vJ (H:=H1) b).2 (hnw _)]
      rcases e2 b with q | ⟨_,q⟩
      · exact q
      · exact absurd q hb
    have hsome:∀ z ∈ y::l,(∃ t a,z=.l t a∧(H2.get a.block).isSome)∨∃ id c e,z=.a id c e:=by
      intro z hz
      obtain⟨t,a,rfl,hc⟩:=hex z hz
      refine .inl ⟨t,a,rfl,?_⟩
      rw[h2 _ ⟨t,a,hz,rfl⟩,(vJ (H:=H1) a.block).2 (hnw _)]
      have hs:(H.get a.block).isSome:=by rcases hc with⟨c,e,ro,vec,hc⟩ | ⟨c,hc⟩ <;> rw[hc] <;> rfl
      rcases e2 a.block with q | ⟨⟨c,e,ro,vec,_,q⟩,_⟩
      · rw[q]; exact hs
      · rw[q]; rfl
    obtain⟨H3,f1,f2,f3⟩:=Iq (H0:=H) hsome
    have hck:chkX P (pz (y::l) H H3) (y::l)=true:=QV fun z hz=>.inl (hl z hz)
    refine⟨pz (y::l) H H3,H2,n2,fun k=>?_,h3,fun b hb=>?_,fun b hb=>?_⟩
    · unfold effK
      simp only[e1,aj,h1,f1,hck]
      rfl
    · rw[(yQ b).2 (hnw b)]; exact f2 b hb
    · rw[(yQ b).2 (hnw b)]; exact f3 b hb
theorem nY (f:Nat→Value) (o:Nat) (v:Value) (k:Nat):putF f o [v] k=if k=o then v else f k:=by
  unfold putF
  by_cases h:k=o
  · subst h; simp
  · rw[if_neg h]
    by_cases h2:o≤k
    · rw[if_pos h2]
      have:k-o≠0:=by omega
      cases hk:k-o with
      | zero=>exact absurd hk this
      | succ m=>simp
    · rw[if_neg h2]
theorem putF_in (f:Nat→Value) (o:Nat) (vs:List Value) {j:Nat} {v:Value} (h:vs[j]?=some v):putF f o vs (o+j)=v:=by
  unfold putF
  rw[if_pos (by omega),show o+j-o=j by omega,h]
theorem KY (f:Nat→Value) (o:Nat) (vs:List Value) {k:Nat} (h:k<o∨o+vs.length≤k):putF f o vs k=f k:=by
  unfold putF
  by_cases h2:o≤k
  · rw[if_pos h2,List.getElem?_eq_none (by omega)]
  · rw[if_neg h2]
end Go.Ev
end
section
namespace Go.Proofs.Ytekajfobmnedjaa.spec
open Go Go.Ev Go.Proofs.Ytekajfobmnedjaa.nestFits Go.Proofs.Ytekajfobmnedjaa.G
set_option maxRecDepth 100000
variable {ρ:Type}
theorem und115:P.underlying 115=some (.array 8 114):=by kernel_rfl
theorem und114:P.underlying 114=some (.array 3 113):=by kernel_rfl
theorem sz114:szT P 114=some 99:=by kernel_rfl
theorem at115 (b o:Nat) {i:Nat} (hi:i<8):aQ P 115 (.pointer (some ⟨b,o,none⟩)) (.int .i64 i)=some (.pointer (some ⟨b,o+i * 99,none⟩)):=by
  unfold aQ
  simp only[und115,CQ hi,sz114]
  rfl
theorem at114 (b o:Nat) {i:Nat} (hi:i<3):aQ P 114 (.pointer (some ⟨b,o,none⟩)) (.int .i64 i)=some (.pointer (some ⟨b,o+i * 33,none⟩)):=by
  unfold aQ
  simp only[und114,CQ hi,JQ]
  rfl
open Classical in
noncomputable def AV (js:List Int) (i:Nat) (a b:Nat):Bool:=decide (∃ q,q<i∧J js a b q)
noncomputable def shP (js ks:List Int) (nj np p kd:Nat):List Int:=kW (ks.getD (kd * 5+1) 0) (ks.getD (kd * 5+2) 0) (ks.getD (kd * 5+3) 0) (ks.getD (kd * 5+4) 0) (AV js nj p) np p
def vQ (f:Nat→Value) (js ks:List Int) (nj np p kd:Nat):Prop:=∃ B,kZ (ks.getD (kd * 5) 0) (shP js ks nj np p kd) B 8∧∀ j,j<33→f (67+p * 99+kd * 33+j)=.int .i64 ((bK (ks.getD (kd * 5) 0) (shP js ks nj np p kd) B).getD j 0)
structure SiteF (f:Nat→Value) (x y z:Value) (js:List Int) (i:Nat):Prop where
  x:f 0=x
  y:f 1=y
  z:f 2=z
  near:∀ a b,a<8→b<8→f (3+a * 8+b)=.bool (AV js i a b)
open Classical in
theorem nearB_next {js:List Int} {i A B:Nat} (hA:js[i * 2]?=some (A:Int)) (hB:js[i * 2+1]?=some (B:Int)) (a b:Nat) :
    AV js (i+1) a b=if(a=A∧b=B)∨(a=B∧b=A) then true else AV js i a b:=by
  have hJ:J js a b i↔(a=A∧b=B)∨(a=B∧b=A):=by
    unfold J; rw[hA,hB]; simp only[Option.some.injEq]; omega
  unfold AV
  by_cases h:(a=A∧b=B)∨(a=B∧b=A)
  · rw[if_pos h]
    exact decide_eq_true ⟨i,by omega,hJ.2 h⟩
  · rw[if_neg h]
    congr 1
    exact propext ⟨fun⟨q,h1,h2⟩=>by
      rcases Nat.lt_or_ge q i with z | z
      · exact⟨q,z,h2⟩
      · rw[show q=i by omega] at h2
        exact absurd (hJ.1 h2) h,fun⟨q,h1,h2⟩=>⟨q,by omega,h2⟩⟩
theorem near_loop61 (c:Cal) (k:Nat) (g np nj:Nat) (js:List Int) (x y z:Value) (hnp:np≤8) (hnj:nj≤1000) (hjs:∀ i,i<nj→∃ A B:Nat,js[i * 2]?=some (A:Int)∧js[i * 2+1]?=some (B:Int)∧A<np∧B<np)
    (Q:Res→Prop) (H0:Hp) (n0:Nat) (hg:n0≤g) (hy0:dv H0 n0 2 y nj js) (hx:∀(H:Hp) (n:Nat) (f:Nat→Value),n0≤n→g<n→Keep n0 H0 H→bQ H g 859 117 f→SiteF f x y z js nj →
      (∀ p kd j,p<8→kd<3→j<33→f (67+p * 99+kd * 33+j)=.int .i64 0→True)→Q (S61_2 c k k (.pointer (some ⟨g,0,none⟩)) (.int .i64 np) (.int .i64 0) H n)) (hlx:lenV P 31 x=some (.int .i64 np)) :
    ∀(m i:Nat) (H:Hp) (n:Nat) (f:Nat→Value),n0≤n→g<n→Keep n0 H0 H→bQ H g 859 117 f→SiteF f x y z js i→i≤nj→nj-i≤m →
    Q (S61_1 c k m (.pointer (some ⟨g,0,none⟩)) y (.int .i64 nj) (.int .i64 i) H n):=by
  have body:∀(b1:Value→Value→Value→Value→Hp→Nat→Res) (m i:Nat) (H:Hp) (n:Nat) (f:Nat→Value),n0≤n→g<n→Keep n0 H0 H→bQ H g 859 117 f→SiteF f x y z js i→i≤nj →
      (∀(H:Hp) (n:Nat) (f:Nat→Value),n0≤n→g<n→Keep n0 H0 H→bQ H g 859 117 f→SiteF f x y z js (i+1)→i<nj→Q (b1 (.pointer (some ⟨g,0,none⟩)) y (.int .i64 nj) (.int .i64 ((i+1:Nat):Int)) H n)) →
      Q (C61_1 c k m b1 (.pointer (some ⟨g,0,none⟩)) y (.int .i64 nj) (.int .i64 i) H n):=by
    intro b1 m i H n f hn hgn hk hf hs hi ih
    unfold C61_1 B61_1
    generalize hS:S61_2 c k k=S
    rw[ak cY,jw]
    by_cases hlt:i<nj
    · rw[if_pos (by omega)]
      obtain⟨A,B,hA,hB,hA8,hB8⟩:=hjs i hlt
      have hy:=(hy0.keep hk (Nat.le_refl _)).up hn
      obtain⟨bb,o,hix,hbn,hc⟩:=hy.at_ ZK sz88 hlt
      have hl2:i * 2+2≤js.length:=by rw[hy.1]; omega
      obtain⟨u,w,hu,hw,huw⟩:=Qk hl2
      rw[hA] at hu; rw[hB] at hw
      cases hu; cases hw
      have hld:az P H 88 ⟨bb,o+i * 2,none⟩=some (.agg ⟨[.int .i64 A,.int .i64 B]⟩):=by
        rw[cw hc agg88 sz88 (by rw[bq]; exact hl2) (dJ _),huw]
      obtain⟨H1,k1,k2,k3⟩:=uX (P:=P) (ρ:=Value × Hp × Nat) (H:=H) (n:=n) (L:=[.int .i64 A,.int .i64 B]) zero88 rfl sz88 rfl rfl
      rw[hix,aj,aJ,aj,hld,aj,k3]
      have la:az P H1 3 ⟨n,0+0,none⟩=some (.int .i64 A):=bv (dj k2) agg3 rfl
      have lb:az P H1 3 ⟨n,0+1,none⟩=some (.int .i64 B):=bv (dj k2) agg3 rfl
      rw[fa88_0,aj,aJ,aj,la,aj,fa88_1,aj,aJ,aj,lb,aj,aj,aJ,aj,lb,aj,aj,aJ,aj,la,aj,mj,aj,fa117_1,aj,
        at109 _ _ (by omega),aj,at108 _ _ (by omega),aj,aj,fa117_1,aj,at109 _ _ (by omega),aj]
      have hf1:=hf.keep k1 hgn
      obtain⟨H2,H2',n2,e2,⟨r1,r2,r3⟩,r4,r5⟩:=effK_gen (P:=P) (ρ:=Value × Hp × Nat) (ex:=[.l 3 ⟨n,0+0,none⟩,.l 3 ⟨n,0+1,none⟩]) (H:=H1) (n:=n+1) (v:=undef)
        (op:=fun H n k=>aq (bJ P 4 (.pointer (some ⟨g,0+3+A * 8+B * 1,none⟩)) (.bool true) H) fun H=>k undef H n)
        (R:=fun H' n'=>n'=n+1∧bQ H' g 859 117 (putF f (0+3+A * 8+B * 1) [.bool true])∧∀ b,b≠n→b≠g→H'.get b=H1.get b)
        (fun q hq=>by
          simp only[List.mem_cons,List.not_mem_nil,or_false] at hq
          rcases hq with rfl | rfl <;> exact⟨_,_,rfl,.inl ⟨_,_,_,_,k2⟩⟩)
        (fun Hm hm=>by
          have hld:∀ b,ldOf [.l 3 ⟨n,0+0,none⟩,.l 3 ⟨n,0+1,none⟩] b↔b=n:=fun b=>by
            constructor
            · rintro⟨t,a,h1,h2⟩
              simp only[List.mem_cons,List.not_mem_nil,or_false,Extra.l.injEq] at h1
              rcases h1 with⟨_,rfl⟩ | ⟨_,rfl⟩ <;> exact h2.symm
            · rintro rfl
              exact⟨3,⟨_,0+0,none⟩,by simp,rfl⟩
          have hmg:bQ Hm g 859 117 f:=by
            obtain⟨c,e1,e2,e3⟩:=hf1
            exact⟨c,by rw[hm g (fun h=>by have:=(hld g).1 h; omega)]; exact e1,e2,e3⟩
          obtain⟨H',s1,s2,s3⟩:=hmg.storeN (o:=0+3+A * 8+B * 1) (vs:=[.bool true]) (by simp; omega) rfl
          refine⟨H',n+1,fun k=>by rw[wX sz4 rfl,s1,aj],fun b hb=>s3 b (by have:=(hld b).1 hb; omega),rfl,s2,fun b hb hb'=>?_⟩
          rw[s3 b hb',hm b (fun h=>hb ((hld b).1 h))])
      rw[e2,at108 _ _ (by omega),aj]
      subst r1
      have hld:∀ b,ldOf [.l 3 ⟨n,0+0,none⟩,.l 3 ⟨n,0+1,none⟩] b↔b=n:=fun b=>by
        constructor
        · rintro⟨t,a,h1,h2⟩
          simp only[List.mem_cons,List.not_mem_nil,or_false,Extra.l.injEq] at h1
          rcases h1 with⟨_,rfl⟩ | ⟨_,rfl⟩ <;> exact h2.symm
        · rintro rfl
          exact⟨3,⟨_,0+0,none⟩,by simp,rfl⟩
      have hf2:bQ H2 g 859 117 (putF f (0+3+A * 8+B * 1) [.bool true]):=by
        obtain⟨c,e1,e2,e3⟩:=r2
        exact⟨c,by rw[r5 g (fun h=>by have:=(hld g).1 h; omega)]; exact e1,e2,e3⟩
      obtain⟨H3,s1,s2,s3⟩:=hf2.storeN (o:=0+3+B * 8+A * 1) (vs:=[.bool true]) (by simp; omega) rfl
      have hI:I64 ((i:Int)+1):=by unfold I64; omega
      have hcast:((i:Int)+1)=((i+1:Nat):Int):=by omega
      rw[wX sz4 rfl,s1,aj,ak (bV hI),hcast]
      refine ih H3 (n+1) _ (by omega) (by omega) (fun b hb=>?_) s2 ⟨?_,?_,?_,fun a b ha hb=>?_⟩ hlt
      · rw[s3 b (by omega),r5 b (fun h=>by have:=(hld b).1 h; omega),r3 b (by omega) (by omega),k1 b (by omega),hk b hb]
      · rw[nY,if_neg (by omega),nY,if_neg (by omega)]; exact hs.x
      · rw[nY,if_neg (by omega),nY,if_neg (by omega)]; exact hs.y
      · rw[nY,if_neg (by omega),nY,if_neg (by omega)]; exact hs.z
      · rw[nY,nY,nearB_next hA hB,hs.near a b ha hb]
        by_cases c1:3+a * 8+b=0+3+B * 8+A * 1
        · rw[if_pos c1,if_pos (.inr ⟨by omega,by omega⟩)]
        · rw[if_neg c1]
          by_cases c2:3+a * 8+b=0+3+A * 8+B * 1
          · rw[if_pos c2,if_pos (.inl ⟨by omega,by omega⟩)]
          · rw[if_neg c2,if_neg]
            rintro(⟨h1,h2⟩ | ⟨h1,h2⟩)
            · exact c2 (by subst h1; subst h2; omega)
            · exact c1 (by subst h1; subst h2; omega)
    · rw[if_neg (by omega)]
      have hi':i=nj:=by omega
      subst hi'
      have lx:az P H 31 ⟨g,0+0+0,none⟩=some x:=by
        have:=hf.load (P:=P) (k:=0) Cz (by omega)
        rw[hs.x] at this; exact this
      rw[mj,aj,pk,aj,rz,aj,aJ,aj,lx,aj,hlx,aj,← hS]
      exact hx H n f hn hgn hk hf hs (fun _ _ _ _ _ _ _=>trivial)
  intro m
  induction m with
  | zero=>
    intro i H n f h1 h2 h3 h4 h5 h6 h7
    exact body _ 0 i H n f h1 h2 h3 h4 h5 h6 (fun _ _ _ _ _ _ _ _ h=>by omega)
  | succ m ih=>
    intro i H n f h1 h2 h3 h4 h5 h6 h7
    exact body _ (m+1) i H n f h1 h2 h3 h4 h5 h6 (fun H n f q1 q2 q3 q4 q5 q6=>ih (i+1) H n f q1 q2 q3 q4 q5 (by omega) (by omega))
end Go.Proofs.Ytekajfobmnedjaa.spec
end
section
namespace Go.Proofs.Ytekajfobmnedjaa.spec
open Go Go.Ev Go.Proofs.Ytekajfobmnedjaa.nestFits Go.Proofs.Ytekajfobmnedjaa.G
set_option maxRecDepth 100000
variable {ρ:Type}
theorem getD_some {X:List Int} {j:Nat} (h:j<X.length):X[j]?=some (X.getD j 0):=by
  rw[List.getD_eq_getElem?_getD,List.getElem?_eq_getElem h]; rfl
theorem nestOn_call (l:Nat) {H:Hp} {n g np pad:Nat} {f:Nat→Value} {x:Value} {near:Nat→Bool} {y a1 a2 a3 a4:Int} (hg:g<n) (hs:bQ H g 859 117 f) (hx:f 0=x) (hlen:lenV P 31 x=some (.int .i64 np)) (hnp:np≤8) (hpad:pad<8)
    (hnear:∀ b,b<8→f (3+pad * 8+b)=.bool (near b)) (hy:0≤y∧y≤1000) (h1:okR a1 a2) (h2:okR a3 a4) :
    ∃ B H' n',kZ y (kW a1 a2 a3 a4 near np pad) B 8∧(∀ k:Value→Hp→Nat→Option ρ,aY P (cal (l+5)) 97 [.pointer (some ⟨g,0,none⟩),.int .i64 pad,.agg ⟨[.int .i64 y,.int .i64 a1,.int .i64 a2,.int .i64 a3,.int .i64 a4]⟩] H n k =
      k (.agg ⟨ints (bK y (kW a1 a2 a3 a4 near np pad) B)⟩) H' n')∧n≤n'∧Keep n H H':=by
  obtain⟨B,hB,H',n',e,h3,h4⟩:=nestOn_spec l hg hs hx hlen hnp hpad hnear hy h1 h2
  refine⟨B,H',n',hB,fun k=>?_,h3,h4⟩
  unfold aY
  have:(fX P 97 && cx [.pointer (some ⟨g,0,none⟩),.int .i64 pad,.agg ⟨[.int .i64 y,.int .i64 a1,.int .i64 a2,.int .i64 a3,.int .i64 a4]⟩])=false:=by rw[Bool.and_eq_false_iff]; exact .inr rfl
  rw[this,e]
  rfl
def Iv (f:Nat→Value) (js ks:List Int) (nj np nk pd i:Nat):Prop:=∀ p kd,p<np→kd<nk→(p<pd∨(p=pd∧kd<i))→vQ f js ks nj np p kd
def pJ (ks:List Int) (nk:Nat):Prop:=∀ kd,kd<nk→(0≤ks.getD (kd * 5) 0∧ks.getD (kd * 5) 0≤1000)∧okR (ks.getD (kd * 5+1) 0) (ks.getD (kd * 5+2) 0)∧okR (ks.getD (kd * 5+3) 0) (ks.getD (kd * 5+4) 0)
theorem nests_loop3 (l k m1:Nat) (g np nj nk:Nat) (js ks:List Int) (x y z:Value) (hnp:np≤8) (hnk:nk≤3) (hks:pJ ks nk)
    (Q:Res→Prop) (H0:Hp) (n0:Nat) (hg:n0≤g) (hz0:dv H0 n0 5 z nk ks) (hlx:lenV P 31 x=some (.int .i64 np)) (pd:Nat) (hpd:pd<np) (b2:Value→Value→Value→Hp→Nat→Res)
    (hb2:∀(H:Hp) (n:Nat) (f:Nat→Value),n0≤n→g<n→Keep n0 H0 H→bQ H g 859 117 f→SiteF f x y z js nj→Iv f js ks nj np nk (pd+1) 0→Q (b2 (.pointer (some ⟨g,0,none⟩)) (.int .i64 np) (.int .i64 ((pd+1:Nat):Int)) H n)) :
    ∀(m i:Nat) (H:Hp) (n:Nat) (f:Nat→Value),n0≤n→g<n→Keep n0 H0 H→bQ H g 859 117 f→SiteF f x y z js nj→Iv f js ks nj np nk pd i→i≤nk→nk-i≤m →
    Q (S61_3 (cal (l+5)) k m1 b2 m (.pointer (some ⟨g,0,none⟩)) (.int .i64 pd) (.int .i64 np) (.int .i64 pd) z (.int .i64 nk) (.int .i64 i) H n):=by
  have body:∀(b3:Value→Value→Value→Value→Value→Value→Value→Hp→Nat→Res) (m i:Nat) (H:Hp) (n:Nat) (f:Nat→Value),n0≤n→g<n→Keep n0 H0 H→bQ H g 859 117 f→SiteF f x y z js nj→Iv f js ks nj np nk pd i→i≤nk →
      (∀(H:Hp) (n:Nat) (f:Nat→Value),n0≤n→g<n→Keep n0 H0 H→bQ H g 859 117 f→SiteF f x y z js nj→Iv f js ks nj np nk pd (i+1)→i<nk →
        Q (b3 (.pointer (some ⟨g,0,none⟩)) (.int .i64 pd) (.int .i64 np) (.int .i64 pd) z (.int .i64 nk) (.int .i64 ((i+1:Nat):Int)) H n)) →
      Q (C61_3 (cal (l+5)) k m1 m b2 b3 (.pointer (some ⟨g,0,none⟩)) (.int .i64 pd) (.int .i64 np) (.int .i64 pd) z (.int .i64 nk) (.int .i64 i) H n):=by
    intro b3 m i H n f hn hgn hk hf hs hnt hi ih
    unfold C61_3 B61_3
    rw[ak cY,jw]
    by_cases hlt:i<nk
    · rw[if_pos (by omega)]
      have hz:=(hz0.keep hk (Nat.le_refl _)).up hn
      obtain⟨bb,o,hix,hbn,hc⟩:=hz.at_ und33 sz86 hlt
      have hl2:i * 5+5≤ks.length:=by rw[hz.1]; omega
      have hld:az P H 86 ⟨bb,o+i * 5,none⟩=some (.agg ⟨[.int .i64 (ks.getD (i * 5) 0),.int .i64 (ks.getD (i * 5+1) 0),.int .i64 (ks.getD (i * 5+2) 0),.int .i64 (ks.getD (i * 5+3) 0),.int .i64 (ks.getD (i * 5+4) 0)]⟩):=by
        rw[cw hc agg86 sz86 (by rw[bq]; exact hl2) (dJ _),Wy hl2]
      obtain⟨H1,k1,k2,k3⟩:=uX (P:=P) (ρ:=Value × Hp × Nat) (H:=H) (n:=n) (L:=[.int .i64 (ks.getD (i * 5) 0),.int .i64 (ks.getD (i * 5+1) 0),.int .i64 (ks.getD (i * 5+2) 0),.int .i64 (ks.getD (i * 5+3) 0),.int .i64 (ks.getD (i * 5+4) 0)]) zero86 rfl sz86 rfl rfl
      rw[hix,aj,aJ,aj,hld,aj,k3]
      have hback:=dw k2 agg86 sz86 rfl
      rw[aJ,aj,hback,aj,mj,aj,WW,aj,at115 _ _ (by omega),aj]
      have hf1:=hf.keep k1 hgn
      obtain⟨y1,y2,y3⟩:=hks i hlt
      obtain⟨B,H2,n2,hB,e2,e3,e4⟩:=nestOn_call (ρ:=Value × Hp × Nat) l (n:=n+1) (by omega) hf1 hs.x hlx hnp (show pd<8 by omega) (near:=AV js nj pd) (fun b hb=>hs.near pd b (by omega) hb) y1 y2 y3
      rw[e2,at114 _ _ (by omega),aj]
      have hf2:=hf1.keep e4 (by omega)
      have lens:(ints (bK (ks.getD (i * 5) 0) (kW (ks.getD (i * 5+1) 0) (ks.getD (i * 5+2) 0) (ks.getD (i * 5+3) 0) (ks.getD (i * 5+4) 0) (AV js nj pd) np pd) B)).length=33:=by rw[bq,gZ (wK ..) hB.1]
      obtain⟨H3,s1,s2,s3⟩:=hf2.storeN (o:=0+67+pd * 99+i * 33) (vs:=ints (bK (ks.getD (i * 5) 0) (kW (ks.getD (i * 5+1) 0) (ks.getD (i * 5+2) 0) (ks.getD (i * 5+3) 0) (ks.getD (i * 5+4) 0) (AV js nj pd) np pd) B)) (by rw[lens]; omega) (fx _)
      have hI:I64 ((i:Int)+1):=by unfold I64; omega
      have hcast:((i:Int)+1)=((i+1:Nat):Int):=by omega
      rw[ox JQ lens,s1,aj,ak (bV hI),hcast]
      refine ih H3 n2 _ (by omega) (by omega) (fun b hb=>?_) s2 ⟨?_,?_,?_,fun a b ha hb=>?_⟩ (fun p kd hp hkd hpk=>?_) hlt
      · rw[s3 b (by omega),e4 b (by omega),k1 b (by omega),hk b hb]
      · rw[KY _ _ _ (.inl (by omega))]; exact hs.x
      · rw[KY _ _ _ (.inl (by omega))]; exact hs.y
      · rw[KY _ _ _ (.inl (by omega))]; exact hs.z
      · rw[KY _ _ _ (.inl (by omega))]; exact hs.near a b ha hb
      · by_cases hnew:p=pd∧kd=i
        · obtain⟨rfl,rfl⟩:=hnew
          refine⟨B,hB,fun j hj=>?_⟩
          rw[show 67+p * 99+kd * 33+j=0+67+p * 99+kd * 33+j by omega]
          refine putF_in _ _ _ (kz ?_)
          have:j<(bK (ks.getD (kd * 5) 0) (kW (ks.getD (kd * 5+1) 0) (ks.getD (kd * 5+2) 0) (ks.getD (kd * 5+3) 0) (ks.getD (kd * 5+4) 0) (AV js nj p) np p) B).length:=by rw[← bq,lens]; exact hj
          exact getD_some this
        · obtain⟨B',hB',hf'⟩:=hnt p kd hp hkd (by omega)
          refine⟨B',hB',fun j hj=>?_⟩
          rw[KY _ _ _ (by rw[lens]; omega)]
          exact hf' j hj
    · rw[if_neg (by omega)]
      have hi':i=nk:=by omega
      subst hi'
      have hI:I64 ((pd:Int)+1):=by unfold I64; omega
      have hcast:((pd:Int)+1)=((pd+1:Nat):Int):=by omega
      rw[ak (bV hI),hcast]
      exact hb2 H n f hn hgn hk hf hs (fun p kd hp hkd h=>hnt p kd hp hkd (by omega))
  intro m
  induction m with
  | zero=>
    intro i H n f h1 h2 h3 h4 h5 h6 h7 h8
    exact body _ 0 i H n f h1 h2 h3 h4 h5 h6 h7 (fun _ _ _ _ _ _ _ _ _ h=>by omega)
  | succ m ih=>
    intro i H n f h1 h2 h3 h4 h5 h6 h7 h8
    exact body _ (m+1) i H n f h1 h2 h3 h4 h5 h6 h7 (fun H n f q1 q2 q3 q4 q5 q6 q7=>ih (i+1) H n f q1 q2 q3 q4 q5 q6 (by omega) (by omega))
theorem nests_loop2 (l k:Nat) (g np nj nk:Nat) (js ks:List Int) (x y z:Value) (hnp:np≤8) (hnk:nk≤3) (hks:pJ ks nk)
    (Q:Res→Prop) (H0:Hp) (n0:Nat) (hg:n0≤g) (hz0:dv H0 n0 5 z nk ks) (hlx:lenV P 31 x=some (.int .i64 np))
    (hq:∀(H:Hp) (n:Nat) (f:Nat→Value),n0≤n→g<n→Keep n0 H0 H→bQ H g 859 117 f→SiteF f x y z js nj→(∀ p kd,p<np→kd<nk→vQ f js ks nj np p kd)→Q (some (.tuple ⟨[.pointer (some ⟨g,0,none⟩),.int .i64 0]⟩,H,n))) :
    ∀(m i:Nat) (H:Hp) (n:Nat) (f:Nat→Value),n0≤n→g<n→Keep n0 H0 H→bQ H g 859 117 f→SiteF f x y z js nj→Iv f js ks nj np nk i 0→i≤np→np-i+3≤m →
    Q (S61_2 (cal (l+5)) k m (.pointer (some ⟨g,0,none⟩)) (.int .i64 np) (.int .i64 i) H n):=by
  have body:∀(b2:Value→Value→Value→Hp→Nat→Res) (m i:Nat) (H:Hp) (n:Nat) (f:Nat→Value),n0≤n→g<n→Keep n0 H0 H→bQ H g 859 117 f→SiteF f x y z js nj→Iv f js ks nj np nk i 0→i≤np→3≤m →
      (∀(H:Hp) (n:Nat) (f:Nat→Value),n0≤n→g<n→Keep n0 H0 H→bQ H g 859 117 f→SiteF f x y z js nj→Iv f js ks nj np nk (i+1) 0→i<np→Q (b2 (.pointer (some ⟨g,0,none⟩)) (.int .i64 np) (.int .i64 ((i+1:Nat):Int)) H n)) →
      Q (C61_2 (cal (l+5)) k m b2 (.pointer (some ⟨g,0,none⟩)) (.int .i64 np) (.int .i64 i) H n):=by
    intro b2 m i H n f hn hgn hk hf hs hnt hi hm ih
    unfold C61_2 B61_2
    generalize hS:S61_3 (cal (l+5)) k m b2 m=S
    rw[ak cY,jw]
    by_cases hlt:i<np
    · rw[if_pos (by omega)]
      have lz:az P H 33 ⟨g,0+0+2,none⟩=some z:=by
        have:=hf.load (P:=P) (k:=2) agg33 (by omega)
        rw[hs.z] at this; exact this
      have e3:lenV P 33 z=some (.int .i64 nk):=hz0.len_eq und33
      rw[mj,aj,pk,aj,SV,aj,aJ,aj,lz,aj,e3,aj,← hS]
      exact nests_loop3 l k m g np nj nk js ks x y z hnp hnk hks Q H0 n0 hg hz0 hlx i hlt b2 (fun H n f q1 q2 q3 q4 q5 q6=>ih H n f q1 q2 q3 q4 q5 q6 hlt) m 0 H n f hn hgn hk hf hs hnt (by omega) (by omega)
    · rw[if_neg (by omega)]
      exact hq H n f hn hgn hk hf hs (fun p kd hp hkd=>hnt p kd hp hkd (.inl (by omega)))
  intro m
  induction m with
  | zero=>
    intro i H n f h1 h2 h3 h4 h5 h6 h7 h8
    omega
  | succ m ih=>
    intro i H n f h1 h2 h3 h4 h5 h6 h7 h8
    exact body _ (m+1) i H n f h1 h2 h3 h4 h5 h6 h7 (by omega) (fun H n f q1 q2 q3 q4 q5 q6 q7=>ih (i+1) H n f q1 q2 q3 q4 q5 q6 (by omega) (by omega))
end Go.Proofs.Ytekajfobmnedjaa.spec
end
section
namespace Go.Proofs.Ytekajfobmnedjaa.spec
open Go Go.Ev Go.Proofs.Ytekajfobmnedjaa.nestFits Go.Proofs.Ytekajfobmnedjaa.G
set_option maxRecDepth 100000
variable {ρ:Type}
open Classical in
theorem nearB_zero (js:List Int) (a b:Nat):AV js 0 a b=false:=by
  unfold AV
  exact decide_eq_false (fun⟨q,h,_⟩=>by omega)
theorem build117 (x y z:Value):jW P 117 [(0,.agg ⟨[x,y,z]⟩)]=some (.agg ⟨x::y::z::(List.replicate 64 (.bool false)++List.replicate 792 (.int .i64 0))⟩):=by kernel_rfl
def site0 (x y z:Value) (k:Nat):Value:=if k=0 then x else if k=1 then y else if k=2 then z else if k<67 then .bool false else .int .i64 0
theorem site0_at (x y z:Value) (k:Nat) (hk:k<859):(x::y::z::(List.replicate 64 (Value.bool false)++List.replicate 792 (Value.int .i64 0)))[k]?=some (site0 x y z k):=by
  match k,hk with
  | 0,_=>rfl
  | 1,_=>rfl
  | 2,_=>rfl
  | k+3,hk=>
    rw[List.getElem?_cons_succ,List.getElem?_cons_succ,List.getElem?_cons_succ]
    unfold site0
    rw[if_neg (by omega),if_neg (by omega),if_neg (by omega)]
    by_cases h:k<64
    · rw[List.getElem?_append_left (by simp; omega),List.getElem?_replicate,if_pos h,if_pos (by omega)]
    · rw[List.getElem?_append_right (by simp; omega),List.getElem?_replicate,List.length_replicate,if_pos (by omega),if_neg (by omega)]
structure Good (np nj nk:Nat) (ps js ks:List Int):Prop where
  np8:np≤8
  nj16:nj≤16
  nk3:nk≤3
  np1:np≠0
  nk1:nk≠0
  ok:¬ GBad np nj nk ps js ks
theorem Iw {np nj nk:Nat} {ps js ks:List Int} (h:gW np nj nk ps js ks=0):Good np nj nk ps js ks:=by
  unfold gW at h
  by_cases c1:8<np∨16<nj∨3<nk
  · rw[if_pos c1] at h; omega
  · rw[if_neg c1] at h
    by_cases c2:np=0∨nk=0
    · rw[if_pos c2] at h; omega
    · rw[if_neg c2] at h
      by_cases c3:GBad np nj nk ps js ks
      · rw[if_pos c3] at h; omega
      · exact⟨by omega,by omega,by omega,by omega,by omega,c3⟩
theorem Good.kinds {np nj nk:Nat} {ps js ks:List Int} (h:Good np nj nk ps js ks):pJ ks nk:=by
  intro kd hkd
  have hb:¬ KBad ks kd:=fun c=>h.ok (.inr (.inl ⟨kd,hkd,c⟩))
  unfold KBad at hb
  unfold okR
  omega
theorem Good.joins {np nj nk:Nat} {ps js ks:List Int} (h:Good np nj nk ps js ks) (hl:js.length=nj * 2) (i:Nat) (hi:i<nj):∃ A B:Nat,js[i * 2]?=some (A:Int)∧js[i * 2+1]?=some (B:Int)∧A<np∧B<np:=by
  have hb:∀ i,i<nj→okJ js np nj (js.getD (i * 2) 0) (js.getD (i * 2+1) 0):=(joins_all hl).2 fun c=>h.ok (.inr (.inr c))
  obtain⟨o1,o2,_,_⟩:=hb i hi
  refine⟨(js.getD (i * 2) 0).toNat,(js.getD (i * 2+1) 0).toNat,?_,?_,by omega,by omega⟩
  · rw[getD_some (show i * 2<js.length by omega)]; congr 1; omega
  · rw[getD_some (show i * 2+1<js.length by omega)]; congr 1; omega
def Opened (r:Res) (n:Nat) (H:Hp) (v:Value) (np nj nk:Nat) (js ks:List Int):Prop:=∃(g:Nat) (x y z:Value) (f:Nat→Value) (H':Hp) (n':Nat),r=some (.tuple ⟨[.pointer (some ⟨g,0,none⟩),.int .i64 0]⟩,H',n')∧n≤n'∧Keep n H H'∧n≤g∧g<n' ∧
  v=.agg ⟨[x,y,z]⟩∧bQ H' g 859 117 f∧SiteF f x y z js nj∧∀ p kd,p<np→kd<nk→vQ f js ks nj np p kd
theorem open_spec (l:Nat) {np nj nk:Nat} {ps js ks:List Int} {H:Hp} {n:Nat} {v:Value} (hg:gY H n v np nj nk ps js ks) (hnp:np≤1000) (hnj:nj≤1000) (hnk:nk≤1000) :
    (gW np nj nk ps js ks≠0→Ret (VQ (cal (l+5)) KK v H n) n H (.tuple ⟨[.pointer none,.int .i64 (gW np nj nk ps js ks)]⟩)) ∧
    (gW np nj nk ps js ks=0→Opened (VQ (cal (l+5)) KK v H n) n H v np nj nk js ks):=by
  have hg0:=hg
  obtain⟨x,y,z,rfl,h1,h2,h3⟩:=hg
  unfold VQ B61_0
  generalize hS:S61_1 (cal (l+5)) KK KK=S
  rw[dq]
  simp only[bj,ptr]
  have hk:Keep n H (H.set n (some (.cells [x,y,z] 35 false none))):=(Keep.refl n H).set (Nat.le_refl _) _
  have hb:aX (H.set n (some (.cells [x,y,z] 35 false none))) n 0 [x,y,z]:=aX.new
  generalize H.set n (some (.cells [x,y,z] 35 false none))=H1 at hk hb ⊢
  have lg:∀ H2,aX H2 n 0 [x,y,z]→az P H2 35 ⟨n,0,none⟩=some (.agg ⟨[x,y,z]⟩):=fun H2 h=>cw (o:=0) (k:=0) h NV sz35 (by simp) (by simp [h1.hole.1,h2.hole.1,h3.hole.1])
  obtain⟨H2,n2,e1,e2,e3⟩:=check_call (ρ:=Value × Hp × Nat) (l+1) (hg0.keep hk (show n≤n+1 by omega)) hnp hnj hnk
  rw[aJ,aj,lg H1 hb,aj,e1,ak iJ]
  constructor
  · intro hne
    rw[decide_eq_false hne,Bool.not_false,fw]
    exact⟨H2,n2,rfl,by omega,hk.trans e3 (by omega)⟩
  · intro he
    have good:=Iw he
    have hb2:=hb.keep e3 (by omega)
    rw[decide_eq_true he,Bool.not_true,ej,aj,lg H2 hb2,aj,build117,aj,dq]
    simp only[bj,ptr]
    have kk:Keep n H H2:=hk.trans e3 (by omega)
    have hf:bQ (H2.set n2 (some (.cells (x::y::z::(List.replicate 64 (.bool false)++List.replicate 792 (.int .i64 0))) 117 false none))) n2 859 117 (site0 x y z):=bQ.new (by simp) _ (site0_at x y z)
    have kk2:Keep n H (H2.set n2 (some (.cells (x::y::z::(List.replicate 64 (.bool false)++List.replicate 792 (.int .i64 0))) 117 false none))):=kk.set (by omega) _
    generalize H2.set n2 (some (.cells (x::y::z::(List.replicate 64 (.bool false)++List.replicate 792 (.int .i64 0))) 117 false none))=H3 at hf kk2 ⊢
    have ly:az P H3 32 ⟨n2,0+0+1,none⟩=some y:=hf.load (P:=P) (k:=1) agg32 (by omega)
    have ey:lenV P 32 y=some (.int .i64 nj):=h2.len_eq ZK
    rw[mj,aj,pk,aj,ZZ,aj,aJ,aj,ly,aj,ey,aj,← hS]
    have hlx:lenV P 31 x=some (.int .i64 np):=h1.len_eq Ck
    refine near_loop61 (cal (l+5)) KK n2 np nj js x y z good.np8 hnj (good.joins h2.1) (fun r=>Opened r n H (.agg ⟨[x,y,z]⟩) np nj nk js ks) H n (by omega) h2
      (fun H4 n4 f4 q1 q2 q3 q4 q5 _=>nests_loop2 l KK n2 np nj nk js ks x y z good.np8 good.nk3 good.kinds (fun r=>Opened r n H (.agg ⟨[x,y,z]⟩) np nj nk js ks) H n (by omega) h3 hlx
        (fun H5 n5 f5 p1 p2 p3 p4 p5 p6=>⟨n2,x,y,z,f5,H5,n5,rfl,by omega,p3,by omega,p2,rfl,p4,p5,p6⟩) KK 0 H4 n4 f4 q1 q2 q3 q4 q5 (fun p kd _ _ h=>by omega) (by omega) (by have:=good.np8; unfold KK; omega)) hlx
      KK 0 H3 (n2+1) (site0 x y z) (by omega) (by omega) kk2 hf ⟨rfl,rfl,rfl,fun a b ha hb=>?_⟩ (by omega) (by unfold KK; omega)
    unfold site0
    rw[if_neg (by omega),if_neg (by omega),if_neg (by omega),if_pos (by omega),nearB_zero]
theorem flat61:fX P 61=false:=by kernel_rfl
theorem call61 (l:Nat) (a:Value) (H:Hp) (n:Nat):(cal (l+1)).call 61 [a] H n=VQ (cal l) KK a H n:=by kernel_rfl
theorem open_call (l:Nat) (v:Value) (H:Hp) (n:Nat) (k:Value→Hp→Nat→Option ρ):aY P (cal (l+6)) 61 [v] H n k=aq (VQ (cal (l+5)) KK v H n) fun r=>k r.1 r.2.1 r.2.2:=by
  unfold aY
  rw[flat61,call61]
  rfl
end Go.Proofs.Ytekajfobmnedjaa.spec
end
section
namespace Go.Ev
open Go
variable {P:Program} {t t2 e e2:TypeId} {ρ:Type}
theorem xj {H:Hp} {b o:Nat} {L:List Value} (h:aX H b o L) (hn:L.all jV=true) {m:Nat} (hm:L.length=m):qj H ⟨b,o,none⟩ m=some L:=by
  have:=Qw (s:=m) (k:=0) h (by omega) hn
  rw[Nat.add_zero] at this
  rw[this,ZY _ _ hm]
def VecV (H:Hp) (n0 n:Nat) (s:Nat) (e:TypeId) (v:Value) (len:Nat) (L:List Value):Prop:=
  L.length=len * s∧L.all oY=true∧L.all jV=true∧((v=.slice none 0 0∧len=0)∨∃ b,v=.slice (some ⟨b,0,none⟩) len capV∧n0≤b∧b<n∧0<len∧H.get b=some (.cells L e false (some s)))
theorem VecV.leaf {H:Hp} {n0 n s len:Nat} {v:Value} {L:List Value} (h:VecV H n0 n s e v len L):oY v=true∧jV v=true∧tj v=true:=by
  rcases h.2.2.2 with⟨rfl,_⟩ | ⟨b,rfl,_⟩ <;> exact⟨rfl,rfl,rfl⟩
theorem VecV.same {H H':Hp} {n0 n m s len:Nat} {v:Value} {L:List Value} (h:VecV H n0 n s e v len L) (hm:n≤m) (hk:∀ b,b<n→fj v b→H'.get b=H.get b):VecV H' n0 m s e v len L:=by
  obtain⟨h1,h2,h3,h4⟩:=h
  refine⟨h1,h2,h3,?_⟩
  rcases h4 with h4 | ⟨b,e,a1,a2,a3,a4⟩
  · exact .inl h4
  · exact .inr ⟨b,e,a1,by omega,a3,by rw[hk b a2 ⟨_,_,_,_,e⟩]; exact a4⟩
theorem VecV.low {H:Hp} {n0 n s len:Nat} {v:Value} {L:List Value} (h:VecV H n0 n s e v len L) {k:Nat} (hb:fj v k):n0≤k∧k<n:=by
  obtain⟨o,l,cp,sp,hb⟩:=hb
  rcases h.2.2.2 with⟨rfl,_⟩ | ⟨b,rfl,h1,h2,_⟩
  · cases hb
  · cases hb; exact⟨h1,h2⟩
theorem VecV.len_eq {H:Hp} {n0 n s len:Nat} {v:Value} {L:List Value} (h:VecV H n0 n s e v len L) (ht:P.underlying t=some (.slice e2)):lenV P t v=some (goInt len):=by
  rcases h.2.2.2 with⟨rfl,rfl⟩ | ⟨b,rfl,_⟩ <;> simp [lenV,ht]
theorem append_vecV {H:Hp} {n0 n s len b2 o2 cap2 bt:Nat} {v z:Value} {xs ys:List Value} (h:VecV H n0 n s e v len xs) (h1:gJ P t=some e) (h2:gJ P t2=some e2)
    (hs:szT P e=some s) (hb:tZ P e=some bt) (hz:jX P e=some z) (hzl:(bj z).length=s) (hy:aX H b2 o2 ys) (hyl:ys.length=s) (hyf:ys.all oY=true) (hyn:ys.all jV=true)
    (big:len+1<1048576) (hsb:s<1048576) (hbb:bt<1048576) (hn:n0≤n) :
    ∃ H',fQ P (bare H n) t t2 v (.slice (some ⟨b2,o2,none⟩) 1 cap2)=some (.slice (some ⟨n,0,none⟩) (len+1) capV,bare H' (n+1)) ∧
      VecV H' n0 (n+1) s e (.slice (some ⟨n,0,none⟩) (len+1) capV) (len+1) (xs++ys)∧∀ b,b<n→¬ fj v b→H'.get b=H.get b:=by
  have hl2:qj H ⟨b2,o2,none⟩ (1 * s)=some ys:=xj hy hyn (by omega)
  have hsrc:lY H s (.slice (some ⟨b2,o2,none⟩) 1 cap2)=some (ys,1):=by
    unfold lY
    simp only[hl2]
  have hbeq:Nat.beq (bj z).length s=true:=by rw[hzl]; exact Nat.beq_refl s
  obtain⟨g1,gf,gn,g2⟩:=h
  have hlen:(xs++ys).length=(len+1) * s:=by rw[List.length_append,g1,hyl,Nat.add_mul,Nat.one_mul]
  have hlf:(xs++ys).all oY=true:=by rw[List.all_append,gf,hyf]; rfl
  have hln:(xs++ys).all jV=true:=by rw[List.all_append,gn,hyn]; rfl
  rcases g2 with⟨rfl,rfl⟩ | ⟨b,rfl,a1,a2,a3,a4⟩
  · have hx0:xs=[]:=by simpa using g1
    subst hx0
    have hbig:oQ (0+1) s bt=true:=by unfold oQ; simp [hsb,hbb]
    refine⟨H.set n (some (.cells ys e false (some s))),?_,⟨hlen,hlf,hln,.inr ⟨n,rfl,hn,by omega,by omega,by rw[Tr.get_set,if_pos rfl]; rfl⟩⟩,fun b hb _=>by rw[Tr.get_set,if_neg (by omega)]⟩
    unfold fQ
    simp only[h1,h2,hs,hb,hz,bare,hsrc,hbeq,hbig]
    rfl
  · have hbig:oQ (len+1) s bt=true:=by unfold oQ; simp [hsb,hbb,big]
    have hold:qj H ⟨b,0,none⟩ (len * s)=some xs:=xj (dj a4) gn g1
    have c1:Nat.blt capV capV=false:=by decide +kernel
    have c2:Nat.beq capV capV=true:=Nat.beq_refl _
    have c3:Nat.beq e e=true:=Nat.beq_refl _
    have c4:Nat.beq s s=true:=Nat.beq_refl _
    refine⟨(H.set b none).set n (some (.cells (xs++ys) e false (some s))),?_,⟨hlen,hlf,hln,.inr ⟨n,rfl,hn,by omega,by omega,by rw[Tr.get_set,if_pos rfl]⟩⟩,fun b' hb' hne=>?_⟩
    · unfold fQ
      simp only[h1,h2,hs,hb,hz,bare,hsrc,hbeq,hold,hbig]
      unfold qq
      simp only[c1,c2,a4,c3,c4,hyf,Bool.and_self]
      rfl
    · rw[Tr.get_set,if_neg (by omega),Tr.get_set,if_neg (fun h=>hne (by subst h; exact⟨_,_,_,_,rfl⟩))]
end Go.Ev
end
section
namespace Go.Proofs.Ytekajfobmnedjaa.spec
open Go Go.Ev Go.Proofs.Ytekajfobmnedjaa.nestFits Go.Proofs.Ytekajfobmnedjaa.G
set_option maxRecDepth 100000
variable {ρ:Type}
noncomputable def fitD (js ks:List Int) (nj np p kd:Nat):Bool:=decide (kV (shP js ks nj np p kd) 0≤ks.getD (kd * 5) 0∧ks.getD (kd * 5) 0≤kV (shP js ks nj np p kd) 1)
def cntR (pd kd nk p:Nat):Nat:=if p<pd then nk else if p=pd then kd else 0
structure FS (H:Hp) (base n fb g:Nat) (r f:Nat→Value) (np nk pd kd:Nat) (bl:Nat→Nat→Bool):Prop where
  fits:bQ H fb np 41 r
  site:bQ H g 859 117 f
  fbl:fb<base
  gl:g<base
  ne:g≠fb
  bn:base≤n
  rows:∀ p,p<np→VecV H base n 1 4 (r p) (cntR pd kd nk p) ((List.range (cntR pd kd nk p)).map fun q=>.bool (bl p q))
  dis:∀ p q,p<np→q<np→p≠q→∀ k,fj (r p) k→¬ fj (r q) k
theorem FS.push {H H':Hp} {base n m fb g np nk pd kd:Nat} {r f:Nat→Value} {bl:Nat→Nat→Bool} {new:Value} (h:FS H base n fb g r f np nk pd kd bl) (hpd:pd<np) (hm:n≤m) (hk:∀ b,b<n→¬ fj (r pd) b→H'.get b=H.get b)
    (hv:VecV H' base m 1 4 new (kd+1) (((List.range kd).map fun q=>.bool (bl pd q))++[.bool (bl pd kd)])) (hf:∀ k,fj new k→n≤k) :
    ∃ H'',storeN H' ⟨fb,0+pd * 1,none⟩ [new]=some H''∧FS H'' base m fb g (putF r (0+pd * 1) [new]) f np nk pd (kd+1) bl∧∀ b,b<base→b≠fb→H''.get b=H.get b:=by
  have hfb:=h.fbl
  have hgl:=h.gl
  have hbn:=h.bn
  have hne:=h.ne
  have low:∀ b,b<base→¬ fj (r pd) b:=fun b hb hblk=>by have:=((h.rows pd hpd).low hblk).1; omega
  have cf:bQ H' fb np 41 r:=by
    obtain⟨c,e1,e2,e3⟩:=h.fits
    exact⟨c,by rw[hk fb (by omega) (low fb hfb)]; exact e1,e2,e3⟩
  obtain⟨H'',s1,s2,s3⟩:=cf.storeN (o:=0+pd * 1) (vs:=[new]) (by simp; omega) (by simp [hv.leaf.1])
  refine⟨H'',s1,⟨s2,?_,hfb,hgl,hne,by omega,fun p hp=>?_,fun p q hp hq hpq k=>?_⟩,fun b hb hbf=>?_⟩
  · obtain⟨c,e1,e2,e3⟩:=h.site
    exact⟨c,by rw[s3 g hne,hk g (by omega) (low g hgl)]; exact e1,e2,e3⟩
  · rw[nY]
    by_cases e:p=pd
    · subst e
      rw[if_pos (by omega)]
      have hc:cntR p (kd+1) nk p=kd+1:=by unfold cntR; rw[if_neg (by omega),if_pos rfl]
      rw[hc,List.range_succ,List.map_append]
      exact hv.same (Nat.le_refl _) fun b _ hb=>s3 b (by have:=(hv.low hb).1; omega)
    · rw[if_neg (by omega)]
      have hc:cntR pd (kd+1) nk p=cntR pd kd nk p:=by unfold cntR; rw[if_neg e,if_neg e]
      rw[hc]
      refine(h.rows p hp).same hm fun b hb hblk=>?_
      rw[s3 b (by have:=((h.rows p hp).low hblk).1; omega)]
      exact hk b hb (h.dis p pd hp hpd e b hblk)
  · rw[nY,nY]
    by_cases e1:p=pd
    · subst e1
      rw[if_pos (by omega),if_neg (by omega)]
      intro h1 h2
      have:=hf k h1
      have:=((h.rows q hq).low h2).2
      omega
    · rw[if_neg (by omega)]
      by_cases e2:q=pd
      · subst e2
        rw[if_pos (by omega)]
        intro h1 h2
        have:=hf k h2
        have:=((h.rows p hp).low h1).2
        omega
      · rw[if_neg (by omega)]
        exact h.dis p q hp hq hpq k
  · rw[s3 b hbf,hk b (by omega) (low b hb)]
theorem WY (js ks:List Int) (nj np p kd:Nat):(shP js ks nj np p kd).length=16:=wK ..
theorem AW {js ks:List Int} {nj np nk p kd:Nat} (hks:pJ ks nk) (hkd:kd<nk) (hnp:np≤8) (hp:p<np):nX (shP js ks nj np p kd):=by
  obtain⟨_,h2,h3⟩:=hks kd hkd
  exact sharesL_bounded hnp (by omega) h2 h3
theorem Mk {H:Hp} {g np nj p kd:Nat} {f:Nat→Value} {js ks:List Int} (hf:bQ H g 859 117 f) (hn:vQ f js ks nj np p kd) (hp:p<8) (hkd:kd<3) :
    ∃ B,kZ (ks.getD (kd * 5) 0) (shP js ks nj np p kd) B 8∧az P H 113 ⟨g,0+67+p * 99+kd * 33,none⟩=some (.agg ⟨ints (bK (ks.getD (kd * 5) 0) (shP js ks nj np p kd) B)⟩):=by
  obtain⟨B,hB,hj⟩:=hn
  refine⟨B,hB,?_⟩
  rw[hf.load_agg (k:=0+67+p * 99+kd * 33) SY JQ (by omega)]
  have lens:(bK (ks.getD (kd * 5) 0) (shP js ks nj np p kd) B).length=33:=gZ (WY ..) hB.1
  have e:(List.range 33).map (fun j=>f (0+67+p * 99+kd * 33+j))=ints (bK (ks.getD (kd * 5) 0) (shP js ks nj np p kd) B):=by
    apply List.ext_getElem?
    intro j
    by_cases h:j<33
    · rw[List.getElem?_map,List.getElem?_range h,kz (getD_some (by omega))]
      simp only[Option.map_some]
      rw[show 0+67+p * 99+kd * 33+j=67+p * 99+kd * 33+j by omega,hj j h]
    · rw[List.getElem?_eq_none (by simp; omega),List.getElem?_eq_none (by rw[bq]; omega)]
  rw[e]
theorem FS.next {H:Hp} {base n fb g np nk pd:Nat} {r f:Nat→Value} {bl:Nat→Nat→Bool} (h:FS H base n fb g r f np nk pd nk bl):FS H base n fb g r f np nk (pd+1) 0 bl:=by
  refine⟨h.fits,h.site,h.fbl,h.gl,h.ne,h.bn,fun p hp=>?_,h.dis⟩
  have:=h.rows p hp
  have hc:cntR (pd+1) 0 nk p=cntR pd nk nk p:=by
    unfold cntR
    by_cases h1:p<pd
    · rw[if_pos h1,if_pos (by omega)]
    · by_cases h2:p=pd
      · rw[if_neg h1,if_pos h2,if_pos (by omega)]
      · rw[if_neg h1,if_neg h2,if_neg (by omega)]; split <;> rfl
  rw[hc]; exact this
end Go.Proofs.Ytekajfobmnedjaa.spec
end
section
namespace Go.Proofs.Ytekajfobmnedjaa.spec
open Go Go.Ev Go.Proofs.Ytekajfobmnedjaa.nestFits Go.Proofs.Ytekajfobmnedjaa.G
set_option maxRecDepth 100000
variable {ρ:Type}
theorem qaj (z:Value):∀ n:Nat,repl n [z]=List.replicate n z
  | 0=>rfl
  | n+1=>by
    unfold repl
    rw[qaj z n,List.replicate_succ]
    rfl
theorem Good.small {np nj nk:Nat} {ps js ks:List Int} (h:Good np nj nk ps js ks):KX ks nk:=by
  intro kd hkd
  obtain⟨h1,h2,h3⟩:=h.kinds kd hkd
  unfold okR at h2 h3
  omega
theorem Good.inner {np nj nk:Nat} {ps js ks:List Int} (h:Good np nj nk ps js ks) (hl:js.length=nj * 2):Inner js nj np:=by
  intro j hj a b hJ
  obtain⟨A,B,hA,hB,h1,h2⟩:=h.joins hl j hj
  unfold J at hJ
  rw[hA,hB] at hJ
  simp only[Option.some.injEq] at hJ
  omega
open Classical in
theorem pq {js ks:List Int} {nj np p kd:Nat} (hi:Inner js nj np) (hnp:np≤8) (hp:p<np) (q:Nat) :
    (shP js ks nj np p kd).getD (q * 2) 0=(bx js ks nj kd p q).1∧(shP js ks nj np p kd).getD (q * 2+1) 0=(bx js ks nj kd p q).2:=by
  obtain⟨g1,g2⟩:=sharesL_get (a1:=ks.getD (kd * 5+1) 0) (a2:=ks.getD (kd * 5+2) 0) (a3:=ks.getD (kd * 5+3) 0) (a4:=ks.getD (kd * 5+4) 0) (near:=AV js nj p) hnp (show p<8 by omega) q
  unfold shP
  rw[g1,g2]
  unfold bx
  by_cases e:q=p
  · subst e
    rw[if_pos rfl,if_pos rfl,if_pos rfl]
    exact⟨rfl,rfl⟩
  · rw[if_neg e,if_neg e,if_neg (show ¬ (p:Int)=(q:Int) by omega)]
    by_cases hn:Near js nj p q
    · have hb:AV js nj p q=true:=by unfold AV; rw[decide_eq_true_eq]; exact hn
      have hq:q<np:=by obtain⟨j,h1,h2⟩:=hn; have:=hi j h1 _ _ h2; omega
      have hc:q<np∧AV js nj p q=true:=⟨hq,hb⟩
      rw[if_pos hc,if_pos hc,if_pos hn]
      exact⟨rfl,rfl⟩
    · have hb:¬ (q<np∧AV js nj p q=true):=fun⟨_,h⟩=>hn (by unfold AV at h; rw[decide_eq_true_eq] at h; exact h)
      rw[if_neg hb,if_neg hb,if_neg hn]
      exact⟨rfl,rfl⟩
theorem fitsB_iff8 {js ks:List Int} {nj np nk kind a:Nat} (hs:KX ks nk) (hk:kind<nk) (ha:a<np) (hi:Inner js nj np) (hnp:np≤8) :
    ZX js ks nj np kind a↔aZ (fun p=>(bx js ks nj kind a p).1) 8≤ks.getD (kind * 5) 0∧ks.getD (kind * 5) 0≤aZ (fun p=>(bx js ks nj kind a p).2) 8:=by
  rw[fitsB_iff hs hk ha hi (by omega)]
  have e1:aZ (fun p=>(bx js ks nj kind a p).1) 11=aZ (fun p=>(bx js ks nj kind a p).1) 8:=oz (by omega) fun k h1 _=>by rw[wY hi ha (by omega)]
  have e2:aZ (fun p=>(bx js ks nj kind a p).2) 11=aZ (fun p=>(bx js ks nj kind a p).2) 8:=oz (by omega) fun k h1 _=>by rw[wY hi ha (by omega)]
  rw[e1,e2]
theorem fits_agree {np nj nk p kd:Nat} {ps js ks:List Int} (good:Good np nj nk ps js ks) (hl:js.length=nj * 2) (hp:p<np) (hkd:kd<nk):fitD js ks nj np p kd=true↔ZX js ks nj np kd p:=by
  rw[fitsB_iff8 good.small hkd hp (good.inner hl) good.np8]
  unfold fitD kV
  rw[decide_eq_true_eq,oy (f:=fun q=>(shP js ks nj np p kd).getD (q * 2+0) 0) (g:=fun q=>(bx js ks nj kd p q).1) (fun q _=>(pq (good.inner hl) good.np8 hp q).1),
    oy (f:=fun q=>(shP js ks nj np p kd).getD (q * 2+1) 0) (g:=fun q=>(bx js ks nj kd p q).2) (fun q _=>(pq (good.inner hl) good.np8 hp q).2)]
theorem call21 (l:Nat) (a b c:Value) (H:Hp) (n:Nat):(cal (l+1)).call 21 [a,b,c] H n=C21_0 (cal l) KK a b c H n:=by kernel_rfl
theorem fitsR_call (l:Nat) {np nj nk:Nat} {ps js ks:List Int} (hnj:nj≤KK) (hnp:np≤100) (kind:Nat) (hk:kind<nk) (at_:Int) (hs:KX ks nk) {H:Hp} {n:Nat} {v:Value} (hg:GroveI H n v np nj nk ps js ks) :
    ∃(r:Bool) (H':Hp) (n':Nat),(r=true↔ZX js ks nj np kind at_)∧(∀ k:Value→Hp→Nat→Option ρ,aY P (cal (l+4)) 21 [v,.int .i64 kind,.int .i64 at_] H n k=k (.bool r) H' n')∧n≤n'∧Keep n H H':=by
  obtain⟨r,H',n',⟨b,rfl,hb⟩,e1,e2,e3⟩:=ew (ρ:=ρ) (P:=P) (cal:=cal (l+4)) (f:=21) (args:=[v,.int .i64 kind,.int .i64 at_]) (H:=H) (n:=n)
    (Pre:=fun H n=>GroveI H n v np nj nk ps js ks) (Q:=fun r=>∃ b:Bool,r=.bool b∧(b=true↔ZX js ks nj np kind at_))
    (fun H n h=>by
      obtain⟨r,h1,h2⟩:=fits_spec l hnj hnp kind hk at_ hs h
      exact⟨.bool r,by rw[call21]; exact h1,r,rfl,h2⟩) (fun r ⟨b,e,_⟩ _=>by subst e; rfl) hg (fun hp=>hg.nil (by simp only[cx,Bool.and_eq_true] at hp; exact hp.1))
  exact⟨b,H',n',hb,e1,e2,e3⟩
end Go.Proofs.Ytekajfobmnedjaa.spec
end
section
namespace Go.Proofs.Ytekajfobmnedjaa.spec
open Go Go.Ev Go.Proofs.Ytekajfobmnedjaa.nestFits Go.Proofs.Ytekajfobmnedjaa.G
set_option maxRecDepth 100000
variable {ρ:Type}
def ListR (H:Hp) (n:Nat) (v:Value) (len:Nat) (xs:List Int):Prop:=xs.length=len∧(∀ x ∈ xs,I64 x) ∧
  ((v=.slice none 0 0∧len=0)∨∃ b o cap,v=.slice (some ⟨b,o,none⟩) len cap∧b<n∧aX H b o (ints xs))
theorem ListR.keep {H H':Hp} {n m len:Nat} {v:Value} {xs:List Int} (h:ListR H n v len xs) (hk:Keep n H H') (hm:n≤m):ListR H' m v len xs:=by
  obtain⟨h1,h2,h3⟩:=h
  refine⟨h1,h2,?_⟩
  rcases h3 with h3 | ⟨b,o,cap,e,a,c⟩
  · exact .inl h3
  · exact .inr ⟨b,o,cap,e,by omega,c.keep hk a⟩
theorem ListR.nil {H:Hp} {n len:Nat} {v:Value} {xs:List Int} (h:ListR H n v len xs) (hp:bz v=true):ListR .nil 0 v len xs:=by
  obtain⟨h1,h2,h3⟩:=h
  refine⟨h1,h2,?_⟩
  rcases h3 with h3 | ⟨b,o,cap,e,a,c⟩
  · exact .inl h3
  · subst e; simp [bz] at hp
theorem und44:P.underlying 44=some (.slice 3):=by kernel_rfl
theorem sl44:gJ P 44=some 3:=by kernel_rfl
theorem sz3:szT P 3=some 1:=by kernel_rfl
theorem by3:tZ P 3=some 8:=by kernel_rfl
theorem zero3:jX P 3=some (.int .i64 0):=by kernel_rfl
theorem ListR.len_eq {H:Hp} {n len:Nat} {v:Value} {xs:List Int} (h:ListR H n v len xs):lenV P 44 v=some (.int .i64 len):=by
  rcases h.2.2 with⟨rfl,rfl⟩ | ⟨b,o,cap,rfl,_⟩
  · unfold lenV; simp only[und44]; rfl
  · unfold lenV; simp only[und44]; rfl
theorem ListR.at_ {H:Hp} {n len:Nat} {v:Value} {xs:List Int} (h:ListR H n v len xs) {i:Nat} (hi:i<len) :
    ∃ b o,aQ P 44 v (.int .i64 i)=some (.pointer (some ⟨b,o,none⟩))∧b<n∧az P H 3 ⟨b,o,none⟩=some (.int .i64 (xs.getD i 0)):=by
  rcases h.2.2 with⟨rfl,rfl⟩ | ⟨b,o,cap,rfl,a,c⟩
  · omega
  · refine⟨b,o+i,?_,a,?_⟩
    · unfold aQ
      simp only[und44,CQ hi,sz3]
      simp [addA]
    · exact bv c agg3 (kz (getD_some (by rw[h.1]; exact hi)))
theorem ListR.src {H:Hp} {n len:Nat} {v:Value} {xs:List Int} (h:ListR H n v len xs):lY H 1 v=some (ints xs,len):=by
  obtain⟨h1,_,h3⟩:=h
  rcases h3 with⟨rfl,rfl⟩ | ⟨b,o,cap,rfl,a,c⟩
  · have:xs=[]:=List.length_eq_zero_iff.1 h1
    subst this; rfl
  · unfold lY
    simp only[xj c (dJ _) (show(ints xs).length=len * 1 by rw[bq,h1,Nat.mul_one])]
theorem VecAt.list {H:Hp} {n0 n len:Nat} {e:TypeId} {v:Value} {xs:List Int} (h:VecAt H n0 n 1 e v len xs) (hx:∀ x ∈ xs,I64 x):ListR H n v len xs:=by
  obtain⟨h1,h2⟩:=h
  refine⟨by omega,hx,?_⟩
  rcases h2 with h2 | ⟨b,e,a1,a2,a3,a4⟩
  · exact .inl h2
  · exact .inr ⟨b,0,capV,e,a2,dj a4⟩
theorem row44_0:Cx P 44 0 []=some ([],3):=by kernel_rfl
theorem list_spec (c:Cal) (k:Nat) {H:Hp} {n len:Nat} {v:Value} {xs:List Int} (h:ListR H n v len xs) (hlen:len≤1000) :
    ∃ u H' n',Ly c k v H n=some (u,H',n')∧n≤n'∧Keep n H H'∧ListR H' n' u len xs:=by
  unfold Ly B23_0 rowK
  rw[row44_0,aj]
  unfold newK
  dsimp only
  have hk:Keep n H (H.set n (some (.cells [] 3 false none))):=(Keep.refl n H).set (Nat.le_refl _) _
  have hg:(H.set n (some (.cells [] 3 false none))).get n=some (.cells [] 3 false none):=by rw[Tr.get_set,if_pos rfl]
  have h1:=h.keep hk (show n≤n+1 by omega)
  generalize H.set n (some (.cells [] 3 false none))=H1 at hk hg h1 ⊢
  have hold:qj H1 ⟨n,0,none⟩ (0 * 1)=some []:=xj (L:=[]) (dj hg) rfl rfl
  have hbig:oQ (0+len) 1 8=true:=by unfold oQ; simp; omega
  have hb1:Nat.beq (bj (.int .i64 0)).length 1=true:=rfl
  have c0:Nat.blt 0 capV=true:=by decide +kernel
  by_cases h0:len=0
  · subst h0
    have hx:xs=[]:=List.length_eq_zero_iff.1 h.1
    subst hx
    have ha:fQ P (bare H1 (n+1)) 44 44 (.slice (some ⟨n,0,none⟩) 0 0) v=some (.slice (some ⟨n,0,none⟩) 0 0,bare (H1.set n (some (.cells [] 3 false none))) (n+1)):=by
      unfold fQ
      have hs:lY (bare H1 (n+1)).H 1 v=some ([],0):=h1.src
      have hold':qj (bare H1 (n+1)).H ⟨n,0,none⟩ (0 * 1)=some []:=hold
      simp only[sl44,sz3,by3,zero3,hs,hb1,hold',hbig]
      unfold qq
      have hst:storeN (bare H1 (n+1)).H (addA ⟨n,0,none⟩ (0 * 1)) []=some (H1.set n (some (.cells [] 3 false none))):=by
        unfold storeN
        simp only[addA,bare,hg]
        rfl
      have c1:Nat.ble (0+0) 0=true:=rfl
      simp only[c0,c1,hst]
      rfl
    unfold stK
    dsimp only
    rw[ha,aj]
    dsimp only [bare]
    exact⟨_,_,_,rfl,by omega,hk.set (Nat.le_refl _) _,rfl,h.2.1,.inr ⟨n,0,0,rfl,Nat.lt_succ_self _,_,[],by rw[Tr.get_set,if_pos rfl],rfl,fun k v h=>by simp [ints] at h⟩⟩
  · have ha:fQ P (bare H1 (n+1)) 44 44 (.slice (some ⟨n,0,none⟩) 0 0) v=some (.slice (some ⟨n+1,0,none⟩) len capV,bare (H1.set (n+1) (some (.cells (ints xs) 3 false (some 1)))) (n+1+1)):=by
      unfold fQ
      have hs:lY (bare H1 (n+1)).H 1 v=some (ints xs,len):=h1.src
      have hold':qj (bare H1 (n+1)).H ⟨n,0,none⟩ (0 * 1)=some []:=hold
      simp only[sl44,sz3,by3,zero3,hs,hb1,hold',hbig]
      unfold qq
      have c1:Nat.ble len 0=false:=by
        cases len with
        | zero=>exact absurd rfl h0
        | succ m=>rfl
      simp only[c0,c1,Ny,bare,rv,List.nil_append,Nat.zero_add]
    unfold stK
    dsimp only
    rw[ha,aj]
    dsimp only [bare]
    exact⟨_,_,_,rfl,by omega,hk.set (by omega) _,h.1,h.2.1,.inr ⟨n+1,0,capV,rfl,Nat.lt_succ_self _,_,ints xs,by rw[Tr.get_set,if_pos rfl],rfl,fun k v h=>by simpa using h⟩⟩
theorem call23 (l:Nat) (a:Value) (H:Hp) (n:Nat):(cal (l+1)).call 23 [a] H n=Ly (cal l) KK a H n:=by kernel_rfl
theorem flat23:fX P 23=false:=by kernel_rfl
theorem list_call (l:Nat) {H:Hp} {n len:Nat} {v:Value} {xs:List Int} (h:ListR H n v len xs) (hlen:len≤1000) :
    ∃ u H' n',(∀ k:Value→Hp→Nat→Option ρ,aY P (cal (l+1)) 23 [v] H n k=k u H' n')∧n≤n'∧Keep n H H'∧ListR H' n' u len xs:=by
  obtain⟨u,H',n',e,h1,h2,h3⟩:=list_spec (cal l) KK h hlen
  refine⟨u,H',n',fun k=>?_,h1,h2,h3⟩
  unfold aY
  rw[flat23,call23,e]
  rfl
end Go.Proofs.Ytekajfobmnedjaa.spec
end
section
namespace Go.Proofs.Ytekajfobmnedjaa.spec
open Go Go.Ev Go.Proofs.Ytekajfobmnedjaa.nestFits Go.Proofs.Ytekajfobmnedjaa.G
set_option maxRecDepth 100000
variable {ρ:Type}
theorem und121:P.underlying 121=some (.array 8 3):=by kernel_rfl
theorem yX:fk P 121=some true:=by kernel_rfl
theorem rQ:szT P 121=some 8:=by kernel_rfl
theorem DJ:jX P 121=some (.agg ⟨ints (List.replicate 8 0)⟩):=by kernel_rfl
theorem qak:jW P 121 []=some (.agg ⟨ints (List.replicate 8 0)⟩):=by kernel_rfl
theorem slice121 (b:Nat):yx P 121 (.pointer (some ⟨b,0,none⟩)) none none=some (.slice (some ⟨b,0,none⟩) 8 8):=by kernel_rfl
noncomputable def valR (r:Res):Option Value:=match r with
  | some (v,_,_)=>some v
  | none=>none
theorem valR_some {r:Res} {v:Value} (h:valR r=some v):∃ H n,r=some (v,H,n):=by
  unfold valR at h
  split at h
  · cases h; exact⟨_,_,rfl⟩
  · cases h
theorem bare_run (c:Cal):valR (C101_0 c KK .nil 0)=some (.agg ⟨ints (List.replicate 8 (-1))⟩):=by kernel_rfl
theorem flat101:fX P 101=true:=by kernel_rfl
theorem call101 (l:Nat) (H:Hp) (n:Nat):(cal (l+1)).call 101 [] H n=C101_0 (cal l) KK H n:=by kernel_rfl
theorem bare_call (l:Nat) (H:Hp) (n:Nat) (k:Value→Hp→Nat→Option ρ):aY P (cal (l+1)) 101 [] H n k=k (.agg ⟨ints (List.replicate 8 (-1))⟩) H n:=by
  obtain⟨H',n',e⟩:=valR_some (bare_run (cal l))
  refine fY flat101 rfl ((call101 ..).trans e) ?_
  simp only[bz,lW,wZ]
def nq (js ks:List Int) (nj np nk p:Nat) (kind:Int):Prop:=0≤kind∧kind<nk∧fitD js ks nj np p kind.toNat=true
theorem takes_spec (l:Nat) {H:Hp} {n g np nj nk p:Nat} {f:Nat→Value} {js ks:List Int} {x y z:Value} (hf:bQ H g 859 117 f) (hs:SiteF f x y z js nj) (hz:lenV P 33 z=some (.int .i64 nk)) (hn:∀ p kd,p<np→kd<nk→vQ f js ks nj np p kd) (hks:pJ ks nk) (hnp:np≤8) (hnk:nk≤3) (hp:p<np) (kind:Int) :
    ∃ r,TJ (cal (l+3)) KK (.pointer (some ⟨g,0,none⟩)) (.int .i64 p) (.int .i64 kind) H n=some (.bool r,H,n)∧(r=true↔nq js ks nj np nk p kind):=by
  unfold TJ B102_0
  have lz:az P H 33 ⟨g,0+0+2,none⟩=some z:=by
    have:=hf.load (P:=P) (k:=2) agg33 (by omega)
    rw[hs.z] at this; exact this
  rw[ak HV]
  unfold nq
  cases c1:decide (0≤kind) with
  | false=>
    simp only[eX,iX,dk,aj]
    exact⟨false,rfl,⟨fun h=>(by cases h),fun h=>absurd h.1 (of_decide_eq_false c1)⟩⟩
  | true=>
    have h0:=of_decide_eq_true c1
    simp only[dX,mj,aj,pk,SV,aJ,lz,hz,ak cY,dQ]
    cases c2:decide (kind<(nk:Int)) with
    | false=>
      simp only[eX,iX,dk,aj]
      exact⟨false,rfl,⟨fun h=>(by cases h),fun h=>absurd h.2.1 (of_decide_eq_false c2)⟩⟩
    | true=>
      have h1:=of_decide_eq_true c2
      obtain⟨kd,rfl⟩:∃ kd:Nat,kind=kd:=⟨kind.toNat,by omega⟩
      have hkd:kd<nk:=by omega
      obtain⟨B,hB,ln⟩:=Mk hf (hn p kd hp hkd) (by omega) (by omega)
      simp only[dX,mj,aj,WW,at115 _ _ (show p<8 by omega),at114 _ _ (show kd<3 by omega),aJ,ln,fit_call l (WY ..) hB.1 (AW hks hkd hnp hp),dQ]
      refine⟨_,rfl,?_⟩
      have e:fitD js ks nj np p (kd:Int).toNat=fitD js ks nj np p kd:=by rw[Int.toNat_natCast]
      rw[e]
      unfold fitD
      exact⟨fun h=>⟨h0,h1,h⟩,fun h=>h.2.2⟩
theorem call102 (l:Nat) (a b c:Value) (H:Hp) (n:Nat):(cal (l+1)).call 102 [a,b,c] H n=TJ (cal l) KK a b c H n:=by kernel_rfl
theorem takes_call (l:Nat) {H:Hp} {n g np nj nk p:Nat} {f:Nat→Value} {js ks:List Int} {x y z:Value} (hf:bQ H g 859 117 f) (hs:SiteF f x y z js nj) (hz:lenV P 33 z=some (.int .i64 nk)) (hn:∀ p kd,p<np→kd<nk→vQ f js ks nj np p kd) (hks:pJ ks nk) (hnp:np≤8) (hnk:nk≤3) (hp:p<np) (kind:Int) :
    ∃ r:Bool,(r=true↔nq js ks nj np nk p kind)∧∀ k:Value→Hp→Nat→Option ρ,aY P (cal (l+4)) 102 [.pointer (some ⟨g,0,none⟩),.int .i64 p,.int .i64 kind] H n k=k (.bool r) H n:=by
  obtain⟨r,e,h⟩:=takes_spec l (n:=n) hf hs hz hn hks hnp hnk hp kind
  refine⟨r,h,fun k=>?_⟩
  unfold aY
  have:(fX P 102 && cx [.pointer (some ⟨g,0,none⟩),.int .i64 p,.int .i64 kind])=false:=by rw[Bool.and_eq_false_iff]; exact .inr rfl
  rw[this,call102,e]
  rfl
theorem results65_eq:cQ=[.tmp 4,.cell 5 121,.tmp 6]:=by kernel_rfl
theorem res65 {H:Hp} {b:Nat} {v:Value} (p e:Value) (h:az P H 121 ⟨b,0,none⟩=some v):resV P (Tr.set (Tr.set (Tr.set Tr.nil 6 (some e)) 5 (some (.pointer (some ⟨b,0,none⟩)))) 4 (some p)) H cQ=some [p,v,e]:=by
  rw[results65_eq]
  simp [resV,Tr.get_set,h]
theorem index121 {L:List Int} (hL:L.length=8) {i:Nat} (hi:i<8):BK P 121 (.agg ⟨ints L⟩) (.int .i64 i)=some (.int .i64 (L.getD i 0)):=by
  unfold BK
  have a3:fk P 3=some false:=agg3
  simp only[und121,CQ hi,sz3,Av,a3]
  rw[Nat.mul_one]
  exact kz (getD_some (by omega))
def fq (ls:List Int) (np:Nat):List Int:=ls++List.replicate (8-np) (-1)
theorem BY {ls:List Int} {np:Nat} (h:ls.length=np) (hnp:np≤8):(fq ls np).length=8:=by unfold fq; simp [h]; omega
theorem KZ {ls:List Int} {np p:Nat} (h:ls.length=np) (hp:p<np):(fq ls np).getD p 0=ls.getD p 0:=by
  unfold fq
  rw[List.getD_eq_getElem?_getD,List.getElem?_append_left (by omega),← List.getD_eq_getElem?_getD]
theorem SK {ls:List Int} {np p:Nat} (h:ls.length=np) (hp:np≤p) (hp8:p<8):(fq ls np).getD p 0=-1:=by
  unfold fq
  rw[List.getD_eq_getElem?_getD,List.getElem?_append_right (by omega),List.getElem?_replicate,if_pos (by omega)]
  rfl
def rV (js ks ls:List Int) (nj np nk:Nat):Prop:=∀ p,p<np→ls.getD p 0=-1∨nq js ks nj np nk p (ls.getD p 0)
theorem splice_ints:∀ {L X:List Int},L.length≤X.length→fZ.over (ints X) (ints L)=some (ints (L++X.drop L.length))
  | [],X,_=>by cases X <;> simp [ints,fZ.over]
  | a::L,[],h=>by simp at h
  | a::L,x::X,h=>by
    have ih:=splice_ints (L:=L) (X:=X) (by simpa using h)
    simp only[ints,List.map_cons,fZ.over] at ih ⊢
    rw[ih]
    simp
theorem copy_row {H:Hp} {n b np:Nat} {w:Value} {ls X:List Int} {e:TypeId} (hw:ListR H n w np ls) (h1:0<np) (h8:np≤8) (hX:X.length=8) (hg:H.get b=some (.cells (ints X) e false none)) :
    PV P (bare H n) 44 (.slice (some ⟨b,0,none⟩) 8 8) w=some (.int .i64 np,bare (H.set b (some (.cells (ints (ls++X.drop np)) e false none))) n):=by
  obtain⟨hl,_,hw⟩:=hw
  rcases hw with⟨_,h0⟩ | ⟨rb,ro,cap,rfl,hr,hc⟩
  · omega
  have hmin':Nat.min np 8=np:=Nat.min_eq_left h8
  have hld:qj H ⟨rb,ro,none⟩ (np * 1)=some (ints ls):=xj hc (dJ _) (by rw[bq,hl,Nat.mul_one])
  have hsp:fZ (ints X) 0 (ints ls)=some (ints (ls++X.drop ls.length)):=by
    unfold fZ
    exact splice_ints (by omega)
  have hst:storeN H ⟨b,0,none⟩ (ints ls)=some (H.set b (some (.cells (ints (ls++X.drop np)) e false none))):=by
    unfold storeN
    simp only[hg,fx,if_true,hsp,hl]
  unfold PV
  simp only[sl44,sz3,bare,hmin',hld,hst]
  rfl
theorem openLaid_loop (l k:Nat) {H:Hp} {n g np nj nk b5 b9:Nat} {f:Nat→Value} {js ks ls:List Int} {x y z:Value} (hf:bQ H g 859 117 f) (hs:SiteF f x y z js nj) (hz:lenV P 33 z=some (.int .i64 nk)) (hn:∀ p kd,p<np→kd<nk→vQ f js ks nj np p kd) (hks:pJ ks nk) (hnp:np≤8) (hnk:nk≤3)
    (hls:ls.length=np) (h5:∃ w,H.get b5=some (.cells w 121 false none)∧w.length=8) (h9:H.get b9=some (.cells (ints (fq ls np)) 121 false none)) (hne:b5≠b9):∀(m i:Nat),i≤8→8-i≤m →
    ((∃ p,i≤p∧p<np∧¬ (ls.getD p 0=-1∨nq js ks nj np nk p (ls.getD p 0)))∧∃ H',S65_1 (cal (l+4)) k m (.pointer (some ⟨b5,0,none⟩)) (.pointer (some ⟨g,0,none⟩)) (.pointer (some ⟨b9,0,none⟩)) (.agg ⟨ints (fq ls np)⟩) (.int .i64 i) H n=some (.tuple ⟨[.pointer none,.agg ⟨ints (List.replicate 8 0)⟩,.int .i64 2]⟩,H',n)∧∀ b,b≠b5→H'.get b=H.get b) ∨
    ((∀ p,i≤p→p<np→ls.getD p 0=-1∨nq js ks nj np nk p (ls.getD p 0))∧∃ H',S65_1 (cal (l+4)) k m (.pointer (some ⟨b5,0,none⟩)) (.pointer (some ⟨g,0,none⟩)) (.pointer (some ⟨b9,0,none⟩)) (.agg ⟨ints (fq ls np)⟩) (.int .i64 i) H n=some (.tuple ⟨[.pointer (some ⟨g,0,none⟩),.agg ⟨ints (fq ls np)⟩,.int .i64 0]⟩,H',n)∧∀ b,b≠b5→H'.get b=H.get b):=by
  obtain⟨w5,h5,hw5⟩:=h5
  have body:∀(b1:Value→Value→Value→Value→Value→Hp→Nat→Res) (m i:Nat),i≤8 →
      (i<8→((∃ p,i+1≤p∧p<np∧¬ (ls.getD p 0=-1∨nq js ks nj np nk p (ls.getD p 0)))∧∃ H',b1 (.pointer (some ⟨b5,0,none⟩)) (.pointer (some ⟨g,0,none⟩)) (.pointer (some ⟨b9,0,none⟩)) (.agg ⟨ints (fq ls np)⟩) (.int .i64 ((i+1:Nat):Int)) H n=some (.tuple ⟨[.pointer none,.agg ⟨ints (List.replicate 8 0)⟩,.int .i64 2]⟩,H',n)∧∀ b,b≠b5→H'.get b=H.get b) ∨
        ((∀ p,i+1≤p→p<np→ls.getD p 0=-1∨nq js ks nj np nk p (ls.getD p 0))∧∃ H',b1 (.pointer (some ⟨b5,0,none⟩)) (.pointer (some ⟨g,0,none⟩)) (.pointer (some ⟨b9,0,none⟩)) (.agg ⟨ints (fq ls np)⟩) (.int .i64 ((i+1:Nat):Int)) H n=some (.tuple ⟨[.pointer (some ⟨g,0,none⟩),.agg ⟨ints (fq ls np)⟩,.int .i64 0]⟩,H',n)∧∀ b,b≠b5→H'.get b=H.get b)) →
      ((∃ p,i≤p∧p<np∧¬ (ls.getD p 0=-1∨nq js ks nj np nk p (ls.getD p 0)))∧∃ H',C65_1 (cal (l+4)) k m b1 (.pointer (some ⟨b5,0,none⟩)) (.pointer (some ⟨g,0,none⟩)) (.pointer (some ⟨b9,0,none⟩)) (.agg ⟨ints (fq ls np)⟩) (.int .i64 i) H n=some (.tuple ⟨[.pointer none,.agg ⟨ints (List.replicate 8 0)⟩,.int .i64 2]⟩,H',n)∧∀ b,b≠b5→H'.get b=H.get b) ∨
      ((∀ p,i≤p→p<np→ls.getD p 0=-1∨nq js ks nj np nk p (ls.getD p 0))∧∃ H',C65_1 (cal (l+4)) k m b1 (.pointer (some ⟨b5,0,none⟩)) (.pointer (some ⟨g,0,none⟩)) (.pointer (some ⟨b9,0,none⟩)) (.agg ⟨ints (fq ls np)⟩) (.int .i64 i) H n=some (.tuple ⟨[.pointer (some ⟨g,0,none⟩),.agg ⟨ints (fq ls np)⟩,.int .i64 0]⟩,H',n)∧∀ b,b≠b5→H'.get b=H.get b):=by
    intro b1 m i hi ih
    unfold C65_1 B65_1
    rw[ak cY,jw]
    have l8:=BY hls hnp
    by_cases hlt:i<8
    · rw[if_pos (by omega),index121 l8 hlt,aj,ak iJ]
      have hI:I64 ((i:Int)+1):=by unfold I64; omega
      have hcast:((i:Int)+1)=((i+1:Nat):Int):=by omega
      have go:(i<np→ls.getD i 0=-1∨nq js ks nj np nk i (ls.getD i 0))→∀ r:Res,r=b1 (.pointer (some ⟨b5,0,none⟩)) (.pointer (some ⟨g,0,none⟩)) (.pointer (some ⟨b9,0,none⟩)) (.agg ⟨ints (fq ls np)⟩) (.int .i64 ((i+1:Nat):Int)) H n →
          ((∃ p,i≤p∧p<np∧¬ (ls.getD p 0=-1∨nq js ks nj np nk p (ls.getD p 0)))∧∃ H',r=some (.tuple ⟨[.pointer none,.agg ⟨ints (List.replicate 8 0)⟩,.int .i64 2]⟩,H',n)∧∀ b,b≠b5→H'.get b=H.get b) ∨
          ((∀ p,i≤p→p<np→ls.getD p 0=-1∨nq js ks nj np nk p (ls.getD p 0))∧∃ H',r=some (.tuple ⟨[.pointer (some ⟨g,0,none⟩),.agg ⟨ints (fq ls np)⟩,.int .i64 0]⟩,H',n)∧∀ b,b≠b5→H'.get b=H.get b):=by
        rintro hok r rfl
        rcases ih hlt with⟨⟨p,q1,q2,q3⟩,q4⟩ | ⟨q1,q2⟩
        · exact .inl ⟨⟨p,by omega,q2,q3⟩,q4⟩
        · refine .inr ⟨fun p p1 p2=>?_,q2⟩
          rcases Nat.eq_or_lt_of_le p1 with z | z
          · subst z; exact hok p2
          · exact q1 p z p2
      cases c1:decide ((fq ls np).getD i 0=-1) with
      | true=>
        simp only[Bool.not_true,eX,iX,dk,aj,ej,ak (bV hI),hcast]
        refine go (fun hp=>.inl ?_) _ rfl
        rw[← KZ hls hp]; exact of_decide_eq_true c1
      | false=>
        have hip:i<np:=by
          rcases Nat.lt_or_ge i np with q | q
          · exact q
          · exact absurd (SK hls q hlt) (of_decide_eq_false c1)
        have hv:=KZ hls hip
        obtain⟨r,hr,hc⟩:=takes_call (ρ:=Value × Hp × Nat) l (n:=n) hf hs hz hn hks hnp hnk hip ((fq ls np).getD i 0)
        rw[hv] at hr c1
        simp only[Bool.not_false,dX,hc]
        cases r with
        | true=>
          simp only[dX,qY,aj,dQ,ej,ak (bV hI),hcast]
          exact go (fun _=>.inr (hr.1 rfl)) _ rfl
        | false=>
          simp only[dX,uW,aj,dQ,fw]
          have hst:=mV (vs:=ints (List.replicate 8 0)) h5 (by rw[hw5]; rfl) (fx _)
          rw[qak,aj,ox rQ rfl,hst,aj,res65 _ _ (dw (t:=121) (s:=8) (L:=ints (List.replicate 8 0)) (e:=121) (vec:=none) (by rw[Tr.get_set,if_pos rfl]) yX rQ rfl)]
          refine .inl ⟨⟨i,Nat.le_refl _,hip,?_⟩,_,rfl,fun b hb=>by rw[Tr.get_set,if_neg hb]⟩
          rintro(h | h)
          · exact of_decide_eq_false c1 h
          · exact absurd (hr.2 h) (by simp)
    · have lens:(ints (fq ls np)).length=8:=by rw[bq,l8]
      have hst:=mV (vs:=ints (fq ls np)) h5 (by rw[hw5,lens]) (fx _)
      rw[if_neg (by omega),aJ,aj,dw h9 yX rQ lens,aj,ox rQ lens,hst,aj,
        res65 _ _ (dw (t:=121) (s:=8) (L:=ints (fq ls np)) (e:=121) (vec:=none) (by rw[Tr.get_set,if_pos rfl]) yX rQ lens)]
      exact .inr ⟨fun p p1 p2=>by omega,_,rfl,fun b hb=>by rw[Tr.get_set,if_neg hb]⟩
  intro m
  induction m with
  | zero=>intro i h1 h2; exact body _ 0 i h1 (fun h=>by omega)
  | succ m ih=>intro i h1 h2; exact body _ (m+1) i h1 (fun h=>ih (i+1) (by omega) (by omega))
end Go.Proofs.Ytekajfobmnedjaa.spec
end
section
namespace Go.Proofs.Ytekajfobmnedjaa.spec
open Go Go.Ev Go.Proofs.Ytekajfobmnedjaa.nestFits Go.Proofs.Ytekajfobmnedjaa.G
set_option maxRecDepth 100000
variable {ρ:Type}
open Classical in
noncomputable def eJ (np nj nk nl:Nat) (ps js ks ls:List Int):Int:=if gW np nj nk ps js ks≠0 then gW np nj nk ps js ks else if nl=np∧rV js ks ls nj np nk then 0 else 2
def NotLaid (r:Res) (n:Nat) (H:Hp) (e:Int):Prop:=∃ H' n',r=some (.tuple ⟨[.pointer none,.agg ⟨ints (List.replicate 8 0)⟩,.int .i64 e]⟩,H',n')∧n≤n'∧Keep n H H'
def IsLaid (r:Res) (n:Nat) (H:Hp) (v:Value) (np nj nk:Nat) (js ks ls:List Int):Prop:=∃(g:Nat) (x y z:Value) (f:Nat→Value) (H':Hp) (n':Nat),r=some (.tuple ⟨[.pointer (some ⟨g,0,none⟩),.agg ⟨ints (fq ls np)⟩,.int .i64 0]⟩,H',n')∧n≤n'∧Keep n H H'∧n≤g∧g<n' ∧
  v=.agg ⟨[x,y,z]⟩∧bQ H' g 859 117 f∧SiteF f x y z js nj∧∀ p kd,p<np→kd<nk→vQ f js ks nj np p kd
theorem Ek (l:Nat) {np nj nk nl:Nat} {ps js ks ls:List Int} {H:Hp} {n:Nat} {v w:Value} (hg:gY H n v np nj nk ps js ks) (hw:ListR H n w nl ls) (hnp:np≤1000) (hnj:nj≤1000) (hnk:nk≤1000) :
    (eJ np nj nk nl ps js ks ls≠0→NotLaid (VW (cal (l+6)) KK v w H n) n H (eJ np nj nk nl ps js ks ls)) ∧
    (eJ np nj nk nl ps js ks ls=0→IsLaid (VW (cal (l+6)) KK v w H n) n H v np nj nk js ks ls∧nl=np∧rV js ks ls nj np nk∧gW np nj nk ps js ks=0):=by
  have hg0:=hg
  obtain⟨x,y,z,rfl,h1,h2,h3⟩:=hg
  unfold VW B65_0
  generalize hS:S65_1 (cal (l+6)) KK KK=S
  rw[dq,iV DJ]
  simp only[bj,ptr]
  have hk:Keep n H ((H.set n (some (.cells [x,y,z] 35 false none))).set (n+1) (some (.cells (ints (List.replicate 8 0)) 121 false none))):=((Keep.refl n H).set (Nat.le_refl _) _).set (by omega) _
  have hb:aX ((H.set n (some (.cells [x,y,z] 35 false none))).set (n+1) (some (.cells (ints (List.replicate 8 0)) 121 false none))) n 0 [x,y,z]:=aX.new.set (by omega)
  have hr:((H.set n (some (.cells [x,y,z] 35 false none))).set (n+1) (some (.cells (ints (List.replicate 8 0)) 121 false none))).get (n+1)=some (.cells (ints (List.replicate 8 0)) 121 false none):=by rw[Tr.get_set,if_pos rfl]
  generalize (H.set n (some (.cells [x,y,z] 35 false none))).set (n+1) (some (.cells (ints (List.replicate 8 0)) 121 false none))=H1 at hk hb hr ⊢
  have lg:az P H1 35 ⟨n,0,none⟩=some (.agg ⟨[x,y,z]⟩):=cw (o:=0) (k:=0) hb NV sz35 (by simp) (by simp [h1.hole.1,h2.hole.1,h3.hole.1])
  obtain⟨o1,o2⟩:=open_spec l (hg0.keep hk (show n≤n+1+1 by omega)) hnp hnj hnk
  rw[aJ,aj,lg,aj,open_call]
  have bad:∀(H2:Hp) (n2:Nat) (e:Int),n+1+1≤n2→Keep (n+1+1) H1 H2→NotLaid (aq (bJ P 121 (.pointer (some ⟨n+1,0,none⟩)) (.agg ⟨ints (List.replicate 8 0)⟩) H2) fun H_p=>
      aq (resV P (Tr.set (Tr.set (Tr.set Tr.nil 6 (some (.int .i64 e))) 5 (some (.pointer (some ⟨n+1,0,none⟩)))) 4 (some (Value.pointer none))) H_p cQ) fun v_r=>some (oneV v_r,H_p,n2)) n H e:=by
    intro H2 n2 e hn hk2
    have hr2:=(hk2 (n+1) (by omega)).trans hr
    rw[ox rQ rfl,mV hr2 rfl (fx _),aj,res65 _ _ (dw (t:=121) (s:=8) (L:=ints (List.replicate 8 0)) (e:=121) (vec:=none) (by rw[Tr.get_set,if_pos rfl]) yX rQ rfl)]
    exact⟨_,_,rfl,by omega,(hk.trans hk2 (by omega)).set (by omega) _⟩
  by_cases he:gW np nj nk ps js ks=0
  · have good:=Iw he
    obtain⟨g,x',y',z',f,H2,n2,e1,e2,e3,e4,e5,e6,e7,e8,e9⟩:=o2 he
    simp only[Value.agg.injEq,Array.mk.injEq,List.cons.injEq,and_true] at e6
    obtain⟨rfl,rfl,rfl⟩:=e6
    have t0:tupV (.tuple ⟨[.pointer (some ⟨g,0,none⟩),.int .i64 0]⟩) 0=some (.pointer (some ⟨g,0,none⟩)):=rfl
    have t1:tupV (.tuple ⟨[.pointer (some ⟨g,0,none⟩),.int .i64 0]⟩) 1=some (.int .i64 0):=rfl
    have d0:decide ((0:Int)=0)=true:=rfl
    have lx:az P H2 31 ⟨g,0+0+0,none⟩=some x:=by
      have:=e7.load (P:=P) (k:=0) Cz (by omega)
      rw[e8.x] at this; exact this
    have hlx:lenV P 31 x=some (.int .i64 np):=h1.len_eq Ck
    have hlz:lenV P 33 z=some (.int .i64 nk):=h3.len_eq und33
    have kk:Keep n H H2:=hk.trans e3 (by omega)
    have hw2:=hw.keep kk (show n≤n2 by omega)
    rw[e1,aj,t0,aj,t1,aj,ak iJ,d0,Bool.not_true,ej,hw.len_eq,aj,mj,aj,pk,aj,rz,aj,aJ,aj,lx,aj,hlx,aj,ak iJ]
    unfold eJ
    rw[if_neg (fun h=>h he)]
    by_cases hl:nl=np
    · subst hl
      have dl:decide ((nl:Int)=(nl:Int))=true:=decide_eq_true rfl
      have l8:=BY hw.1 good.np8
      have lens:(ints (fq ls nl)).length=8:=by rw[bq,l8]
      rw[dl,Bool.not_true,ej,bare_call (l+5)]
      obtain⟨H3,k1,k2,k3⟩:=uX (P:=P) (ρ:=Value × Hp × Nat) (H:=H2) (n:=n2) (L:=ints (List.replicate 8 (-1))) DJ rfl rQ rfl (fx _)
      rw[k3,slice121,aj]
      have hw3:=hw2.keep k1 (show n2≤n2+1 by omega)
      unfold stK
      rw[copy_row hw3 (by have:=good.np1; omega) good.np8 rfl k2,aj]
      dsimp only [bare]
      have hrow:(H3.set n2 (some (.cells (ints (ls++(List.replicate 8 (-1)).drop nl)) 121 false none))).get n2=some (.cells (ints (fq ls nl)) 121 false none):=by
        rw[Tr.get_set,if_pos rfl,List.drop_replicate]; rfl
      have kk3:Keep n2 H2 (H3.set n2 (some (.cells (ints (ls++(List.replicate 8 (-1)).drop nl)) 121 false none))):=k1.set (Nat.le_refl _) _
      generalize H3.set n2 (some (.cells (ints (ls++(List.replicate 8 (-1)).drop nl)) 121 false none))=H4 at hrow kk3 ⊢
      rw[aJ,aj,dw hrow yX rQ lens,aj,← hS]
      have hf4:=e7.keep kk3 e5
      have hr4:H4.get (n+1)=some (.cells (ints (List.replicate 8 0)) 121 false none):=by rw[kk3 _ (by omega),e3 _ (by omega)]; exact hr
      rcases openLaid_loop (l+2) KK (n:=n2+1) hf4 e8 hlz e9 good.kinds good.np8 good.nk3 hw.1 ⟨_,hr4,rfl⟩ hrow (by omega) KK 0 (by omega) (by unfold KK; omega) with⟨⟨p,q1,q2,q3⟩,H5,q4,q5⟩ | ⟨q1,H5,q4,q5⟩
      · have hno:¬ (nl=nl∧rV js ks ls nj nl nk):=fun h=>q3 (h.2 p q2)
        rw[if_neg hno]
        refine⟨fun _=>⟨H5,n2+1,q4,by omega,fun b hb=>?_⟩,fun h=>by omega⟩
        rw[q5 b (by omega),kk3 b (by omega),kk b hb]
      · have hyes:nl=nl∧rV js ks ls nj nl nk:=⟨rfl,fun p hp=>q1 p (Nat.zero_le _) hp⟩
        rw[if_pos hyes]
        refine⟨fun h=>absurd rfl h,fun _=>⟨⟨g,x,y,z,f,H5,n2+1,q4,by omega,fun b hb=>?_,by omega,by omega,rfl,?_,e8,e9⟩,rfl,hyes.2,he⟩⟩
        · rw[q5 b (by omega),kk3 b (by omega),kk b hb]
        · obtain⟨c,a1,a2,a3⟩:=hf4
          exact⟨c,by rw[q5 g (by omega)]; exact a1,a2,a3⟩
    · have dl:decide ((nl:Int)=(np:Int))=false:=decide_eq_false (by omega)
      have hno:¬ (nl=np∧rV js ks ls nj np nk):=fun h=>hl h.1
      rw[dl,Bool.not_false,fw,if_neg hno,qak,aj]
      exact⟨fun _=>bad H2 n2 2 e2 e3,fun h=>by omega⟩
  · obtain⟨H2,n2,e1,e2,e3⟩:=o1 he
    have t0:tupV (.tuple ⟨[.pointer none,.int .i64 (gW np nj nk ps js ks)]⟩) 0=some (.pointer none):=rfl
    have t1:tupV (.tuple ⟨[.pointer none,.int .i64 (gW np nj nk ps js ks)]⟩) 1=some (.int .i64 (gW np nj nk ps js ks)):=rfl
    unfold eJ
    rw[if_pos he,e1,aj,t0,aj,t1,aj,ak iJ,decide_eq_false he,Bool.not_false,fw,qak,aj]
    exact⟨fun _=>bad H2 n2 _ e2 e3,fun h=>absurd h he⟩
theorem flat65:fX P 65=false:=by kernel_rfl
theorem call65 (l:Nat) (a b:Value) (H:Hp) (n:Nat):(cal (l+1)).call 65 [a,b] H n=VW (cal l) KK a b H n:=by kernel_rfl
theorem EJ (l:Nat) (v w:Value) (H:Hp) (n:Nat) (k:Value→Hp→Nat→Option ρ):aY P (cal (l+7)) 65 [v,w] H n k=aq (VW (cal (l+6)) KK v w H n) fun r=>k r.1 r.2.1 r.2.2:=by
  unfold aY
  rw[flat65,call65]
  rfl
end Go.Proofs.Ytekajfobmnedjaa.spec
end
section
namespace Go.Ev
open Go
variable {P:Program} {ρ:Type}
theorem splice_one {a:Int}:∀ {X:List Int} {o:Nat},o<X.length→fZ (ints X) o [.int .i64 a]=some (ints (X.set o a))
  | [],_,h=>by simp at h
  | x::X,0,_=>by
    unfold fZ
    cases X <;> simp [ints,fZ.over]
  | x::X,o+1,h=>by
    have ih:=splice_one (a:=a) (X:=X) (o:=o) (by simpa using h)
    unfold fZ
    simp only[ints,List.map_cons,List.set_cons_succ] at ih ⊢
    rw[ih]
theorem MJ {a:Int} {X:List Int} {o g:Nat} {H:Hp} {e:TypeId} {vec:Option Nat} (h:H.get g=some (.cells (ints X) e false vec)) (ho:o<X.length) :
    storeN H ⟨g,o,none⟩ [.int .i64 a]=some (H.set g (some (.cells (ints (X.set o a)) e false vec))):=by
  unfold storeN
  simp only[h,splice_one ho]
  rfl
end Go.Ev
end
section
namespace Go.Proofs.Ytekajfobmnedjaa.spec
open Go Go.Ev Go.Proofs.Ytekajfobmnedjaa.nestFits Go.Proofs.Ytekajfobmnedjaa.G
set_option maxRecDepth 100000
variable {ρ:Type}
theorem res103 (H:Hp) (b:Nat):resV P (Tr.set Tr.nil 4 (some (.pointer (some ⟨b,0,none⟩)))) H gz=(match az P H 111 ⟨b,0,none⟩ with
  | none=>none
  | some v=>some [v]):=by kernel_rfl
def Mild (X:List Int):Prop:=∀ k:Nat,-1000000≤X.getD k 0∧X.getD k 0≤1000000
structure PlusTo (X Y Z:List Int) (i:Nat):Prop where
  len:Z.length=16
  below:∀ p,p<i→Z.getD (p * 2) 0=X.getD (p * 2) 0+Y.getD (p * 2) 0∧Z.getD (p * 2+1) 0=X.getD (p * 2+1) 0+Y.getD (p * 2+1) 0
  above:∀ p,i≤p→Z.getD (p * 2) 0=X.getD (p * 2) 0∧Z.getD (p * 2+1) 0=X.getD (p * 2+1) 0
theorem DQ {H:Hp} {g o:Nat} {X:List Int} {e:TypeId} {ro:Bool} {vec:Option Nat} (h:H.get g=some (.cells (ints X) e ro vec)) (ho:o<X.length):az P H 3 ⟨g,o,none⟩=some (.int .i64 (X.getD o 0)):=by
  have:=bv (P:=P) (t:=3) (o:=0) (k:=o) (dj h) agg3 (kz (getD_some ho))
  rw[Nat.zero_add] at this
  exact this
theorem plus_loop (c:Cal) (k:Nat) {X Y:List Int} (hY:Y.length=16) (mX:Mild X) (mY:Mild Y) (b2 b4:Nat) (hne:b2≠b4):∀(m i:Nat) (Z:List Int) (H:Hp) (n:Nat),b2<n→b4<n→H.get b2=some (.cells (ints Z) 111 false none)→(∃ w,H.get b4=some (.cells w 111 false none)∧w.length=16)→PlusTo X Y Z i→i≤8→8-i≤m →
    ∃ Z' H' n',TV c k m (.pointer (some ⟨b2,0,none⟩)) (.pointer (some ⟨b4,0,none⟩)) (.agg ⟨ints Y⟩) (.int .i64 i) H n=some (.agg ⟨ints Z'⟩,H',n')∧PlusTo X Y Z' 8:=by
  have body:∀(b1:Value→Value→Value→Value→Hp→Nat→Res) (m i:Nat) (Z:List Int) (H:Hp) (n:Nat),b2<n→b4<n→H.get b2=some (.cells (ints Z) 111 false none)→(∃ w,H.get b4=some (.cells w 111 false none)∧w.length=16)→PlusTo X Y Z i→i≤8 →
      (∀ Z2 H2 n2,b2<n2→b4<n2→H2.get b2=some (.cells (ints Z2) 111 false none)→(∃ w,H2.get b4=some (.cells w 111 false none)∧w.length=16)→PlusTo X Y Z2 (i+1)→i<8 →
        ∃ Z' H' n',b1 (.pointer (some ⟨b2,0,none⟩)) (.pointer (some ⟨b4,0,none⟩)) (.agg ⟨ints Y⟩) (.int .i64 ((i+1:Nat):Int)) H2 n2=some (.agg ⟨ints Z'⟩,H',n')∧PlusTo X Y Z' 8) →
      ∃ Z' H' n',TQ c k m b1 (.pointer (some ⟨b2,0,none⟩)) (.pointer (some ⟨b4,0,none⟩)) (.agg ⟨ints Y⟩) (.int .i64 i) H n=some (.agg ⟨ints Z'⟩,H',n')∧PlusTo X Y Z' 8:=by
    intro b1 m i Z H n hb2 hb4 hg2 hg4 hZ hi ih
    have lZ:=hZ.len
    unfold TQ B103_1
    rw[ak cY,jw]
    by_cases hlt:i<8
    · obtain⟨g1,g2⟩:=FX (xs:=Y) (i:=i) (s:=2) (by omega)
      obtain⟨H1,k1,k2,k3⟩:=uX (P:=P) (ρ:=Value × Hp × Nat) (H:=H) (n:=n) zero53 rfl sz53 g1 g2
      rw[if_pos (by omega),index_row hY hlt,aj,k3]
      rw[KW (show i * 2+2≤Y.length by omega)] at k2
      have q2:H1.get b2=some (.cells (ints Z) 111 false none):=(k1 b2 hb2).trans hg2
      obtain⟨a1,a2⟩:=hZ.above i (Nat.le_refl _)
      have z0:az P H1 3 ⟨b2,0+i * 2+0,none⟩=some (.int .i64 (X.getD (i * 2) 0)):=by rw[show 0+i * 2+0=i * 2 by omega,DQ q2 (by omega),a1]
      have y0:az P H1 3 ⟨n,0+0,none⟩=some (.int .i64 (Y.getD (i * 2) 0)):=bv (dj k2) agg3 rfl
      obtain⟨m1,m2⟩:=mX (i * 2)
      obtain⟨m3,m4⟩:=mY (i * 2)
      obtain⟨m5,m6⟩:=mX (i * 2+1)
      obtain⟨m7,m8⟩:=mY (i * 2+1)
      have hI0:I64 (X.getD (i * 2) 0+Y.getD (i * 2) 0):=by unfold I64; omega
      have hI1:I64 (X.getD (i * 2+1) 0+Y.getD (i * 2+1) 0):=by unfold I64; omega
      have hI:I64 ((i:Int)+1):=by unfold I64; omega
      have hcast:((i:Int)+1)=((i+1:Nat):Int):=by omega
      have s0:=MJ (a:=X.getD (i * 2) 0+Y.getD (i * 2) 0) (o:=0+i * 2+0) q2 (by omega)
      have q3:(H1.set b2 (some (.cells (ints (Z.set (0+i * 2+0) (X.getD (i * 2) 0+Y.getD (i * 2) 0))) 111 false none))).get b2=some (.cells (ints (Z.set (0+i * 2+0) (X.getD (i * 2) 0+Y.getD (i * 2) 0))) 111 false none):=by rw[Tr.get_set,if_pos rfl]
      have q4:∀ b,b≠b2→(H1.set b2 (some (.cells (ints (Z.set (0+i * 2+0) (X.getD (i * 2) 0+Y.getD (i * 2) 0))) 111 false none))).get b=H1.get b:=fun b hb=>by rw[Tr.get_set,if_neg hb]
      generalize H1.set b2 (some (.cells (ints (Z.set (0+i * 2+0) (X.getD (i * 2) 0+Y.getD (i * 2) 0))) 111 false none))=H2 at s0 q3 q4
      have z1:az P H2 3 ⟨b2,0+i * 2+1,none⟩=some (.int .i64 (X.getD (i * 2+1) 0)):=by
        rw[DQ q3 (by simp; omega),List.getD_eq_getElem?_getD,List.getElem?_set,if_neg (by omega),← List.getD_eq_getElem?_getD,show 0+i * 2+1=i * 2+1 by omega,a2]
      have y1:az P H2 3 ⟨n,0+1,none⟩=some (.int .i64 (Y.getD (i * 2+1) 0)):=bv (dj ((q4 n (by omega)).trans k2)) agg3 rfl
      have s1:=MJ (a:=X.getD (i * 2+1) 0+Y.getD (i * 2+1) 0) (o:=0+i * 2+1) q3 (by simp; omega)
      simp only[QW b2 0 hlt,aj,OZ,OK,aJ,z0,y0,ak (bV hI0),wX sz3 (show oY (.int .i64 _)=true from rfl),s0,z1,y1,ak (bV hI1),s1,ak (bV hI),hcast]
      obtain⟨w,w1,w2⟩:=hg4
      refine ih _ _ (n+1) (by omega) (by omega) (by rw[Tr.get_set,if_pos rfl]) ⟨w,by rw[Tr.get_set,if_neg (Ne.symm hne),q4 _ (Ne.symm hne),k1 b4 hb4]; exact w1,w2⟩ ?_ hlt
      have e0:0+i * 2+0=i * 2:=by omega
      have e1:0+i * 2+1=i * 2+1:=by omega
      rw[e0,e1]
      refine⟨by rw[Dz]; exact lZ,fun p hp=>?_,fun p hp=>?_⟩
      · obtain⟨t1,t2⟩:=Dk (q:=p) lZ hlt (X.getD (i * 2) 0+Y.getD (i * 2) 0) (X.getD (i * 2+1) 0+Y.getD (i * 2+1) 0)
        rw[t1,t2]
        by_cases e:p=i
        · subst e; rw[if_pos rfl,if_pos rfl]; exact⟨rfl,rfl⟩
        · rw[if_neg e,if_neg e]; exact hZ.below p (by omega)
      · obtain⟨t1,t2⟩:=Dk (q:=p) lZ hlt (X.getD (i * 2) 0+Y.getD (i * 2) 0) (X.getD (i * 2+1) 0+Y.getD (i * 2+1) 0)
        rw[t1,t2,if_neg (by omega),if_neg (by omega)]
        exact hZ.above p (by omega)
    · have hi':i=8:=by omega
      subst hi'
      obtain⟨w,w1,w2⟩:=hg4
      have lens:(ints Z).length=16:=by rw[bq,lZ]
      rw[if_neg (by omega),aJ,aj,dw hg2 yV AQ lens,aj,ox AQ lens,mV w1 (by rw[lens,w2]) (fx _),aj,res103,
        dw (t:=111) (s:=16) (L:=ints Z) (e:=111) (vec:=none) (by rw[Tr.get_set,if_pos rfl]) yV AQ lens]
      exact⟨Z,_,_,rfl,hZ⟩
  intro m
  induction m with
  | zero=>
    intro i Z H n h1 h2 h3 h4 h5 h6 h7
    exact body _ 0 i Z H n h1 h2 h3 h4 h5 h6 (fun _ _ _ _ _ _ _ _ h=>by omega)
  | succ m ih=>
    intro i Z H n h1 h2 h3 h4 h5 h6 h7
    exact body _ (m+1) i Z H n h1 h2 h3 h4 h5 h6 (fun Z2 H2 n2 q1 q2 q3 q4 q5 q6=>ih (i+1) Z2 H2 n2 q1 q2 q3 q4 q5 (by omega) (by omega))
theorem plus_spec (c:Cal) {X Y:List Int} (hX:X.length=16) (hY:Y.length=16) (mX:Mild X) (mY:Mild Y) :
    ∃ Z H' n',TW c KK (.agg ⟨ints X⟩) (.agg ⟨ints Y⟩) .nil 0=some (.agg ⟨ints Z⟩,H',n')∧PlusTo X Y Z 8:=by
  unfold TW B103_0
  generalize hS:TV c KK KK=S
  rw[dq,dq,iV WX]
  simp only[bj,ptr]
  have g0:((((Tr.nil:Hp).set 0 (some (.cells (ints X) 111 false none))).set (0+1) (some (.cells (ints Y) 111 false none))).set (0+1+1) (some (.cells (ints (List.replicate 16 0)) 111 false none))).get 0=some (.cells (ints X) 111 false none):=by rw[Tr.get_set,if_neg (by omega),Tr.get_set,if_neg (by omega),Tr.get_set,if_pos rfl]
  have g1:((((Tr.nil:Hp).set 0 (some (.cells (ints X) 111 false none))).set (0+1) (some (.cells (ints Y) 111 false none))).set (0+1+1) (some (.cells (ints (List.replicate 16 0)) 111 false none))).get (0+1)=some (.cells (ints Y) 111 false none):=by rw[Tr.get_set,if_neg (by omega),Tr.get_set,if_pos rfl]
  have g2:((((Tr.nil:Hp).set 0 (some (.cells (ints X) 111 false none))).set (0+1) (some (.cells (ints Y) 111 false none))).set (0+1+1) (some (.cells (ints (List.replicate 16 0)) 111 false none))).get (0+1+1)=some (.cells (ints (List.replicate 16 0)) 111 false none):=by rw[Tr.get_set,if_pos rfl]
  generalize (((Tr.nil:Hp).set 0 (some (.cells (ints X) 111 false none))).set (0+1) (some (.cells (ints Y) 111 false none))).set (0+1+1) (some (.cells (ints (List.replicate 16 0)) 111 false none))=H1 at g0 g1 g2 ⊢
  rw[aJ,aj,dw g1 yV AQ (by rw[bq,hY]),aj,← hS]
  exact plus_loop c KK hY mX mY 0 (0+1+1) (by omega) KK 0 X H1 (0+1+1+1) (by omega) (by omega) g0 ⟨_,g2,rfl⟩ ⟨hX,fun p hp=>by omega,fun p _=>⟨rfl,rfl⟩⟩ (by omega) (by unfold KK; omega)
theorem flat103:fX P 103=true:=by kernel_rfl
theorem call103 (l:Nat) (a b:Value) (H:Hp) (n:Nat):(cal (l+1)).call 103 [a,b] H n=TW (cal l) KK a b H n:=
  (show(cal (l+1)).call 103 [a,b] H n=GK ent103 (cal l) [a,b] H n by kernel_rfl).trans (Hj ..)
theorem plus_call (l:Nat) {X Y:List Int} (hX:X.length=16) (hY:Y.length=16) (mX:Mild X) (mY:Mild Y):∃ Z,PlusTo X Y Z 8∧∀(H:Hp) (n:Nat) (k:Value→Hp→Nat→Option ρ),
    aY P (cal (l+1)) 103 [.agg ⟨ints X⟩,.agg ⟨ints Y⟩] H n k=k (.agg ⟨ints Z⟩) H n:=by
  obtain⟨Z,H',n',e,hZ⟩:=plus_spec (cal l) hX hY mX mY
  refine⟨Z,hZ,fun H n k=>fY flat103 ?_ ((call103 ..).trans e) ?_⟩
  · simp only[cx,bz,lW,wZ,Bool.and_self]
  · simp only[bz,lW,wZ]
end Go.Proofs.Ytekajfobmnedjaa.spec
end
section
namespace Go.Proofs.Ytekajfobmnedjaa.spec
open Go Go.Ev Go.Proofs.Ytekajfobmnedjaa.nestFits Go.Proofs.Ytekajfobmnedjaa.G
set_option maxRecDepth 100000
variable {ρ:Type}
noncomputable def code66:Code:=cV 66
noncomputable def yY:List ResultVar:=dW 66
noncomputable def rW:Code:=asgOf (cL (cR (cL (cR (cR code66)))))
noncomputable def rX:Code:=bodOf (cL (cR (cL (cR (cR code66)))))
noncomputable def K66 (c:Cal) (k:Nat):KC (Value × Hp × Nat):=ay P c (aw P c k) none 66 (cR (cR (cR code66))) .leaf (av P yY) X0 (av P yY)
noncomputable def T66 (v0 v1 v3 v4 v5 v9 v10:Value):Tm:=((((((((Tr.nil:Tm).set 0 (some v0)).set 1 (some v1)).set 3 (some v3)).set 4 (some v4)).set 5 (some v5)).set 8 (some v0)).set 9 (some v9)).set 10 (some v10)
theorem pre66 (c:Cal) (k:Nat) (v0 v1:Value) (H:Hp) (n:Nat):aK P c A (k+1) 66 [v0,v1] H n =
    (boxK 121 v1 H n fun v3 H n=>ez P 111 H n fun v4 H n=>ez P 111 H n fun v5 H n=>aq (aW v3) fun a=>aq (az P H 121 a) fun v9=>aY P c 74 [v0,v9] H n fun v10 H n=>
      HJ P c none 66 v10 #[11,12] rW rX (K66 c k) (upX 0 (K66 c k) X0) (av P yY) (T66 v0 v1 v3 v4 v5 v9 v10) H n []):=by
  rw[bW (fn:=Go.Proofs.Try.f66) (c:=code66) (rs:=yY) (by kernel_rfl) (by kernel_rfl) (by kernel_rfl) (by kernel_rfl)]
  kernel_rfl
theorem post66 (c:Cal) (k:Nat) (v0 v1 v3 v4 v5 v9 v10:Value) (H:Hp) (n:Nat) (D:List Nat):K66 c k (T66 v0 v1 v3 v4 v5 v9 v10) H n D =
    (aq (aW v5) fun a=>aq (az P H 111 a) fun v17=>aq (bJ P 111 v4 v17 H) fun H=>getK (Bq H D) fun H=>aq (resV P ((Tr.nil:Tm).set 4 (some v4)) H yY) fun vs=>some (oneV vs,H,n)):=by
  kernel_rfl
theorem call66 (l:Nat) (a b:Value) (H:Hp) (n:Nat):(cal (l+1)).call 66 [a,b] H n=aK P (cal l) A (KK+1) 66 [a,b] H n:=by kernel_rfl
theorem asg66_eq (l lp:Nat) (v0 v1 v3 v4 v5 v9 v10 p q:Value) (H:Hp) (n:Nat) :
    (cal (l+1)).body lp 66 rW { T:=((T66 v0 v1 v3 v4 v5 v9 v10).set 11 (some p)).set 12 (some q),H,n,D:=[] } =
      (ez P 113 H n fun v7 H n=>aq (bJ P 113 v7 q H) fun H=>some (.norm,{ T:=(((T66 v0 v1 v3 v4 v5 v9 v10).set 11 (some p)).set 12 (some q)).set 7 (some v7),H,n,D:=[] })):=by kernel_rfl
theorem bod66_eq (l lp:Nat) (v0 v1 v3 v4 v5 v9 v10 p q v7:Value) (H:Hp) (n:Nat) :
    (cal (l+1)).body lp 66 rX { T:=(((T66 v0 v1 v3 v4 v5 v9 v10).set 11 (some p)).set 12 (some q)).set 7 (some v7),H,n,D:=[] } =
      (aq (aW v5) fun a=>aq (az P H 111 a) fun v13=>aq (ax P 113 v7 2) fun v14=>aq (aW v14) fun a=>aq (az P H 111 a) fun v15=>aY P (cal l) 103 [v13,v15] H n fun v16 H n=>aq (bJ P 111 v5 v16 H) fun H=>
        some (.norm,{ T:=(((((((T66 v0 v1 v3 v4 v5 v9 v10).set 11 (some p)).set 12 (some q)).set 7 (some v7)).set 13 (some v13)).set 14 (some v14)).set 15 (some v15)).set 16 (some v16),H,n,D:=[] })):=by kernel_rfl
theorem res66 (H:Hp) (b:Nat):resV P ((Tr.nil:Tm).set 4 (some (.pointer (some ⟨b,0,none⟩)))) H yY=(match az P H 111 ⟨b,0,none⟩ with
  | none=>none
  | some v=>some [v]):=by kernel_rfl
theorem ntm66:ntm P 66=18:=by kernel_rfl
theorem flat74:fX P 74=false:=by kernel_rfl
theorem call74 (l:Nat) (a b:Value) (H:Hp) (n:Nat):(cal (l+1)).call 74 [a,b] H n=C74_0 (cal l) KK a b H n:=by kernel_rfl
theorem call104 (l:Nat) (a b c:Value) (H:Hp) (n:Nat):(cal (l+1)).call 104 [a,b,c] H n=Fq (cal l) KK a b c H n:=by kernel_rfl
theorem placed_call (l:Nat) (g:Nat) {L:List Int} (H:Hp) (n:Nat) (k:Value→Hp→Nat→Option ρ):aY P (cal (l+1)) 74 [.pointer (some ⟨g,0,none⟩),.agg ⟨ints L⟩] H n k =
    k (.func (.func 104) ⟨[]⟩ ⟨[.pointer (some ⟨n+1,0,none⟩),.pointer (some ⟨n,0,none⟩)]⟩) ((H.set n (some (.cells [.pointer (some ⟨g,0,none⟩)] 105 false none))).set (n+1) (some (.cells (ints L) 121 false none))) (n+2):=by
  unfold aY
  rw[flat74,call74]
  rfl
theorem range66 (c:Cal) (a b:Value) (K:KC (Value × Hp × Nat)) (X:XC (Value × Hp × Nat)) (Kr:KC (Value × Hp × Nat)) (T:Tm) (H:Hp) (n:Nat) :
    HJ P c none 66 (.func (.func 104) ⟨[]⟩ ⟨[a,b]⟩) #[11,12] rW rX K X Kr T H n [] =
      aY P c 104 [.func (.yield (n+1)) #[] #[],a,b] ((H.set n (some .deferred)).set (n+1) (some (.loop .ready none 66 T (ntm P 66) #[11,12] rW rX n))) (n+2) fun _ H n'=>fin K X Kr (qv (n+1) { T:=T,H,n:=n',D:=[n] }):=rfl
theorem yield66 (L:Nat) {H:Hp} {n lb b5 d:Nat} {v0 v1 v3 v4 v9 v10 q0:Value} {X S B:List Int} {y:Int} (hl:H.get lb=some (.loop .ready none 66 (T66 v0 v1 v3 v4 (.pointer (some ⟨b5,0,none⟩)) v9 v10) (ntm P 66) #[11,12] rW rX d))
    (h5:H.get b5=some (.cells (ints X) 111 false none)) (hX:X.length=16) (hS:S.length=16) (hB:B.length=16) (mX:Mild X) (mB:Mild B) (n5:b5≠lb) (hln:lb<n) (h5n:b5<n) :
    ∃ Z H',PlusTo X B Z 8∧(∀ k:Value→Hp→Nat→Option ρ,lK P (cal (L+2)) (.func (.yield lb) #[] #[]) [q0,.agg ⟨ints (bK y S B)⟩] H n k=k (.bool true) H' (n+1))∧H'.get lb=H.get lb ∧
      H'.get b5=some (.cells (ints Z) 111 false none)∧∀ b,b<n→b≠lb→b≠b5→H'.get b=H.get b:=by
  obtain⟨Z,hZ,hplus⟩:=plus_call (ρ:=Ex × St) L hX hB mX mB
  have lens:(ints (bK y S B)).length=33:=by rw[bq,gZ hS hB]
  have hpar:zY (T66 v0 v1 v3 v4 (.pointer (some ⟨b5,0,none⟩)) v9 v10) (ntm P 66) (#[11,12]:Array Tmp).toList [q0,.agg ⟨ints (bK y S B)⟩]=some (((T66 v0 v1 v3 v4 (.pointer (some ⟨b5,0,none⟩)) v9 v10).set 11 (some q0)).set 12 (some (.agg ⟨ints (bK y S B)⟩))):=by
    rw[ntm66]; rfl
  generalize hT:T66 v0 v1 v3 v4 (.pointer (some ⟨b5,0,none⟩)) v9 v10=T at hl hpar
  obtain⟨H1,k1,k2,k3⟩:=uX (P:=P) (ρ:=Ex × St) (H:=H) (n:=n) (L:=ints (bK y S B)) WV (by show(ints (bK 0 oV oV)).length=33; rw[bq,gZ tq tq]) JQ lens (fx _)
  have hasg:(cal (L+2)).body lb 66 rW { T:=(T.set 11 (some q0)).set 12 (some (.agg ⟨ints (bK y S B)⟩)),H,n,D:=[] }=some (.norm,{ T:=((T.set 11 (some q0)).set 12 (some (.agg ⟨ints (bK y S B)⟩))).set 7 (some (.pointer (some ⟨n,0,none⟩))),H:=H1,n:=n+1,D:=[] }):=by
    rw[← hT,asg66_eq,k3]
  have hl1:=(k1 lb hln).trans hl
  have h51:=(k1 b5 h5n).trans h5
  have hrdy:Bw H1 lb=true:=by unfold Bw; rw[hl1]
  have hpen:qy H1 lb=none:=by unfold qy; rw[hl1]
  have hbusy:oX H1 lb .busy none=some (H1.set lb (some (.loop .busy none 66 T (ntm P 66) #[11,12] rW rX d))):=by unfold oX; rw[hl1]
  have g5:(H1.set lb (some (.loop .busy none 66 T (ntm P 66) #[11,12] rW rX d))).get b5=some (.cells (ints X) 111 false none):=by rw[Tr.get_set,if_neg n5]; exact h51
  have g7:(H1.set lb (some (.loop .busy none 66 T (ntm P 66) #[11,12] rW rX d))).get n=some (.cells (ints (bK y S B)) 113 false none):=by rw[Tr.get_set,if_neg (by omega)]; exact k2
  have gl:(H1.set lb (some (.loop .busy none 66 T (ntm P 66) #[11,12] rW rX d))).get lb=some (.loop .busy none 66 T (ntm P 66) #[11,12] rW rX d):=by rw[Tr.get_set,if_pos rfl]
  have ho:∀ b,b≠lb→(H1.set lb (some (.loop .busy none 66 T (ntm P 66) #[11,12] rW rX d))).get b=H1.get b:=fun b hb=>by rw[Tr.get_set,if_neg hb]
  generalize H1.set lb (some (.loop .busy none 66 T (ntm P 66) #[11,12] rW rX d))=H2 at hbusy g5 g7 gl ho
  have hnb:az P H2 111 ⟨n,0+17,none⟩=some (.agg ⟨ints B⟩):=by
    have:=cw (P:=P) (k:=17) (dj g7) yV AQ (by rw[lens]; omega) (dJ _)
    have e:((ints (bK y S B)).drop 17).take 16=ints B:=by
      rw[Ak]
      congr 1
      unfold bK
      rw[List.drop_succ_cons,List.drop_left' hS,← hB,List.take_length]
    rw[e] at this
    exact this
  have lX:(ints X).length=16:=by rw[bq,hX]
  have lZ:(ints Z).length=16:=by rw[bq,hZ.len]
  have hst:=mV (vs:=ints Z) g5 (by rw[lX,lZ]) (fx _)
  have q5:(H2.set b5 (some (.cells (ints Z) 111 false none))).get b5=some (.cells (ints Z) 111 false none):=by rw[Tr.get_set,if_pos rfl]
  have ql:(H2.set b5 (some (.cells (ints Z) 111 false none))).get lb=some (.loop .busy none 66 T (ntm P 66) #[11,12] rW rX d):=by rw[Tr.get_set,if_neg (Ne.symm n5)]; exact gl
  have qo:∀ b,b≠lb→b≠b5→(H2.set b5 (some (.cells (ints Z) 111 false none))).get b=H1.get b:=fun b hb hb5=>by rw[Tr.get_set,if_neg hb5]; exact ho b hb
  have hbody:∃ T',(cal (L+2)).body lb 66 rX { T:=((T.set 11 (some q0)).set 12 (some (.agg ⟨ints (bK y S B)⟩))).set 7 (some (.pointer (some ⟨n,0,none⟩))),H:=H2,n:=n+1,D:=[] }=some (.norm,{ T:=T',H:=H2.set b5 (some (.cells (ints Z) 111 false none)),n:=n+1,D:=[] }):=by
    rw[← hT,bod66_eq (L+1),aJ,aj,dw g5 yV AQ lX,aj,fa113_2,aj,aJ,aj,hnb,aj,hplus,ox AQ lZ,hst,aj]
    exact⟨_,rfl⟩
  generalize H2.set b5 (some (.cells (ints Z) 111 false none))=H3 at q5 ql qo hbody
  obtain⟨T',hbody⟩:=hbody
  have hend:oX H3 lb .ready none=some (H3.set lb (some (.loop .ready none 66 T (ntm P 66) #[11,12] rW rX d))):=by unfold oX; rw[ql]
  refine⟨Z,H3.set lb (some (.loop .ready none 66 T (ntm P 66) #[11,12] rW rX d)),hZ,fun k=>?_,by rw[Tr.get_set,if_pos rfl,hl],by rw[Tr.get_set,if_neg n5]; exact q5,fun b hbn hb hb5=>by rw[Tr.get_set,if_neg hb,qo b hb hb5]; exact k1 b hbn⟩
  show stK (tK (fun | some l=>(cal (L+2)).body l | none=>fun _ _ _=>none) P lb [q0,.agg ⟨ints (bK y S B)⟩] (bare H n)) k=_
  have hy:tK (fun | some l=>(cal (L+2)).body l | none=>fun _ _ _=>none) P lb [q0,.agg ⟨ints (bK y S B)⟩] (bare H n)=some (.bool true,{ bare H n with H:=H3.set lb (some (.loop .ready none 66 T (ntm P 66) #[11,12] rW rX d)),n:=n+1 }):=by
    unfold tK
    have hb:Nat.beq (ntm P 66) (ntm P 66)=true:=Nat.beq_refl _
    have hx:Oy .norm=some none:=rfl
    simp only[bare,hl,hb,hpar,hasg,hrdy,hpen,hbusy,hbody,hx,Option.isNone_none,if_true,hend]
  rw[hy]
  rfl
end Go.Proofs.Ytekajfobmnedjaa.spec
end
section
namespace Go.Proofs.Ytekajfobmnedjaa.spec
open Go Go.Ev Go.Proofs.Ytekajfobmnedjaa.nestFits Go.Proofs.Ytekajfobmnedjaa.G
set_option maxRecDepth 100000
variable {ρ:Type}
def tw (L:List Int) (np nk:Nat):Prop:=∀ i,i<8→L.getD i 0=-1∨(i<np∧∃ kd:Nat,kd<nk∧L.getD i 0=kd)
theorem iter104_loop (c:Cal) (k:Nat) (yv:Value) (sb g np nj nk:Nat) (js ks L:List Int) (hL:L.length=8) (hK:tw L np nk) (hnp:np≤8) (hnk:nk≤3) (Inv:Nat→Hp→Nat→Prop)
    (hR:∀ i H n,Inv i H n→az P H 105 ⟨sb,0,none⟩=some (.pointer (some ⟨g,0,none⟩))∧∀ p kd,p<np→kd<nk→∃ B,kZ (ks.getD (kd * 5) 0) (shP js ks nj np p kd) B 8∧az P H 113 ⟨g,0+67+p * 99+kd * 33,none⟩=some (.agg ⟨ints (bK (ks.getD (kd * 5) 0) (shP js ks nj np p kd) B)⟩))
    (hY:∀(i:Nat) (H:Hp) (n kd:Nat) (B:List Int),Inv i H n→i<np→kd<nk→L.getD i 0=kd→kZ (ks.getD (kd * 5) 0) (shP js ks nj np i kd) B 8 →
      ∃ H' n',(∀ k:Value→Hp→Nat→Res,lK P c yv [.int .i64 i,.agg ⟨ints (bK (ks.getD (kd * 5) 0) (shP js ks nj np i kd) B)⟩] H n k=k (.bool true) H' n')∧Inv (i+1) H' n')
    (hSkip:∀(i:Nat) (H:Hp) (n:Nat),Inv i H n→L.getD i 0=-1→Inv (i+1) H n):∀(m i:Nat) (H:Hp) (n:Nat),Inv i H n→i≤8→8-i≤m →
    ∃ H' n',S104_1 c k m yv (.pointer (some ⟨sb,0,none⟩)) (.agg ⟨ints L⟩) (.int .i64 i) H n=some (.tuple ⟨[]⟩,H',n')∧Inv 8 H' n':=by
  have body:∀(b1:Value→Value→Value→Value→Hp→Nat→Res) (m i:Nat) (H:Hp) (n:Nat),Inv i H n→i≤8 →
      (∀ H' n',Inv (i+1) H' n'→i<8→∃ H2 n2,b1 yv (.pointer (some ⟨sb,0,none⟩)) (.agg ⟨ints L⟩) (.int .i64 ((i+1:Nat):Int)) H' n'=some (.tuple ⟨[]⟩,H2,n2)∧Inv 8 H2 n2) →
      ∃ H' n',TX c k m b1 yv (.pointer (some ⟨sb,0,none⟩)) (.agg ⟨ints L⟩) (.int .i64 i) H n=some (.tuple ⟨[]⟩,H',n')∧Inv 8 H' n':=by
    intro b1 m i H n hI hi ih
    unfold TX B104_1
    rw[ak cY,jw]
    by_cases hlt:i<8
    · have hI1:I64 ((i:Int)+1):=by unfold I64; omega
      have hcast:((i:Int)+1)=((i+1:Nat):Int):=by omega
      rw[if_pos (by omega),index121 hL hlt,aj,ak iJ]
      rcases hK i hlt with h | ⟨hip,kd,hkd,h⟩
      · have hd:decide (L.getD i 0=-1)=true:=decide_eq_true h
        simp only[hd,Bool.not_true,eX,iX,dk,aj,ej,ak (bV hI1),hcast]
        exact ih H n (hSkip i H n hI h) hlt
      · have hd:decide (L.getD i 0=-1)=false:=decide_eq_false (by omega)
        obtain⟨r1,r2⟩:=hR _ _ _ hI
        obtain⟨B,hB,hn⟩:=r2 i kd hip hkd
        obtain⟨H1,n1,e1,e2⟩:=hY i H n kd B hI hip hkd h hB
        rw[hd,h]
        simp only[Bool.not_false,dX,aJ,aj,r1,mj,WW,at115 _ _ hlt,at114 _ _ (show kd<3 by omega),hn,e1,qY,dQ,ej,ak (bV hI1),hcast]
        exact ih H1 n1 e2 hlt
    · rw[if_neg (by omega)]
      have hi':i=8:=by omega
      subst hi'
      exact⟨H,n,rfl,hI⟩
  intro m
  induction m with
  | zero=>intro i H n h1 h2 h3; exact body _ 0 i H n h1 h2 (fun _ _ _ h=>by omega)
  | succ m ih=>intro i H n h1 h2 h3; exact body _ (m+1) i H n h1 h2 (fun H' n' q1 q2=>ih (i+1) H' n' q1 (by omega) (by omega))
noncomputable def bsum (js ks L:List Int) (nj np i e q:Nat):Int:=aZ (fun p=>if L.getD p 0=-1 then 0 else ext (ks.getD ((L.getD p 0).toNat * 5) 0) (shP js ks nj np p (L.getD p 0).toNat) e q) i
theorem qav {y:Int} {S:List Int} (hS:nX S) (hy:0≤y∧y≤1000) {e q:Nat} (he:e<2):-10000≤ext y S e q∧ext y S e q≤10000:=by
  obtain⟨a1,a2⟩:=hS (q * 2+e)
  obtain⟨b1,b2⟩:=hS (q * 2+(1-e))
  obtain⟨c1,c2⟩:=total_range hS (1-e)
  unfold ext
  match e,he with
  | 0,_=>unfold lim; simp only at *; omega
  | 1,_=>unfold lim; simp only at *; omega
theorem sumTo_mild {f:Nat→Int} {c:Int} (hc:0≤c):∀ {i:Nat},(∀ k,k<i→-c≤f k∧f k≤c)→-(c * i)≤aZ f i∧aZ f i≤c * i
  | 0,_=>by simp [aZ]
  | i+1,h=>by
    obtain⟨h1,h2⟩:=sumTo_mild hc (i:=i) (fun k hk=>h k (by omega))
    obtain⟨g1,g2⟩:=h i (by omega)
    simp only[aZ]
    have:c * ((i+1:Nat):Int)=c * i+c:=by rw[Int.natCast_add,Int.mul_add]; simp
    omega
theorem MQ {js ks L:List Int} {nj np nk i e q:Nat} (hks:pJ ks nk) (hnp:np≤8) (hK:tw L np nk) (hi:i≤8) (he:e<2):-1000000≤bsum js ks L nj np i e q∧bsum js ks L nj np i e q≤1000000:=by
  have h:=sumTo_mild (f:=fun p=>if L.getD p 0=-1 then 0 else ext (ks.getD ((L.getD p 0).toNat * 5) 0) (shP js ks nj np p (L.getD p 0).toNat) e q) (c:=10000) (by omega) (i:=i) (fun p hp=>by
    split
    · omega
    · rename_i hne
      rcases hK p (by omega) with h | ⟨hip,kd,hkd,h⟩
      · exact absurd h hne
      · rw[h,Int.toNat_natCast]
        obtain⟨y1,_,_⟩:=hks kd hkd
        exact qav (AW hks hkd hnp hip) y1 he)
  unfold bsum
  omega
def Vv (X:List Int) (js ks L:List Int) (nj np i:Nat):Prop:=X.length=16∧∀ q,q<8→X.getD (q * 2) 0=bsum js ks L nj np i 0 q∧X.getD (q * 2+1) 0=bsum js ks L nj np i 1 q
theorem row_mild {X:List Int} (hl:X.length=16) (h:∀ q,q<8→(-1000000≤X.getD (q * 2) 0∧X.getD (q * 2) 0≤1000000)∧(-1000000≤X.getD (q * 2+1) 0∧X.getD (q * 2+1) 0≤1000000)):Mild X:=by
  intro k
  by_cases hk:k<16
  · obtain⟨h1,h2⟩:=h (k / 2) (by omega)
    rcases Nat.mod_two_eq_zero_or_one k with z | z
    · rw[show k / 2 * 2=k by omega] at h1; exact h1
    · rw[show k / 2 * 2+1=k by omega] at h2; exact h2
  · rw[List.getD_eq_getElem?_getD,List.getElem?_eq_none (by omega)]
    simp
theorem bounds_spec (l:Nat) {H:Hp} {n g np nj nk:Nat} {f:Nat→Value} {js ks L:List Int} (hgn:g<n) (hf:bQ H g 859 117 f) (hn:∀ p kd,p<np→kd<nk→vQ f js ks nj np p kd) (hks:pJ ks nk) (hnp:np≤8) (hnk:nk≤3) (hL:L.length=8) (hK:tw L np nk) :
    ∃ X,Vv X js ks L nj np 8∧Ret ((cal (l+4)).call 66 [.pointer (some ⟨g,0,none⟩),.agg ⟨ints L⟩] H n) n H (.agg ⟨ints X⟩):=by
  have lens:(ints L).length=8:=by rw[bq,hL]
  rw[call66,pre66]
  simp only[dq,iV WX,bj,ptr]
  generalize hH0:((H.set n (some (.cells (ints L) 121 false none))).set (n+1) (some (.cells (ints (List.replicate 16 0)) 111 false none))).set (n+1+1) (some (.cells (ints (List.replicate 16 0)) 111 false none))=H0
  have k0:Keep n H H0:=fun b hb=>by rw[← hH0,Tr.get_set,if_neg (by omega),Tr.get_set,if_neg (by omega),Tr.get_set,if_neg (by omega)]
  have p0:H0.get n=some (.cells (ints L) 121 false none):=by rw[← hH0,Tr.get_set,if_neg (by omega),Tr.get_set,if_neg (by omega),Tr.get_set,if_pos rfl]
  have p1:H0.get (n+1)=some (.cells (ints (List.replicate 16 0)) 111 false none):=by rw[← hH0,Tr.get_set,if_neg (by omega),Tr.get_set,if_pos rfl]
  have p2:H0.get (n+1+1)=some (.cells (ints (List.replicate 16 0)) 111 false none):=by rw[← hH0,Tr.get_set,if_pos rfl]
  clear hH0
  rw[aJ,aj,dw p0 yX rQ lens,aj,placed_call (l+2),range66]
  generalize hH1:(H0.set (n+1+1+1) (some (.cells [.pointer (some ⟨g,0,none⟩)] 105 false none))).set (n+1+1+1+1) (some (.cells (ints L) 121 false none))=H1
  have k1:∀ b,b<n+1+1+1→H1.get b=H0.get b:=fun b hb=>by rw[← hH1,Tr.get_set,if_neg (by omega),Tr.get_set,if_neg (by omega)]
  have q3:H1.get (n+1+1+1)=some (.cells [.pointer (some ⟨g,0,none⟩)] 105 false none):=by rw[← hH1,Tr.get_set,if_neg (by omega),Tr.get_set,if_pos rfl]
  have q4:H1.get (n+1+1+1+1)=some (.cells (ints L) 121 false none):=by rw[← hH1,Tr.get_set,if_pos rfl]
  clear hH1
  generalize hT:T66 (.pointer (some ⟨g,0,none⟩)) (.agg ⟨ints L⟩) (.pointer (some ⟨n,0,none⟩)) (.pointer (some ⟨n+1,0,none⟩)) (.pointer (some ⟨n+1+1,0,none⟩)) (.agg ⟨ints L⟩) (.func (.func 104) ⟨[]⟩ ⟨[.pointer (some ⟨n+1+1+1+1,0,none⟩),.pointer (some ⟨n+1+1+1,0,none⟩)]⟩)=T
  have hc104:∀(a b c:Value) (H:Hp) (n:Nat) (k:Value→Hp→Nat→Res),bz b=false→aY P (cal (l+3)) 104 [a,b,c] H n k=aq (Fq (cal (l+2)) KK a b c H n) fun r=>k r.1 r.2.1 r.2.2:=by
    intro a b c H n k hb
    unfold aY
    have:(fX P 104 && cx [a,b,c])=false:=by simp [cx,hb]
    rw[this,call104]
  rw[hc104 _ _ _ _ _ _ rfl]
  generalize hH2:(H1.set (n+1+1+1+2) (some .deferred)).set (n+1+1+1+2+1) (some (.loop .ready none 66 T (ntm P 66) #[11,12] rW rX (n+1+1+1+2)))=H2
  have r1:∀ b,b<n+1+1+1+2→H2.get b=H1.get b:=fun b hb=>by rw[← hH2,Tr.get_set,if_neg (by omega),Tr.get_set,if_neg (by omega)]
  have r2:H2.get (n+1+1+1+2)=some .deferred:=by rw[← hH2,Tr.get_set,if_neg (by omega),Tr.get_set,if_pos rfl]
  have r3:H2.get (n+1+1+1+2+1)=some (.loop .ready none 66 T (ntm P 66) #[11,12] rW rX (n+1+1+1+2)):=by rw[← hH2,Tr.get_set,if_pos rfl]
  clear hH2
  have hg2:H2.get g=H.get g:=by rw[r1 _ (by omega),k1 _ (by omega),k0 _ hgn]
  have l104:az P H2 121 ⟨n+1+1+1+1,0,none⟩=some (.agg ⟨ints L⟩):=dw (by rw[r1 _ (by omega)]; exact q4) yX rQ lens
  have base:Vv (List.replicate 16 0) js ks L nj np 0:=⟨rfl,fun q hq=>by
    have z:∀ k:Nat,(List.replicate 16 (0:Int)).getD k 0=0:=by
      intro k
      rw[List.getD_eq_getElem?_getD,List.getElem?_replicate]
      split <;> rfl
    rw[z,z]; exact⟨rfl,rfl⟩⟩
  obtain⟨H3,n3,e3,i0,i1,X,i2,i3,i4⟩:=iter104_loop (cal (l+2)) KK (.func (.yield (n+1+1+1+2+1)) #[] #[]) (n+1+1+1) g np nj nk js ks L hL hK hnp hnk
    (fun i Hc nc=>n+1+1+1+2+2≤nc∧Hc.get (n+1+1+1+2+1)=some (.loop .ready none 66 T (ntm P 66) #[11,12] rW rX (n+1+1+1+2))∧∃ X,Hc.get (n+1+1)=some (.cells (ints X) 111 false none)∧(i≤8→Vv X js ks L nj np i)∧∀ b,b<n+1+1+1+2+2→b≠n+1+1+1+2+1→b≠n+1+1→Hc.get b=H2.get b)
    (fun i Hc nc ⟨_,_,X,_,_,h⟩=>by
      refine⟨bw (o:=0) (k:=0) (dj (by rw[h _ (by omega) (by omega) (by omega),r1 _ (by omega)]; exact q3)) agg105 rfl rfl rfl,fun p kd hp hkd=>?_⟩
      have cg:bQ Hc g 859 117 f:=by
        obtain⟨c,e1,e2,e3⟩:=hf
        exact⟨c,by rw[h _ (by omega) (by omega) (by omega),hg2]; exact e1,e2,e3⟩
      exact Mk cg (hn p kd hp hkd) (by omega) (by omega))
    (fun i Hc nc kd B ⟨h1,h2,X,h3,h4,h5⟩ hip hkd hLi hB=>by
      have hX:=h4 (by omega)
      obtain⟨y1,_,_⟩:=hks kd hkd
      have hsb:=AW (js:=js) (nj:=nj) hks hkd hnp hip
      have mX:Mild X:=row_mild hX.1 fun q hq=>by
        obtain⟨a,b⟩:=hX.2 q hq
        rw[a,b]; exact⟨MQ hks hnp hK (by omega) (by omega),MQ hks hnp hK (by omega) (by omega)⟩
      have mB:Mild B:=row_mild hB.1 fun q hq=>by
        obtain⟨a,b⟩:=hB.2 q hq
        have e0:=qav hsb y1 (e:=0) (q:=q) (by omega)
        have e1:=qav hsb y1 (e:=1) (q:=q) (by omega)
        rw[a,b]; omega
      rw[← hT] at h2
      obtain⟨Z,H',z1,z2,z3,z4,z5⟩:=yield66 (ρ:=Value × Hp × Nat) l (n:=nc) (q0:=.int .i64 i) (y:=ks.getD (kd * 5) 0) h2 h3 hX.1 (WY ..) hB.1 mX mB (by omega) (by omega) (by omega)
      refine⟨H',nc+1,z2,by omega,by rw[z3,h2,hT],Z,z4,fun _=>⟨z1.len,fun q hq=>?_⟩,fun b hb hb1 hb2=>(z5 b (by omega) hb1 hb2).trans (h5 b hb hb1 hb2)⟩
      obtain⟨a1,a2⟩:=z1.below q hq
      obtain⟨b1,b2⟩:=hX.2 q hq
      obtain⟨c1,c2⟩:=hB.2 q hq
      have hne:¬ L.getD i 0=-1:=by omega
      rw[a1,a2,b1,b2,c1,c2]
      unfold bsum
      simp only[aZ]
      rw[if_neg hne,if_neg hne,hLi,Int.toNat_natCast]
      exact⟨rfl,rfl⟩)
    (fun i Hc nc ⟨h1,h2,X,h3,h4,h5⟩ hLi=>⟨h1,h2,X,h3,fun h8=>⟨(h4 (by omega)).1,fun q hq=>by
      obtain⟨b1,b2⟩:=(h4 (by omega)).2 q hq
      rw[b1,b2]
      unfold bsum
      simp only[aZ]
      rw[if_pos hLi,if_pos hLi]
      omega⟩,h5⟩)
    KK 0 H2 (n+1+1+1+2+2) ⟨Nat.le_refl _,r3,List.replicate 16 0,by rw[r1 _ (by omega),k1 _ (by omega)]; exact p2,fun _=>base,fun _ _ _ _=>rfl⟩ (by omega) (by unfold KK; omega)
  have e3':Fq (cal (l+2)) KK (.func (.yield (n+1+1+1+2+1)) #[] #[]) (.pointer (some ⟨n+1+1+1+1,0,none⟩)) (.pointer (some ⟨n+1+1+1,0,none⟩)) H2 (n+1+1+1+2+2)=some (.tuple ⟨[]⟩,H3,n3):=by
    unfold Fq B104_0
    rw[aJ,aj,l104,aj]
    exact e3
  rw[e3',aj]
  have hout:qv (n+1+1+1+2+1) { T:=T,H:=H3,n:=n3,D:=[n+1+1+1+2] }=some (.norm,{ T:=T,H:=H3.set (n+1+1+1+2+1) (some (.loop .exhausted none 66 T (ntm P 66) #[11,12] rW rX (n+1+1+1+2))),n:=n3,D:=[n+1+1+1+2] }):=by
    unfold qv
    simp only[i1]
  rw[hout]
  show ∃ X,Vv X js ks L nj np 8∧Ret (K66 (cal (l+3)) KK T (H3.set (n+1+1+1+2+1) (some (.loop .exhausted none 66 T (ntm P 66) #[11,12] rW rX (n+1+1+1+2)))) n3 [n+1+1+1+2]) n H (.agg ⟨ints X⟩)
  have hRow:=i3 (by omega)
  have lX:(ints X).length=16:=by rw[bq,hRow.1]
  generalize hH4:H3.set (n+1+1+1+2+1) (some (.loop .exhausted none 66 T (ntm P 66) #[11,12] rW rX (n+1+1+1+2)))=H4
  have o1:∀ b,b<n+1+1+1+2+2→b≠n+1+1+1+2+1→b≠n+1+1→H4.get b=H2.get b:=fun b hb hb1 hb2=>by rw[← hH4,Tr.get_set,if_neg hb1]; exact i4 b hb hb1 hb2
  have o2:H4.get (n+1+1)=some (.cells (ints X) 111 false none):=by rw[← hH4,Tr.get_set,if_neg (by omega)]; exact i2
  clear hH4 hout
  have o3:H4.get (n+1)=some (.cells (ints (List.replicate 16 0)) 111 false none):=by rw[o1 _ (by omega) (by omega) (by omega),r1 _ (by omega),k1 _ (by omega)]; exact p1
  have o4:H4.get (n+1+1+1+2)=some .deferred:=by rw[o1 _ (by omega) (by omega) (by omega)]; exact r2
  refine⟨X,hRow,?_⟩
  rw[← hT,post66,aJ,aj,dw o2 yV AQ lX,aj,ox AQ lX,mV o3 (by rw[lX]; rfl) (fx _),aj]
  generalize hH6:H4.set (n+1) (some (.cells (ints X) 111 false none))=H6
  have u1:H6.get (n+1)=some (.cells (ints X) 111 false none):=by rw[← hH6,Tr.get_set,if_pos rfl]
  have u2:∀ b,b≠n+1→H6.get b=H4.get b:=fun b hb=>by rw[← hH6,Tr.get_set,if_neg hb]
  clear hH6
  have ht:Bq H6 [n+1+1+1+2]=some (H6.set (n+1+1+1+2) none):=by
    have:H6.get (n+1+1+1+2)=some .deferred:=by rw[u2 _ (by omega)]; exact o4
    unfold Bq
    simp only[this]
    rfl
  rw[ht]
  show Ret (aq (resV P ((Tr.nil:Tm).set 4 (some (.pointer (some ⟨n+1,0,none⟩)))) (H6.set (n+1+1+1+2) none) yY) fun vs=>some (oneV vs,H6.set (n+1+1+1+2) none,n3)) n H _
  rw[res66,dw (t:=111) (s:=16) (L:=ints X) (e:=111) (vec:=none) (by rw[Tr.get_set,if_neg (by omega)]; exact u1) yV AQ lX]
  refine⟨_,_,rfl,by omega,fun b hb=>?_⟩
  rw[Tr.get_set,if_neg (by omega),u2 _ (by omega),o1 _ (by omega) (by omega) (by omega),r1 _ (by omega),k1 _ (by omega),k0 _ hb]
end Go.Proofs.Ytekajfobmnedjaa.spec
end
section
namespace Go.Proofs.Ytekajfobmnedjaa.spec
open Go Go.Ev Go.Proofs.Ytekajfobmnedjaa.nestFits Go.Proofs.Ytekajfobmnedjaa.G
set_option maxRecDepth 100000
variable {ρ:Type}
theorem Ix {js ks ls:List Int} {nj np nk:Nat} (hl:ls.length=np) (hok:rV js ks ls nj np nk):tw (fq ls np) np nk:=by
  intro i hi
  rcases Nat.lt_or_ge i np with h | h
  · rw[KZ hl h]
    rcases hok i h with q | ⟨q1,q2,_⟩
    · exact .inl q
    · exact .inr ⟨h,(ls.getD i 0).toNat,by omega,by omega⟩
  · exact .inl (SK hl h hi)
theorem limit_loads {H:Hp} {n g np p:Nat} {f:Nat→Value} {x y z:Value} {ps js X:List Int} {nj b:Nat} (hf:bQ H g 859 117 f) (hs:SiteF f x y z js nj) (hx:dv H n 2 x np ps) (hp:p<np) (hnp:np≤8) (hb:H.get b=some (.cells (ints X) 111 false none)) (hX:X.length=16) :
    az P H 31 ⟨g,0+0+0,none⟩=some x∧az P H 3 ⟨b,0+p * 2+0,none⟩=some (.int .i64 (X.getD (p * 2) 0))∧az P H 3 ⟨b,0+p * 2+1,none⟩=some (.int .i64 (X.getD (p * 2+1) 0)) ∧
      ∃ rb o,aQ P 31 x (.int .i64 p)=some (.pointer (some ⟨rb,o,none⟩))∧az P H 3 ⟨rb,o+0,none⟩=some (.int .i64 (ps.getD (p * 2) 0))∧az P H 3 ⟨rb,o+1,none⟩=some (.int .i64 (ps.getD (p * 2+1) 0)):=by
  refine⟨?_,?_,?_,?_⟩
  · have:=hf.load (P:=P) (k:=0) Cz (by omega)
    rw[hs.x] at this; exact this
  · rw[show 0+p * 2+0=p * 2 by omega]; exact DQ hb (by omega)
  · rw[show 0+p * 2+1=p * 2+1 by omega]; exact DQ hb (by omega)
  · obtain⟨rb,o,hix,_,hc⟩:=hx.at_ Ck sz90 hp
    have hl:p * 2+2≤ps.length:=by rw[hx.1]; omega
    refine⟨rb,o+p * 2,hix,?_,?_⟩
    · rw[show o+p * 2+0=o+(p * 2) by omega]; exact bv hc agg3 (kz (getD_some (by omega)))
    · rw[show o+p * 2+1=o+(p * 2+1) by omega]; exact bv hc agg3 (kz (getD_some (by omega)))
theorem call68 (l:Nat) (a b c:Value) (H:Hp) (n:Nat):(cal (l+1)).call 68 [a,b,c] H n=C68_0 (cal l) KK a b c H n:=by kernel_rfl
theorem call69 (l:Nat) (a b c:Value) (H:Hp) (n:Nat):(cal (l+1)).call 69 [a,b,c] H n=C69_0 (cal l) KK a b c H n:=by kernel_rfl
theorem missed_call (l:Nat) {H:Hp} {n g np p:Nat} {f:Nat→Value} {x y z:Value} {ps js X:List Int} {nj:Nat} (hgn:g<n) (hf:bQ H g 859 117 f) (hs:SiteF f x y z js nj) (hx:dv H n 2 x np ps) (hp:p<np) (hnp:np≤8) (hX:X.length=16) :
    ∃ H' n',(∀ k:Value→Hp→Nat→Option ρ,aY P (cal (l+1)) 68 [.pointer (some ⟨g,0,none⟩),.agg ⟨ints X⟩,.int .i64 p] H n k=k (.bool (decide (X.getD (p * 2) 0<ps.getD (p * 2) 0))) H' n')∧n≤n'∧Keep n H H':=by
  have hk:Keep n H (H.set n (some (.cells (ints X) 111 false none))):=(Keep.refl n H).set (Nat.le_refl _) _
  have hb:(H.set n (some (.cells (ints X) 111 false none))).get n=some (.cells (ints X) 111 false none):=by rw[Tr.get_set,if_pos rfl]
  refine⟨H.set n (some (.cells (ints X) 111 false none)),n+1,fun k=>?_,by omega,hk⟩
  unfold aY
  have:(fX P 68 && cx [.pointer (some ⟨g,0,none⟩),.agg ⟨ints X⟩,.int .i64 p])=false:=by rw[Bool.and_eq_false_iff]; exact .inr rfl
  rw[this,call68]
  unfold C68_0 B68_0
  rw[dq]
  simp only[bj,ptr]
  obtain⟨a1,a2,a3,rb,o,a4,a5,a6⟩:=limit_loads (hf.keep hk hgn) hs ((hx.keep hk (Nat.le_refl _)).up (show n≤n+1 by omega)) hp hnp hb hX
  rw[QW n 0 (by omega),aj,OZ,aj,aJ,aj,a2,aj,mj,aj,pk,aj,rz,aj,aJ,aj,a1,aj,a4,aj,fa90_0,aj,aJ,aj,a5,aj,ak cY]
  rfl
theorem over_call (l:Nat) {H:Hp} {n g np p:Nat} {f:Nat→Value} {x y z:Value} {ps js X:List Int} {nj:Nat} (hgn:g<n) (hf:bQ H g 859 117 f) (hs:SiteF f x y z js nj) (hx:dv H n 2 x np ps) (hp:p<np) (hnp:np≤8) (hX:X.length=16) :
    ∃ H' n',(∀ k:Value→Hp→Nat→Option ρ,aY P (cal (l+1)) 69 [.pointer (some ⟨g,0,none⟩),.agg ⟨ints X⟩,.int .i64 p] H n k=k (.bool (decide (ps.getD (p * 2+1) 0<X.getD (p * 2+1) 0))) H' n')∧n≤n'∧Keep n H H':=by
  have hk:Keep n H (H.set n (some (.cells (ints X) 111 false none))):=(Keep.refl n H).set (Nat.le_refl _) _
  have hb:(H.set n (some (.cells (ints X) 111 false none))).get n=some (.cells (ints X) 111 false none):=by rw[Tr.get_set,if_pos rfl]
  refine⟨H.set n (some (.cells (ints X) 111 false none)),n+1,fun k=>?_,by omega,hk⟩
  unfold aY
  have:(fX P 69 && cx [.pointer (some ⟨g,0,none⟩),.agg ⟨ints X⟩,.int .i64 p])=false:=by rw[Bool.and_eq_false_iff]; exact .inr rfl
  rw[this,call69]
  unfold C69_0 B69_0
  rw[dq]
  simp only[bj,ptr]
  obtain⟨a1,a2,a3,rb,o,a4,a5,a6⟩:=limit_loads (hf.keep hk hgn) hs ((hx.keep hk (Nat.le_refl _)).up (show n≤n+1 by omega)) hp hnp hb hX
  rw[QW n 0 (by omega),aj,OK,aj,aJ,aj,a3,aj,mj,aj,pk,aj,rz,aj,aJ,aj,a1,aj,a4,aj,fa90_1,aj,aJ,aj,a6,aj,ak xy]
  rfl
theorem sl45:gJ P 45=some 53:=by kernel_rfl
theorem by53:tZ P 53=some 16:=by kernel_rfl
theorem und45:P.underlying 45=some (.slice 53):=by kernel_rfl
theorem row45_0:Cx P 45 0 []=some ([],53):=by kernel_rfl
theorem eq45 (p q:Operand) (b l c:Nat):binV P .eql 45 p q (.slice (some ⟨b,0,none⟩) l c) (.slice none 0 0)=some (.bool false):=by kernel_rfl
theorem slice111 (b:Nat) {np:Nat} (h:np≤8):yx P 111 (.pointer (some ⟨b,0,none⟩)) none (some (.int .i64 np))=some (.slice (some ⟨b,0,none⟩) np 8):=by
  show yx P 111 (.pointer (some ⟨b,0,none⟩)) none (some (.int .i64 (.ofNat np)))=_
  unfold yx
  simp [und111,sz53,Hq,hiV,loV,Yv,h,capV,addA]
theorem clone_spec (c:Cal) (k:Nat) {H:Hp} {n b np:Nat} {X:List Int} (hb:H.get b=some (.cells (ints X) 111 false none)) (hbn:b<n) (hX:X.length=16) (h1:0<np) (h8:np≤8) :
    ∃ H' n' cp,C67_0 c k (.slice (some ⟨b,0,none⟩) np 8) H n=some (.slice (some ⟨n+1,0,none⟩) np cp,H',n')∧n+1<n'∧Keep n H H'∧aX H' (n+1) 0 (ints (X.take (np * 2))):=by
  unfold C67_0 B67_0
  rw[ak (eq45 ..),ej]
  unfold rowK
  rw[row45_0,aj]
  unfold newK
  dsimp only
  have hk:Keep n H (H.set n (some (.cells [] 53 false none))):=(Keep.refl n H).set (Nat.le_refl _) _
  have hg:(H.set n (some (.cells [] 53 false none))).get n=some (.cells [] 53 false none):=by rw[Tr.get_set,if_pos rfl]
  have hb1:=(hk b hbn).trans hb
  generalize H.set n (some (.cells [] 53 false none))=H1 at hk hg hb1 ⊢
  have hold:qj H1 ⟨n,0,none⟩ (0 * 2)=some []:=xj (L:=[]) (dj hg) rfl rfl
  have hbig:oQ (0+np) 2 16=true:=by unfold oQ; simp; omega
  have hbz:Nat.beq (bj (.agg #[.int .i64 0,.int .i64 0])).length 2=true:=rfl
  have c0:Nat.blt 0 capV=true:=by decide +kernel
  have c1:Nat.ble np 0=false:=by
    cases np with
    | zero=>omega
    | succ m=>rfl
  have hsrc:lY H1 2 (.slice (some ⟨b,0,none⟩) np 8)=some (ints (X.take (np * 2)),np):=by
    have:=Qw (s:=np * 2) (k:=0) (dj hb1) (by rw[bq]; omega) (dJ _)
    unfold lY
    rw[Nat.add_zero,List.drop_zero] at this
    have e:(ints X).take (np * 2)=ints (X.take (np * 2)):=by simp [ints,List.map_take]
    rw[e] at this
    simp only[this]
  have ha:fQ P (bare H1 (n+1)) 45 45 (.slice (some ⟨n,0,none⟩) 0 0) (.slice (some ⟨b,0,none⟩) np 8)=some (.slice (some ⟨n+1,0,none⟩) np capV,bare (H1.set (n+1) (some (.cells (ints (X.take (np * 2))) 53 false (some 2)))) (n+1+1)):=by
    unfold fQ
    have hs:lY (bare H1 (n+1)).H 2 (.slice (some ⟨b,0,none⟩) np 8)=some (ints (X.take (np * 2)),np):=hsrc
    have hold':qj (bare H1 (n+1)).H ⟨n,0,none⟩ (0 * 2)=some []:=hold
    simp only[sl45,sz53,by53,zero53,hs,hbz,hold',hbig]
    unfold qq
    simp only[c0,c1,Ny,bare,rv,List.nil_append,Nat.zero_add]
  unfold stK
  rw[ha,aj]
  dsimp only [bare]
  exact⟨_,_,_,rfl,by omega,hk.set (by omega) _,dj (by rw[Tr.get_set,if_pos rfl])⟩
theorem flat67:fX P 67=false:=by kernel_rfl
theorem call67 (l:Nat) (a:Value) (H:Hp) (n:Nat):(cal (l+1)).call 67 [a] H n=C67_0 (cal l) KK a H n:=by kernel_rfl
theorem clone_call (l:Nat) (a:Value) (H:Hp) (n:Nat) (k:Value→Hp→Nat→Option ρ):aY P (cal (l+1)) 67 [a] H n k=aq (C67_0 (cal l) KK a H n) fun r=>k r.1 r.2.1 r.2.2:=by
  unfold aY
  rw[flat67,call67]
  rfl
theorem bounds_call (l:Nat) {H:Hp} {n g np nj nk:Nat} {f:Nat→Value} {js ks L:List Int} (hgn:g<n) (hf:bQ H g 859 117 f) (hn:∀ p kd,p<np→kd<nk→vQ f js ks nj np p kd) (hks:pJ ks nk) (hnp:np≤8) (hnk:nk≤3) (hL:L.length=8) (hK:tw L np nk) :
    ∃ X H' n',Vv X js ks L nj np 8∧(∀ k:Value→Hp→Nat→Option ρ,aY P (cal (l+4)) 66 [.pointer (some ⟨g,0,none⟩),.agg ⟨ints L⟩] H n k=k (.agg ⟨ints X⟩) H' n')∧n≤n'∧Keep n H H':=by
  obtain⟨X,hX,H',n',e,h1,h2⟩:=bounds_spec l hgn hf hn hks hnp hnk hL hK
  refine⟨X,H',n',hX,fun k=>?_,h1,h2⟩
  unfold aY
  have:(fX P 66 && cx [.pointer (some ⟨g,0,none⟩),.agg ⟨ints L⟩])=false:=by rw[Bool.and_eq_false_iff]; exact .inr rfl
  rw[this,e]
  rfl
def BoundsOut (r:Res) (n:Nat) (H:Hp) (np nj:Nat) (js ks ls:List Int):Prop:=∃(b cp:Nat) (X:List Int) (H':Hp) (n':Nat),r=some (.tuple ⟨[.slice (some ⟨b,0,none⟩) np cp,.int .i64 0]⟩,H',n')∧n≤n'∧Keep n H H'∧b<n' ∧
  Vv X js ks (fq ls np) nj np 8∧aX H' b 0 (ints (X.take (np * 2)))
theorem Bounds_spec (l:Nat) {np nj nk nl:Nat} {ps js ks ls:List Int} {H:Hp} {n:Nat} {v w:Value} (hg:gY H n v np nj nk ps js ks) (hw:ListR H n w nl ls) (hnp:np≤1000) (hnj:nj≤1000) (hnk:nk≤1000) :
    (eJ np nj nk nl ps js ks ls≠0→Ret (Vy (cal (l+7)) KK v w H n) n H (.tuple ⟨[.slice none 0 0,.int .i64 (eJ np nj nk nl ps js ks ls)]⟩)) ∧
    (eJ np nj nk nl ps js ks ls=0→BoundsOut (Vy (cal (l+7)) KK v w H n) n H np nj js ks ls):=by
  have hg0:=hg
  obtain⟨x,y,z,rfl,h1,h2,h3⟩:=hg
  unfold Vy B22_0
  rw[dq]
  simp only[bj,ptr]
  have hk:Keep n H (H.set n (some (.cells [x,y,z] 35 false none))):=(Keep.refl n H).set (Nat.le_refl _) _
  have hb:aX (H.set n (some (.cells [x,y,z] 35 false none))) n 0 [x,y,z]:=aX.new
  generalize H.set n (some (.cells [x,y,z] 35 false none))=H1 at hk hb ⊢
  have lg:az P H1 35 ⟨n,0,none⟩=some (.agg ⟨[x,y,z]⟩):=cw (o:=0) (k:=0) hb NV sz35 (by simp) (by simp [h1.hole.1,h2.hole.1,h3.hole.1])
  obtain⟨o1,o2⟩:=Ek l (hg0.keep hk (show n≤n+1 by omega)) (hw.keep hk (show n≤n+1 by omega)) hnp hnj hnk
  rw[aJ,aj,lg,aj,EJ]
  constructor
  · intro hne
    obtain⟨H2,n2,e1,e2,e3⟩:=o1 hne
    have t0:tupV (.tuple ⟨[.pointer none,.agg ⟨ints (List.replicate 8 0)⟩,.int .i64 (eJ np nj nk nl ps js ks ls)]⟩) 0=some (.pointer none):=rfl
    have t1:tupV (.tuple ⟨[.pointer none,.agg ⟨ints (List.replicate 8 0)⟩,.int .i64 (eJ np nj nk nl ps js ks ls)]⟩) 1=some (.agg ⟨ints (List.replicate 8 0)⟩):=rfl
    have t2:tupV (.tuple ⟨[.pointer none,.agg ⟨ints (List.replicate 8 0)⟩,.int .i64 (eJ np nj nk nl ps js ks ls)]⟩) 2=some (.int .i64 (eJ np nj nk nl ps js ks ls)):=rfl
    obtain⟨H3,k1,k2,k3⟩:=uX (P:=P) (ρ:=Value × Hp × Nat) (H:=H2) (n:=n2) (L:=ints (List.replicate 8 0)) DJ rfl rQ rfl (fx _)
    rw[e1,aj,t0,aj,t1,aj,t2,aj,k3,ak iJ,decide_eq_false hne,Bool.not_false,fw]
    exact⟨H3,n2+1,rfl,by omega,(hk.trans e3 (by omega)).trans k1 (by omega)⟩
  · intro he
    obtain⟨⟨g,x',y',z',f,H2,n2,e1,e2,e3,e4,e5,e6,e7,e8,e9⟩,hnl,hok,hft⟩:=o2 he
    simp only[Value.agg.injEq,Array.mk.injEq,List.cons.injEq,and_true] at e6
    obtain⟨rfl,rfl,rfl⟩:=e6
    have good:=Iw hft
    subst hnl
    have l8:=BY hw.1 good.np8
    have lens:(ints (fq ls nl)).length=8:=by rw[bq,l8]
    have t0:tupV (.tuple ⟨[.pointer (some ⟨g,0,none⟩),.agg ⟨ints (fq ls nl)⟩,.int .i64 0]⟩) 0=some (.pointer (some ⟨g,0,none⟩)):=rfl
    have t1:tupV (.tuple ⟨[.pointer (some ⟨g,0,none⟩),.agg ⟨ints (fq ls nl)⟩,.int .i64 0]⟩) 1=some (.agg ⟨ints (fq ls nl)⟩):=rfl
    have t2:tupV (.tuple ⟨[.pointer (some ⟨g,0,none⟩),.agg ⟨ints (fq ls nl)⟩,.int .i64 0]⟩) 2=some (.int .i64 0):=rfl
    have d0:decide ((0:Int)=0)=true:=rfl
    obtain⟨H3,k1,k2,k3⟩:=uX (P:=P) (ρ:=Value × Hp × Nat) (H:=H2) (n:=n2) (L:=ints (fq ls nl)) DJ rfl rQ lens (fx _)
    rw[e1,aj,t0,aj,t1,aj,t2,aj,k3,ak iJ,d0,Bool.not_true,ej,aJ,aj,dw k2 yX rQ lens,aj]
    have f3:=e7.keep k1 e5
    obtain⟨X,H4,n4,hX,b1,b2,b3⟩:=bounds_call (ρ:=Value × Hp × Nat) (l+3) (n:=n2+1) (by omega) f3 e9 good.kinds good.np8 good.nk3 l8 (Ix hw.1 hok)
    have lX:(ints X).length=16:=by rw[bq,hX.1]
    have f4:=f3.keep b3 (by omega)
    obtain⟨H5,c1,c2,c3⟩:=uX (P:=P) (ρ:=Value × Hp × Nat) (H:=H4) (n:=n4) (L:=ints X) WX rfl AQ lX (fx _)
    rw[b1,c3]
    have f5:=f4.keep c1 (by omega)
    have lx:az P H5 31 ⟨g,0+0+0,none⟩=some x:=by
      have:=f5.load (P:=P) (k:=0) Cz (by omega)
      rw[e8.x] at this; exact this
    have hlx:lenV P 31 x=some (.int .i64 nl):=h1.len_eq Ck
    rw[mj,aj,pk,aj,rz,aj,aJ,aj,lx,aj,hlx,aj,slice111 _ good.np8,aj,clone_call (l+6)]
    obtain⟨H6,n6,cp,d1,d2,d3,d4⟩:=clone_spec (cal (l+6)) KK c2 (show n4<n4+1 by omega) hX.1 (by have:=good.np1; omega) good.np8
    rw[d1,aj]
    refine⟨n4+1+1,cp,X,H6,n6,rfl,by omega,fun b hb=>?_,d2,hX,d4⟩
    rw[d3 b (by omega),c1 b (by omega),b3 b (by omega),k1 b (by omega),e3 b (by omega),hk b hb]
theorem flat22:fX P 22=false:=by kernel_rfl
theorem call22 (l:Nat) (a b:Value) (H:Hp) (n:Nat):(cal (l+1)).call 22 [a,b] H n=Vy (cal l) KK a b H n:=by kernel_rfl
theorem Bounds_call (l:Nat) (v w:Value) (H:Hp) (n:Nat) (k:Value→Hp→Nat→Option ρ):aY P (cal (l+8)) 22 [v,w] H n k=aq (Vy (cal (l+7)) KK v w H n) fun r=>k r.1 r.2.1 r.2.2:=by
  unfold aY
  rw[flat22,call22]
  rfl
end Go.Proofs.Ytekajfobmnedjaa.spec
end
section
namespace Go.Proofs.Ytekajfobmnedjaa.spec
open Go Go.Ev Go.Proofs.Ytekajfobmnedjaa.nestFits Go.Proofs.Ytekajfobmnedjaa.G
set_option maxRecDepth 100000
variable {ρ:Type}
def missB (X ps:List Int) (p:Nat):Bool:=decide (X.getD (p * 2) 0<ps.getD (p * 2) 0)
def NX (X ps:List Int) (p:Nat):Bool:=decide (ps.getD (p * 2+1) 0<X.getD (p * 2+1) 0)
structure FL (H:Hp) (base n g b9:Nat) (f:Nat→Value) (X:List Int) (u4 u5:Value) (q4 q5:List Int):Prop where
  site:bQ H g 859 117 f
  row:H.get b9=some (.cells (ints X) 111 false none)
  gl:g<base
  bl:b9<base
  bn:base≤n
  v4:VecAt H base n 1 3 u4 q4.length q4
  v5:VecAt H base n 1 3 u5 q5.length q5
  off:∀ k,fj u4 k→¬ fj u5 k
theorem FL.keep {H H':Hp} {base n m g b9:Nat} {f:Nat→Value} {X:List Int} {u4 u5:Value} {q4 q5:List Int} (h:FL H base n g b9 f X u4 u5 q4 q5) (hk:Keep n H H') (hm:n≤m):FL H' base m g b9 f X u4 u5 q4 q5:=by
  obtain⟨h1,h2,h3,h4,h5,h6,h7,h8⟩:=h
  exact⟨h1.keep hk (by omega),(hk b9 (by omega)).trans h2,h3,h4,by omega,h6.same hm fun b hb _=>hk b hb,h7.same hm fun b hb _=>hk b hb,h8⟩
end Go.Proofs.Ytekajfobmnedjaa.spec
end
section
namespace Go.Proofs.Ytekajfobmnedjaa.spec
open Go Go.Ev Go.Proofs.Ytekajfobmnedjaa.nestFits Go.Proofs.Ytekajfobmnedjaa.G
set_option maxRecDepth 100000
variable {ρ:Type}
theorem holds_loop (l k:Nat) {g b np nj:Nat} {f:Nat→Value} {x y z:Value} {ps js X:List Int} (hs:SiteF f x y z js nj) (hnp:np≤8) (hX:X.length=16):∀(m i:Nat) (H:Hp) (n:Nat),g<n→b<n→bQ H g 859 117 f→H.get b=some (.cells (ints X) 111 false none)→dv H n 2 x np ps→i≤np→np-i≤m →
    ∃ r,Ret (Uv (cal (l+1)) k m (.pointer (some ⟨g,0,none⟩)) (.pointer (some ⟨b,0,none⟩)) (.int .i64 np) (.int .i64 i) H n) n H (.bool r)∧(r=true↔∀ p,i≤p→p<np→NX X ps p=false):=by
  have lX:(ints X).length=16:=by rw[bq,hX]
  have body:∀(b1:Value→Value→Value→Value→Hp→Nat→Res) (m i:Nat) (H:Hp) (n:Nat),g<n→b<n→bQ H g 859 117 f→H.get b=some (.cells (ints X) 111 false none)→dv H n 2 x np ps→i≤np →
      (∀ H' n',n≤n'→Keep n H H'→i<np→∃ r,Ret (b1 (.pointer (some ⟨g,0,none⟩)) (.pointer (some ⟨b,0,none⟩)) (.int .i64 np) (.int .i64 ((i+1:Nat):Int)) H' n') n' H' (.bool r)∧(r=true↔∀ p,i+1≤p→p<np→NX X ps p=false)) →
      ∃ r,Ret (Uq (cal (l+1)) k m b1 (.pointer (some ⟨g,0,none⟩)) (.pointer (some ⟨b,0,none⟩)) (.int .i64 np) (.int .i64 i) H n) n H (.bool r)∧(r=true↔∀ p,i≤p→p<np→NX X ps p=false):=by
    intro b1 m i H n hg hb hf hbx hx hi ih
    unfold Uq B111_1
    rw[ak cY,jw]
    by_cases hlt:i<np
    · have hI:I64 ((i:Int)+1):=by unfold I64; omega
      have hcast:((i:Int)+1)=((i+1:Nat):Int):=by omega
      obtain⟨H2,n2,c1,c2,c3⟩:=over_call (ρ:=Value × Hp × Nat) (l+0) hg hf hs hx hlt hnp hX
      rw[if_pos (by omega),aJ,aj,dw hbx yV AQ lX,aj,c1]
      cases hd:NX X ps i with
      | true=>
        have hd':decide (ps.getD (i * 2+1) 0<X.getD (i * 2+1) 0)=true:=hd
        rw[hd',fw]
        exact⟨false,⟨H2,n2,rfl,c2,c3⟩,⟨fun h=>(by cases h),fun h=>absurd (h i (Nat.le_refl _) hlt) (by rw[hd]; simp)⟩⟩
      | false=>
        have hd':decide (ps.getD (i * 2+1) 0<X.getD (i * 2+1) 0)=false:=hd
        rw[hd',ej,ak (bV hI),hcast]
        obtain⟨r,⟨H3,n3,e1,e2,e3⟩,e4⟩:=ih H2 n2 c2 c3 hlt
        refine⟨r,⟨H3,n3,e1,by omega,c3.trans e3 c2⟩,e4.trans ?_⟩
        refine⟨fun h p q1 q2=>?_,fun h p q1 q2=>h p (by omega) q2⟩
        rcases Nat.eq_or_lt_of_le q1 with q | q
        · subst q; exact hd
        · exact h p q q2
    · have hi':i=np:=by omega
      subst hi'
      rw[if_neg (by omega)]
      exact⟨true,⟨H,n,rfl,Nat.le_refl _,Keep.refl _ _⟩,⟨fun _ p q1 q2=>by omega,fun _=>rfl⟩⟩
  intro m
  induction m with
  | zero=>intro i H n h1 h2 h3 h4 h5 h6 h7; exact body _ 0 i H n h1 h2 h3 h4 h5 h6 (fun _ _ _ _ h=>by omega)
  | succ m ih=>intro i H n h1 h2 h3 h4 h5 h6 h7; exact body _ (m+1) i H n h1 h2 h3 h4 h5 h6 (fun H' n' q1 q2 q3=>ih (i+1) H' n' (by omega) (by omega) (h3.keep q2 h1) ((q2 b h2).trans h4) ((h5.keep q2 (Nat.le_refl _)).up q1) (by omega) (by omega))
theorem call111 (l:Nat) (a b:Value) (H:Hp) (n:Nat):(cal (l+1)).call 111 [a,b] H n=C111_0 (cal l) KK a b H n:=by kernel_rfl
theorem holds_call (l:Nat) {H:Hp} {n g np nj:Nat} {f:Nat→Value} {x y z:Value} {ps js X:List Int} (hg:g<n) (hf:bQ H g 859 117 f) (hs:SiteF f x y z js nj) (hx:dv H n 2 x np ps) (hnp:np≤8) (hX:X.length=16) :
    ∃(r:Bool) (H':Hp) (n':Nat),(r=true↔∀ p,p<np→NX X ps p=false)∧(∀ k:Value→Hp→Nat→Option ρ,aY P (cal (l+2)) 111 [.pointer (some ⟨g,0,none⟩),.agg ⟨ints X⟩] H n k=k (.bool r) H' n')∧n≤n'∧Keep n H H':=by
  have hk:Keep n H (H.set n (some (.cells (ints X) 111 false none))):=(Keep.refl n H).set (Nat.le_refl _) _
  have hb:(H.set n (some (.cells (ints X) 111 false none))).get n=some (.cells (ints X) 111 false none):=by rw[Tr.get_set,if_pos rfl]
  obtain⟨r,⟨H',n',e1,e2,e3⟩,e4⟩:=holds_loop l KK hs hnp hX KK 0 (H.set n (some (.cells (ints X) 111 false none))) (n+1) (by omega) (Nat.lt_succ_self n) (hf.keep hk hg) hb ((hx.keep hk (Nat.le_refl _)).up (by omega)) (by omega) (by unfold KK; omega)
  refine⟨r,H',n',?_,fun k=>?_,by omega,hk.trans e3 (by omega)⟩
  · exact e4.trans ⟨fun h p hp=>h p (Nat.zero_le _) hp,fun h p _ hp=>h p hp⟩
  · unfold aY
    have:(fX P 111 && cx [.pointer (some ⟨g,0,none⟩),.agg ⟨ints X⟩])=false:=by rw[Bool.and_eq_false_iff]; exact .inr rfl
    rw[this,call111]
    unfold C111_0 B111_0
    generalize hS:Uv (cal (l+1)) KK KK=S
    have lx:az P (H.set n (some (.cells (ints X) 111 false none))) 31 ⟨g,0+0+0,none⟩=some x:=by
      have:=(hf.keep hk hg).load (P:=P) (k:=0) Cz (by omega)
      rw[hs.x] at this; exact this
    rw[dq]
    simp only[bj,ptr]
    rw[mj,aj,pk,aj,rz,aj,aJ,aj,lx,aj,hx.len_eq Ck,aj,← hS]
    exact congrArg (fun r=>aq r _) e1
def RightX (X ps:List Int) (np:Nat):Prop:=∀ p,p<np→missB X ps p=false∧NX X ps p=false
theorem right_loop (l k:Nat) {g b np nj:Nat} {f:Nat→Value} {x y z:Value} {ps js X:List Int} (hs:SiteF f x y z js nj) (hnp:np≤8) (hX:X.length=16):∀(m i:Nat) (H:Hp) (n:Nat),g<n→b<n→bQ H g 859 117 f→H.get b=some (.cells (ints X) 111 false none)→dv H n 2 x np ps→i≤np→np-i≤m →
    ∃ r,Ret (S83_1 (cal (l+3)) k m (.pointer (some ⟨g,0,none⟩)) (.pointer (some ⟨b,0,none⟩)) (.int .i64 np) (.int .i64 i) H n) n H (.bool r)∧(r=true↔(∀ p,i≤p→p<np→missB X ps p=false)∧∀ p,p<np→NX X ps p=false):=by
  have lX:(ints X).length=16:=by rw[bq,hX]
  have body:∀(b1:Value→Value→Value→Value→Hp→Nat→Res) (m i:Nat) (H:Hp) (n:Nat),g<n→b<n→bQ H g 859 117 f→H.get b=some (.cells (ints X) 111 false none)→dv H n 2 x np ps→i≤np →
      (∀ H' n',n≤n'→Keep n H H'→i<np→∃ r,Ret (b1 (.pointer (some ⟨g,0,none⟩)) (.pointer (some ⟨b,0,none⟩)) (.int .i64 np) (.int .i64 ((i+1:Nat):Int)) H' n') n' H' (.bool r)∧(r=true↔(∀ p,i+1≤p→p<np→missB X ps p=false)∧∀ p,p<np→NX X ps p=false)) →
      ∃ r,Ret (C83_1 (cal (l+3)) k m b1 (.pointer (some ⟨g,0,none⟩)) (.pointer (some ⟨b,0,none⟩)) (.int .i64 np) (.int .i64 i) H n) n H (.bool r)∧(r=true↔(∀ p,i≤p→p<np→missB X ps p=false)∧∀ p,p<np→NX X ps p=false):=by
    intro b1 m i H n hg hb hf hbx hx hi ih
    unfold C83_1 B83_1
    rw[ak cY,jw]
    by_cases hlt:i<np
    · have hI:I64 ((i:Int)+1):=by unfold I64; omega
      have hcast:((i:Int)+1)=((i+1:Nat):Int):=by omega
      obtain⟨H2,n2,c1,c2,c3⟩:=missed_call (ρ:=Value × Hp × Nat) (l+2) hg hf hs hx hlt hnp hX
      rw[if_pos (by omega),aJ,aj,dw hbx yV AQ lX,aj,c1]
      cases hd:missB X ps i with
      | true=>
        have hd':decide (X.getD (i * 2) 0<ps.getD (i * 2) 0)=true:=hd
        rw[hd',fw]
        exact⟨false,⟨H2,n2,rfl,c2,c3⟩,⟨fun h=>(by cases h),fun h=>absurd (h.1 i (Nat.le_refl _) hlt) (by rw[hd]; simp)⟩⟩
      | false=>
        have hd':decide (X.getD (i * 2) 0<ps.getD (i * 2) 0)=false:=hd
        rw[hd',ej,ak (bV hI),hcast]
        obtain⟨r,⟨H3,n3,e1,e2,e3⟩,e4⟩:=ih H2 n2 c2 c3 hlt
        refine⟨r,⟨H3,n3,e1,by omega,c3.trans e3 c2⟩,e4.trans ?_⟩
        refine⟨fun h=>⟨fun p q1 q2=>?_,h.2⟩,fun h=>⟨fun p q1 q2=>h.1 p (by omega) q2,h.2⟩⟩
        rcases Nat.eq_or_lt_of_le q1 with q | q
        · subst q; exact hd
        · exact h.1 p q q2
    · have hi':i=np:=by omega
      subst hi'
      rw[if_neg (by omega)]
      obtain⟨r,H2,n2,c0,c1,c2,c3⟩:=holds_call (ρ:=Value × Hp × Nat) (l+1) hg hf hs hx hnp hX
      rw[aJ,aj,dw hbx yV AQ lX,aj,c1]
      exact⟨r,⟨H2,n2,rfl,c2,c3⟩,c0.trans ⟨fun h=>⟨fun p q1 q2=>by omega,h⟩,fun h=>h.2⟩⟩
  intro m
  induction m with
  | zero=>intro i H n h1 h2 h3 h4 h5 h6 h7; exact body _ 0 i H n h1 h2 h3 h4 h5 h6 (fun _ _ _ _ h=>by omega)
  | succ m ih=>intro i H n h1 h2 h3 h4 h5 h6 h7; exact body _ (m+1) i H n h1 h2 h3 h4 h5 h6 (fun H' n' q1 q2 q3=>ih (i+1) H' n' (by omega) (by omega) (h3.keep q2 h1) ((q2 b h2).trans h4) ((h5.keep q2 (Nat.le_refl _)).up q1) (by omega) (by omega))
theorem call83 (l:Nat) (a b:Value) (H:Hp) (n:Nat):(cal (l+1)).call 83 [a,b] H n=C83_0 (cal l) KK a b H n:=by kernel_rfl
theorem right_call (l:Nat) {H:Hp} {n g np nj:Nat} {f:Nat→Value} {x y z:Value} {ps js X:List Int} (hg:g<n) (hf:bQ H g 859 117 f) (hs:SiteF f x y z js nj) (hx:dv H n 2 x np ps) (hnp:np≤8) (hX:X.length=16) :
    ∃(r:Bool) (H':Hp) (n':Nat),(r=true↔RightX X ps np)∧(∀ k:Value→Hp→Nat→Option ρ,aY P (cal (l+4)) 83 [.pointer (some ⟨g,0,none⟩),.agg ⟨ints X⟩] H n k=k (.bool r) H' n')∧n≤n'∧Keep n H H':=by
  have hk:Keep n H (H.set n (some (.cells (ints X) 111 false none))):=(Keep.refl n H).set (Nat.le_refl _) _
  have hb:(H.set n (some (.cells (ints X) 111 false none))).get n=some (.cells (ints X) 111 false none):=by rw[Tr.get_set,if_pos rfl]
  obtain⟨r,⟨H',n',e1,e2,e3⟩,e4⟩:=right_loop l KK hs hnp hX KK 0 (H.set n (some (.cells (ints X) 111 false none))) (n+1) (by omega) (Nat.lt_succ_self n) (hf.keep hk hg) hb ((hx.keep hk (Nat.le_refl _)).up (by omega)) (by omega) (by unfold KK; omega)
  refine⟨r,H',n',?_,fun k=>?_,by omega,hk.trans e3 (by omega)⟩
  · exact e4.trans ⟨fun h p hp=>⟨h.1 p (Nat.zero_le _) hp,h.2 p hp⟩,fun h=>⟨fun p _ hp=>(h p hp).1,fun p hp=>(h p hp).2⟩⟩
  · unfold aY
    have:(fX P 83 && cx [.pointer (some ⟨g,0,none⟩),.agg ⟨ints X⟩])=false:=by rw[Bool.and_eq_false_iff]; exact .inr rfl
    rw[this,call83]
    unfold C83_0 B83_0
    generalize hS:S83_1 (cal (l+3)) KK KK=S
    have lx:az P (H.set n (some (.cells (ints X) 111 false none))) 31 ⟨g,0+0+0,none⟩=some x:=by
      have:=(hf.keep hk hg).load (P:=P) (k:=0) Cz (by omega)
      rw[hs.x] at this; exact this
    rw[dq]
    simp only[bj,ptr]
    rw[mj,aj,pk,aj,rz,aj,aJ,aj,lx,aj,hx.len_eq Ck,aj,← hS]
    exact congrArg (fun r=>aq r _) e1
end Go.Proofs.Ytekajfobmnedjaa.spec
end
section
namespace Go.Proofs.Ytekajfobmnedjaa.spec
open Go Go.Ev Go.Proofs.Ytekajfobmnedjaa.nestFits Go.Proofs.Ytekajfobmnedjaa.G
set_option maxRecDepth 100000
variable {ρ:Type}
end Go.Proofs.Ytekajfobmnedjaa.spec
end
section
namespace Go.Proofs.Ytekajfobmnedjaa.spec
open Go Go.Ev Go.Proofs.Ytekajfobmnedjaa.nestFits Go.Proofs.Ytekajfobmnedjaa.G
set_option maxRecDepth 100000
variable {ρ:Type}
theorem guardD_ff {op:KD ρ→Option ρ} {ex:Extra} {H:Hp} {n:Nat} {k:KD ρ}:cz (.bool false) false op ex H n k=op k:=rfl
theorem guardD_tf {op:KD ρ→Option ρ} {ex:Extra} {H:Hp} {n:Nat} {k:KD ρ}:cz (.bool true) false op ex H n k=k undef ex H n:=rfl
theorem guardD_u {w:Bool} {op:KD ρ→Option ρ} {ex:Extra} {H:Hp} {n:Nat} {k:KD ρ}:cz undef w op ex H n k=k undef ex H n:=rfl
theorem isLayout_loop (l k:Nat) {np nj nk:Nat} {ps js ks ls:List Int} (good:Good np nj nk ps js ks) (hjs:js.length=nj * 2) (g:Nat) (x y z w:Value) :
    ∀(m i:Nat) (H:Hp) (n:Nat),g<n→aX H g 0 [x,y,z]→GroveI H n (.agg ⟨[x,y,z]⟩) np nj nk ps js ks→ListR H n w np ls→i≤np→np-i≤m →
    ∃ r,Ret (S58_1 (cal (l+4)) k m w (.pointer (some ⟨g,0,none⟩)) (.int .i64 i) H n) n H (.bool r)∧(r=true↔∀ p,i≤p→p<np→ls.getD p 0=-1∨nq js ks nj np nk p (ls.getD p 0)):=by
  have body:∀(b1:Value→Value→Value→Hp→Nat→Res) (m i:Nat) (H:Hp) (n:Nat),g<n→aX H g 0 [x,y,z]→GroveI H n (.agg ⟨[x,y,z]⟩) np nj nk ps js ks→ListR H n w np ls→i≤np →
      (∀ H' n',n≤n'→Keep n H H'→i<np→∃ r,Ret (b1 w (.pointer (some ⟨g,0,none⟩)) (.int .i64 ((i+1:Nat):Int)) H' n') n' H' (.bool r)∧(r=true↔∀ p,i+1≤p→p<np→ls.getD p 0=-1∨nq js ks nj np nk p (ls.getD p 0))) →
      ∃ r,Ret (C58_1 (cal (l+4)) k m b1 w (.pointer (some ⟨g,0,none⟩)) (.int .i64 i) H n) n H (.bool r)∧(r=true↔∀ p,i≤p→p<np→ls.getD p 0=-1∨nq js ks nj np nk p (ls.getD p 0)):=by
    intro b1 m i H n hgn hb hg hw hi ih
    have np8:=good.np8
    have nk3:=good.nk3
    have nj16:=good.nj16
    unfold C58_1 B58_1
    rw[hw.len_eq,aj,ak cY,jw]
    by_cases hlt:i<np
    · obtain⟨rb,o,hix,_,hld⟩:=hw.at_ hlt
      have hI:I64 ((i:Int)+1):=by unfold I64; omega
      have hcast:((i:Int)+1)=((i+1:Nat):Int):=by omega
      have go:(ls.getD i 0=-1∨nq js ks nj np nk i (ls.getD i 0))→∀(H':Hp) (n':Nat),n≤n'→Keep n H H' →
          ∃ r,Ret (b1 w (.pointer (some ⟨g,0,none⟩)) (.int .i64 ((i+1:Nat):Int)) H' n') n H (.bool r)∧(r=true↔∀ p,i≤p→p<np→ls.getD p 0=-1∨nq js ks nj np nk p (ls.getD p 0)):=by
        intro hok H' n' h1 h2
        obtain⟨r,⟨H2,n2,e1,e2,e3⟩,e4⟩:=ih H' n' h1 h2 hlt
        refine⟨r,⟨H2,n2,e1,by omega,h2.trans e3 h1⟩,e4.trans ⟨fun h p q1 q2=>?_,fun h p q1 q2=>h p (by omega) q2⟩⟩
        rcases Nat.eq_or_lt_of_le q1 with q | q
        · subst q; exact hok
        · exact h p q q2
      have no:¬ (ls.getD i 0=-1∨nq js ks nj np nk i (ls.getD i 0))→∀(H':Hp) (n':Nat),n≤n'→Keep n H H' →
          ∃ r,Ret (some (Value.bool false,H',n')) n H (.bool r)∧(r=true↔∀ p,i≤p→p<np→ls.getD p 0=-1∨nq js ks nj np nk p (ls.getD p 0)):=
        fun hno H' n' h1 h2=>⟨false,⟨H',n',rfl,h1,h2⟩,⟨fun h=>(by cases h),fun h=>absurd (h i (Nat.le_refl _) hlt) hno⟩⟩
      rw[if_pos (by omega),hix,aj,aJ,aj,hld,aj,ak iJ]
      cases c1:decide (ls.getD i 0=-1) with
      | true=>
        simp only[Bool.not_true,My,guardD_u,dk,aj,ej,ak (bV hI),hcast]
        exact go (.inl (of_decide_eq_true c1)) H n (Nat.le_refl _) (Keep.refl _ _)
      | false=>
        have hg0:=hg
        obtain⟨x',y',z',hxyz,h1,h2,h3⟩:=hg.eq
        cases hxyz
        have lz:az P H 24 ⟨g,0+2,none⟩=some z:=bw hb FW rfl h3.hole.1 h3.hole.2
        have elz:lenV P 24 z=some (.int .i64 nk):=h3.len_eq Jk
        have hIk:I64 ((nk:Int)-1):=by unfold I64; omega
        have l26:=Cy hb h1.hole.1 h2.hole.1 h3.hole.1
        simp only[Bool.not_false,Mx,hix,aj,aJ,hld,yJ,lz,elz,ak (zK hIk),Bx (l+3)]
        cases c2:decide (0≤ls.getD i 0∧ls.getD i 0≤(nk:Int)-1) with
        | false=>
          simp only[uW,aj,guardD_tf,dQ,fw]
          refine no ?_ H n (Nat.le_refl _) (Keep.refl _ _)
          rintro(h | ⟨q1,q2,_⟩)
          · exact of_decide_eq_false c1 h
          · exact of_decide_eq_false c2 ⟨q1,by omega⟩
        | true=>
          obtain⟨p1,p2⟩:=of_decide_eq_true c2
          obtain⟨kd,hkd⟩:∃ kd:Nat,ls.getD i 0=kd:=⟨(ls.getD i 0).toNat,by omega⟩
          have hk:kd<nk:=by omega
          obtain⟨r,H2,n2,d1,d2,d3,d4⟩:=fitsR_call (ρ:=Value × Hp × Nat) l (show nj≤KK by unfold KK; omega) (show np≤100 by omega) kd hk (i:Int) good.small hg0
          rw[hkd] at c1
          simp only[qY,aj,guardD_ff,hix,aJ,hld,l26,hkd,d2]
          have ag:=fits_agree good hjs hlt hk
          have tk:nq js ks nj np nk i (kd:Int)↔r=true:=by
            unfold nq
            rw[Int.toNat_natCast,ag,d1]
            exact⟨fun h=>h.2.2,fun h=>⟨by omega,by omega,h⟩⟩
          cases r with
          | true=>
            simp only[qY,aj,dQ,dk,ej,ak (bV hI),hcast]
            refine go ?_ H2 n2 d3 d4
            rw[hkd]; exact .inr (tk.2 rfl)
          | false=>
            simp only[uW,aj,dQ,dk,fw]
            refine no ?_ H2 n2 d3 d4
            rw[hkd]
            rintro(h | h)
            · exact of_decide_eq_false c1 h
            · exact absurd (tk.1 h) (by simp)
    · rw[if_neg (by omega)]
      exact⟨true,⟨H,n,rfl,Nat.le_refl _,Keep.refl _ _⟩,⟨fun _ p q1 q2=>by omega,fun _=>rfl⟩⟩
  intro m
  induction m with
  | zero=>
    intro i H n h1 h2 h3 h4 h5 h6
    exact body _ 0 i H n h1 h2 h3 h4 h5 (fun _ _ _ _ h=>by omega)
  | succ m ih=>
    intro i H n h1 h2 h3 h4 h5 h6
    exact body _ (m+1) i H n h1 h2 h3 h4 h5 (fun H' n' q1 q2 q3=>ih (i+1) H' n' (by omega) (h2.keep q2 h1) (h3.keep q2 q1) (h4.keep q2 q1) (by omega) (by omega))
theorem isLayout_spec (l:Nat) {np nj nk nl:Nat} {ps js ks ls:List Int} (good:Good np nj nk ps js ks) {H:Hp} {n:Nat} {v w:Value} (hg:GroveI H n v np nj nk ps js ks) (hw:ListR H n w nl ls) :
    ∃ r,Ret (C58_0 (cal (l+4)) KK v w H n) n H (.bool r)∧(r=true↔nl=np∧rV js ks ls nj np nk):=by
  have hg0:=hg
  obtain⟨x,y,z,rfl,h1,h2,h3⟩:=hg.eq
  unfold C58_0 B58_0
  generalize hS:S58_1 (cal (l+4)) KK KK=S
  rw[dq]
  simp only[bj,ptr]
  have hk:Keep n H (H.set n (some (.cells [x,y,z] 26 false none))):=(Keep.refl n H).set (Nat.le_refl _) _
  have hb:aX (H.set n (some (.cells [x,y,z] 26 false none))) n 0 [x,y,z]:=aX.new
  generalize H.set n (some (.cells [x,y,z] 26 false none))=H1 at hk hb ⊢
  have lx:az P H1 22 ⟨n,0+0,none⟩=some x:=bw hb Vj rfl h1.hole.1 h1.hole.2
  have elx:lenV P 22 x=some (.int .i64 np):=h1.len_eq Vq
  rw[hw.len_eq,aj,HW,aj,aJ,aj,lx,aj,elx,aj,ak iJ]
  cases c1:decide ((nl:Int)=(np:Int)) with
  | false=>
    rw[Bool.not_false,fw]
    exact⟨false,⟨H1,n+1,rfl,by omega,hk⟩,⟨fun h=>(by cases h),fun h=>absurd (by omega) (of_decide_eq_false c1)⟩⟩
  | true=>
    have e:nl=np:=by have:=of_decide_eq_true c1; omega
    subst e
    rw[Bool.not_true,ej,← hS]
    obtain⟨r,⟨H',n',e1,e2,e3⟩,e4⟩:=isLayout_loop l KK good h2.1 n x y z w KK 0 H1 (n+1) (by omega) hb (hg0.keep hk (by omega)) (hw.keep hk (by omega)) (by omega) (by have:=good.np8; unfold KK; omega)
    exact⟨r,⟨H',n',e1,by omega,hk.trans e3 (by omega)⟩,e4.trans ⟨fun h=>⟨rfl,fun p hp=>h p (Nat.zero_le _) hp⟩,fun h p _ hp=>h.2 p hp⟩⟩
theorem call58 (l:Nat) (a b:Value) (H:Hp) (n:Nat):(cal (l+1)).call 58 [a,b] H n=C58_0 (cal l) KK a b H n:=by kernel_rfl
theorem isLayout_call (l:Nat) {np nj nk nl:Nat} {ps js ks ls:List Int} (good:Good np nj nk ps js ks) {H:Hp} {n:Nat} {v w:Value} (hg:GroveI H n v np nj nk ps js ks) (hw:ListR H n w nl ls) :
    ∃(r:Bool) (H':Hp) (n':Nat),(r=true↔nl=np∧rV js ks ls nj np nk)∧(∀ k:Value→Hp→Nat→Option ρ,aY P (cal (l+5)) 58 [v,w] H n k=k (.bool r) H' n')∧n≤n'∧Keep n H H':=by
  obtain⟨r,H',n',⟨b,rfl,hb⟩,e1,e2,e3⟩:=ew (ρ:=ρ) (P:=P) (cal:=cal (l+5)) (f:=58) (args:=[v,w]) (H:=H) (n:=n)
    (Pre:=fun H n=>GroveI H n v np nj nk ps js ks∧ListR H n w nl ls) (Q:=fun r=>∃ b:Bool,r=.bool b∧(b=true↔nl=np∧rV js ks ls nj np nk))
    (fun H n h=>by
      obtain⟨r,h1,h2⟩:=isLayout_spec l good h.1 h.2
      exact⟨.bool r,by rw[call58]; exact h1,r,rfl,h2⟩) (fun r ⟨b,e,_⟩ _=>by subst e; rfl) ⟨hg,hw⟩ (fun hp=>by
        simp only[cx,Bool.and_eq_true] at hp
        exact⟨hg.nil hp.1,hw.nil hp.2.1⟩)
  exact⟨b,H',n',hb,e1,e2,e3⟩
theorem placed_spec (l:Nat) {np nj nk nl:Nat} {ps js ks ls:List Int} {H:Hp} {n:Nat} {v w:Value} (hg:GroveI H n v np nj nk ps js ks) (hw:ListR H n w nl ls) :
    Ret (C25_0 (cal (l+5)) KK v w H n) n H (.int .i64 (eJ np nj nk nl ps js ks ls)):=by
  have hg0:=hg
  obtain⟨x,y,z,rfl,h1,h2,h3⟩:=hg.eq
  unfold C25_0 B25_0
  rw[dq]
  simp only[bj,ptr]
  have hk:Keep n H (H.set n (some (.cells [x,y,z] 26 false none))):=(Keep.refl n H).set (Nat.le_refl _) _
  have hb:aX (H.set n (some (.cells [x,y,z] 26 false none))) n 0 [x,y,z]:=aX.new
  generalize H.set n (some (.cells [x,y,z] 26 false none))=H1 at hk hb ⊢
  have ld:∀ H2,aX H2 n 0 [x,y,z]→az P H2 26 ⟨n,0,none⟩=some (.agg ⟨[x,y,z]⟩):=fun H2 h=>Cy h h1.hole.1 h2.hole.1 h3.hole.1
  have hg1:GroveI H1 (n+1) (.agg ⟨[x,y,z]⟩) np nj nk ps js ks:=hg0.keep hk (by omega)
  obtain⟨H2,n2,e1,e2,e3⟩:=lawfault_call (ρ:=Value × Hp × Nat) (l+1) hg1
  have kk:Keep n H H2:=hk.trans e3 (by omega)
  rw[aJ,aj,ld H1 hb,aj,e1,ak iJ]
  unfold eJ
  by_cases he:gW np nj nk ps js ks=0
  · have d0:decide (gW np nj nk ps js ks=0)=true:=decide_eq_true he
    have good:=Iw he
    obtain⟨r,H3,n3,f1,f2,f3,f4⟩:=isLayout_call (ρ:=Value × Hp × Nat) l good (hg1.keep e3 e2) (hw.keep kk (show n≤n2 by omega))
    rw[d0,Bool.not_true,ej,aj,ld H2 (hb.keep e3 (by omega)),aj,f2,if_neg (fun h=>h he)]
    cases r with
    | true=>
      rw[qY,aj,ej,if_pos (f1.1 rfl)]
      exact⟨H3,n3,rfl,by omega,kk.trans f4 (by omega)⟩
    | false=>
      rw[uW,aj,fw,if_neg (fun h=>absurd (f1.2 h) (by simp))]
      exact⟨H3,n3,rfl,by omega,kk.trans f4 (by omega)⟩
  · have d0:decide (gW np nj nk ps js ks=0)=false:=decide_eq_false he
    rw[d0,Bool.not_false,fw,if_pos he]
    exact⟨H2,n2,rfl,by omega,kk⟩
theorem call25 (l:Nat) (a b:Value) (H:Hp) (n:Nat):(cal (l+1)).call 25 [a,b] H n=C25_0 (cal l) KK a b H n:=by kernel_rfl
theorem placedN_call (l:Nat) {np nj nk nl:Nat} {ps js ks ls:List Int} {H:Hp} {n:Nat} {v w:Value} (hg:GroveI H n v np nj nk ps js ks) (hw:ListR H n w nl ls) :
    ∃ H' n',(∀ k:Value→Hp→Nat→Option ρ,aY P (cal (l+6)) 25 [v,w] H n k=k (.int .i64 (eJ np nj nk nl ps js ks ls)) H' n')∧n≤n'∧Keep n H H':=by
  obtain⟨r,H',n',rfl,e1,e2,e3⟩:=ew (ρ:=ρ) (P:=P) (cal:=cal (l+6)) (f:=25) (args:=[v,w]) (H:=H) (n:=n)
    (Pre:=fun H n=>GroveI H n v np nj nk ps js ks∧ListR H n w nl ls) (Q:=fun r=>r=.int .i64 (eJ np nj nk nl ps js ks ls))
    (fun H n h=>⟨_,by rw[call25]; exact placed_spec l h.1 h.2,rfl⟩) (fun r e _=>by subst e; rfl) ⟨hg,hw⟩ (fun hp=>by
        simp only[cx,Bool.and_eq_true] at hp
        exact⟨hg.nil hp.1,hw.nil hp.2.1⟩)
  exact⟨H',n',e1,e2,e3⟩
end Go.Proofs.Ytekajfobmnedjaa.spec
end
section
namespace Go.Ev
open Go
variable {P:Program} {t:TypeId} {x y:Operand} {a b:Int} {ρ:Type}
theorem bin_rem (hb:b≠0):binV P .rem t x y (.int .i64 a) (.int .i64 b)=some (.int .i64 (a.tmod b)):=by
  refine xw (by simp [binOp,Op.intDiv,hb]) rfl ?_
  rintro m n rfl rfl
  exact .inr rfl
theorem Tj {a n:Nat} (h:n≠0):((a:Int).tmod (n:Int))=((a % n:Nat):Int):=by
  rw[Int.tmod_eq_emod_of_nonneg (by omega)]
  rfl
end Go.Ev
end
section
namespace Go.Proofs.Ytekajfobmnedjaa.spec
open Go Go.Ev Go.Proofs.Ytekajfobmnedjaa.nestFits Go.Proofs.Ytekajfobmnedjaa.G
set_option maxRecDepth 100000
variable {ρ:Type}
theorem list_at (c:Cal) (k:Nat) {H:Hp} {n len:Nat} {v:Value} {xs:List Int} (h:ListR H n v len xs) (h0:len≠0) (hlen:len≤1000) :
    ∃ H' n',Ly c k v H n=some (.slice (some ⟨n+1,0,none⟩) len capV,H',n')∧n+1<n'∧Keep n H H'∧H'.get (n+1)=some (.cells (ints xs) 3 false (some 1)):=by
  unfold Ly B23_0 rowK
  rw[row44_0,aj]
  unfold newK
  dsimp only
  have hk:Keep n H (H.set n (some (.cells [] 3 false none))):=(Keep.refl n H).set (Nat.le_refl _) _
  have hg:(H.set n (some (.cells [] 3 false none))).get n=some (.cells [] 3 false none):=by rw[Tr.get_set,if_pos rfl]
  have h1:=h.keep hk (show n≤n+1 by omega)
  generalize H.set n (some (.cells [] 3 false none))=H1 at hk hg h1 ⊢
  have hold:qj H1 ⟨n,0,none⟩ (0 * 1)=some []:=xj (L:=[]) (dj hg) rfl rfl
  have hbig:oQ (0+len) 1 8=true:=by unfold oQ; simp; omega
  have hb1:Nat.beq (bj (.int .i64 0)).length 1=true:=rfl
  have c0:Nat.blt 0 capV=true:=by decide +kernel
  have ha:fQ P (bare H1 (n+1)) 44 44 (.slice (some ⟨n,0,none⟩) 0 0) v=some (.slice (some ⟨n+1,0,none⟩) len capV,bare (H1.set (n+1) (some (.cells (ints xs) 3 false (some 1)))) (n+1+1)):=by
    unfold fQ
    have hs:lY (bare H1 (n+1)).H 1 v=some (ints xs,len):=h1.src
    have hold':qj (bare H1 (n+1)).H ⟨n,0,none⟩ (0 * 1)=some []:=hold
    simp only[sl44,sz3,by3,zero3,hs,hb1,hold',hbig]
    unfold qq
    have c1:Nat.ble len 0=false:=by
      cases len with
      | zero=>exact absurd rfl h0
      | succ m=>rfl
    simp only[c0,c1,Ny,bare,rv,List.nil_append,Nat.zero_add]
  unfold stK
  dsimp only
  rw[ha,aj]
  dsimp only [bare]
  exact⟨_,_,rfl,by omega,hk.set (by omega) _,by rw[Tr.get_set,if_pos rfl]⟩
theorem list_own (c:Cal) (k:Nat) {H:Hp} {n len:Nat} {v:Value} {xs:List Int} (h:ListR H n v len xs) (h0:len≠0) (hlen:len≤1000) :
    ∃ b cap H' n',Ly c k v H n=some (.slice (some ⟨b,0,none⟩) len cap,H',n')∧n≤b∧b<n'∧Keep n H H'∧H'.get b=some (.cells (ints xs) 3 false (some 1)):=by
  obtain⟨H',n',e,h1,h2,h3⟩:=list_at c k h h0 hlen
  exact⟨n+1,capV,H',n',e,by omega,h1,h2,h3⟩
theorem list_own_call (l:Nat) {H:Hp} {n len:Nat} {v:Value} {xs:List Int} (h:ListR H n v len xs) (h0:len≠0) (hlen:len≤1000) :
    ∃ b cap H' n',(∀ k:Value→Hp→Nat→Option ρ,aY P (cal (l+1)) 23 [v] H n k=k (.slice (some ⟨b,0,none⟩) len cap) H' n')∧n≤b∧b<n'∧Keep n H H'∧H'.get b=some (.cells (ints xs) 3 false (some 1)):=by
  obtain⟨b,cap,H',n',e,h1,h2,h3,h4⟩:=list_own (cal l) KK h h0 hlen
  refine⟨b,cap,H',n',fun k=>?_,h1,h2,h3,h4⟩
  unfold aY
  rw[flat23,call23,e]
  rfl
theorem at44L (b len cap:Nat) {i:Nat} (hi:i<len):aQ P 44 (.slice (some ⟨b,0,none⟩) len cap) (.int .i64 i)=some (.pointer (some ⟨b,0+i * 1,none⟩)):=by
  unfold aQ
  simp only[und44,CQ hi,sz3]
  rfl
theorem store3 (H:Hp) (b o:Nat) (a:Int):bJ P 3 (.pointer (some ⟨b,o,none⟩)) (.int .i64 a) H=storeN H ⟨b,o,none⟩ [.int .i64 a]:=by kernel_rfl
theorem eq29 (p q:Operand) (E:Int):binV P .eql 29 p q (.int .i64 E) (.int .i64 0)=some (.bool (decide (E=0))):=lq
theorem ready_spec (l:Nat) {np nj nk nl:Nat} {ps js ks ls:List Int} {H:Hp} {n:Nat} {v w:Value} (hg:GroveI H n v np nj nk ps js ks) (hw:ListR H n w nl ls) :
    ∃ r,Ret (C55_0 (cal (l+6)) KK v w H n) n H (.bool r)∧(r=true↔thin np nj nk nl∧eJ np nj nk nl ps js ks ls=0):=by
  have hg0:=hg
  obtain⟨x,y,z,rfl,h1,h2,h3⟩:=hg.eq
  unfold C55_0 B55_0
  rw[dq]
  simp only[bj,ptr]
  have hk:Keep n H (H.set n (some (.cells [x,y,z] 26 false none))):=(Keep.refl n H).set (Nat.le_refl _) _
  have hb:aX (H.set n (some (.cells [x,y,z] 26 false none))) n 0 [x,y,z]:=aX.new
  generalize H.set n (some (.cells [x,y,z] 26 false none))=H1 at hk hb ⊢
  have ld:∀ H2,aX H2 n 0 [x,y,z]→az P H2 26 ⟨n,0,none⟩=some (.agg ⟨[x,y,z]⟩):=fun H2 h=>Cy h h1.hole.1 h2.hole.1 h3.hole.1
  have hg1:GroveI H1 (n+1) (.agg ⟨[x,y,z]⟩) np nj nk ps js ks:=hg0.keep hk (by omega)
  have hw1:=hw.keep hk (show n≤n+1 by omega)
  obtain⟨t,H2,n2,t1,t2,t3,t4⟩:=thin_call (ρ:=Value × Hp × Nat) (l+5) hg1 hw1.len_eq
  rw[aJ,aj,ld H1 hb,aj,t2]
  cases t with
  | false=>
    simp only[eX,dk,aj]
    exact⟨false,⟨H2,n2,rfl,by omega,hk.trans t4 (by omega)⟩,⟨fun h=>(by cases h),fun h=>absurd (t1.2 h.1) (by simp)⟩⟩
  | true=>
    have hb2:=hb.keep t4 (by omega)
    obtain⟨H3,n3,e1,e2,e3⟩:=placedN_call (ρ:=Value × Hp × Nat) l (hg1.keep t4 t3) (hw1.keep t4 t3)
    simp only[dX,aj,ld H2 hb2,e1,ak (eq29 _ _ _),dQ]
    refine⟨_,⟨H3,n3,rfl,by omega,(hk.trans t4 (by omega)).trans e3 (by omega)⟩,?_⟩
    rw[decide_eq_true_iff]
    exact⟨fun h=>⟨t1.1 rfl,h⟩,fun h=>h.2⟩
theorem call55 (l:Nat) (a b:Value) (H:Hp) (n:Nat):(cal (l+1)).call 55 [a,b] H n=C55_0 (cal l) KK a b H n:=by kernel_rfl
theorem ready_call (l:Nat) {np nj nk nl:Nat} {ps js ks ls:List Int} {H:Hp} {n:Nat} {v w:Value} (hg:GroveI H n v np nj nk ps js ks) (hw:ListR H n w nl ls) :
    ∃(r:Bool) (H':Hp) (n':Nat),(r=true↔thin np nj nk nl∧eJ np nj nk nl ps js ks ls=0)∧(∀ k:Value→Hp→Nat→Option ρ,aY P (cal (l+7)) 55 [v,w] H n k=k (.bool r) H' n')∧n≤n'∧Keep n H H':=by
  obtain⟨r,H',n',⟨b,rfl,hb⟩,e1,e2,e3⟩:=ew (ρ:=ρ) (P:=P) (cal:=cal (l+7)) (f:=55) (args:=[v,w]) (H:=H) (n:=n)
    (Pre:=fun H n=>GroveI H n v np nj nk ps js ks∧ListR H n w nl ls) (Q:=fun r=>∃ b:Bool,r=.bool b∧(b=true↔thin np nj nk nl∧eJ np nj nk nl ps js ks ls=0))
    (fun H n h=>by
      obtain⟨r,h1,h2⟩:=ready_spec l h.1 h.2
      exact⟨.bool r,by rw[call55]; exact h1,r,rfl,h2⟩) (fun r ⟨b,e,_⟩ _=>by subst e; rfl) ⟨hg,hw⟩ (fun hp=>by
        simp only[cx,Bool.and_eq_true] at hp
        exact⟨hg.nil hp.1,hw.nil hp.2.1⟩)
  exact⟨b,H',n',hb,e1,e2,e3⟩
end Go.Proofs.Ytekajfobmnedjaa.spec
end
section
namespace Go.Proofs.Ytekajfobmnedjaa.spec
open Go Go.Ev Go.Proofs.Ytekajfobmnedjaa.nestFits Go.Proofs.Ytekajfobmnedjaa.G
set_option maxRecDepth 100000
variable {ρ:Type}
def Tq (js ks ps L:List Int) (nj np:Nat):Prop:=∀ q,q<np→¬ bsum js ks L nj np 8 0 q<ps.getD (q * 2) 0∧¬ ps.getD (q * 2+1) 0<bsum js ks L nj np 8 1 q
theorem right_iff {js ks ps L X:List Int} {nj np:Nat} (hX:Vv X js ks L nj np 8) (hnp:np≤8):RightX X ps np↔Tq js ks ps L nj np:=by
  unfold RightX Tq missB NX
  constructor
  · intro h q hq
    obtain⟨a,b⟩:=hX.2 q (by omega)
    obtain⟨c,d⟩:=h q hq
    rw[← a,← b]
    exact⟨of_decide_eq_false c,of_decide_eq_false d⟩
  · intro h q hq
    obtain⟨a,b⟩:=hX.2 q (by omega)
    obtain⟨c,d⟩:=h q hq
    rw[← a] at c
    rw[← b] at d
    exact⟨decide_eq_false c,decide_eq_false d⟩
theorem agg44:fk P 44=some false:=by kernel_rfl
theorem sz44:szT P 44=some 1:=by kernel_rfl
end Go.Proofs.Ytekajfobmnedjaa.spec
end
section
namespace Go.Proofs.Ytekajfobmnedjaa.spec
open Go Go.Ev Go.Proofs.Ytekajfobmnedjaa.nestFits Go.Proofs.Ytekajfobmnedjaa.G
set_option maxRecDepth 100000
variable {ρ:Type}
theorem EQ {L:List Int} {p:Nat} {a:Int} (h:p<L.length):(L.set p a).getD p 0=a:=by
  rw[List.getD_eq_getElem?_getD,List.getElem?_set,if_pos rfl,if_pos h]
  rfl
theorem AX {L:List Int} {p q:Nat} {a:Int} (h:q≠p):(L.set p a).getD q 0=L.getD q 0:=by
  rw[List.getD_eq_getElem?_getD,List.getElem?_set,if_neg (by omega),← List.getD_eq_getElem?_getD]
theorem at45 (b k c:Nat) {i:Nat} (hi:i<k):aQ P 45 (.slice (some ⟨b,0,none⟩) k c) (.int .i64 i)=some (.pointer (some ⟨b,0+i * 2,none⟩)):=by
  unfold aQ
  simp only[und45,CQ hi,sz53]
  rfl
end Go.Proofs.Ytekajfobmnedjaa.spec
end
section
namespace Go.Proofs.Ytekajfobmnedjaa.spec
open Go Go.Ev Go.Proofs.Ytekajfobmnedjaa.nestFits Go.Proofs.Ytekajfobmnedjaa.G
set_option maxRecDepth 100000
def cntL (L:List Int):Nat→Nat→Nat
  | _,0=>0
  | p,d+1=>(if L.getD p 0=-1 then 0 else 1)+cntL L (p+1) d
theorem cntL_zero {L:List Int}:∀ {p d:Nat},cntL L p d=0→∀ q,p≤q→q<p+d→L.getD q 0=-1
  | p,0,_,q,h1,h2=>by omega
  | p,d+1,h,q,h1,h2=>by
    simp only[cntL] at h
    by_cases c:L.getD p 0=-1
    · by_cases e:q=p
      · rw[e]; exact c
      · rw[if_pos c] at h
        exact cntL_zero (p:=p+1) (d:=d) (by omega) q (by omega) (by omega)
    · rw[if_neg c] at h; omega
structure GoesOn (tk:Nat→Nat→Bool) (nk:Nat) (L:List Int) (p d left:Nat) (M:List Int):Prop where
  len:M.length=8
  before:∀ q,q<p→M.getD q 0=L.getD q 0
  kinds:∀ q,p≤q→q<p+d→M.getD q 0=-1∨∃ kd:Nat,kd<nk∧tk q kd=true∧M.getD q 0=kd
  after:∀ q,p+d≤q→q<8→M.getD q 0=-1
  cnt:cntL M p d=left
theorem list_ext8 {L M:List Int} (hL:L.length=8) (hM:M.length=8) (h:∀ q,q<8→L.getD q 0=M.getD q 0):L=M:=by
  apply List.ext_getElem?
  intro k
  by_cases hk:k<8
  · rw[getD_some (by omega),getD_some (by omega),h k hk]
  · rw[List.getElem?_eq_none (by omega),List.getElem?_eq_none (by omega)]
def Open (L:List Int) (p:Nat):Prop:=L.length=8∧∀ q,p≤q→q<8→L.getD q 0=-1
theorem GoesOn.none {tk:Nat→Nat→Bool} {nk:Nat} {L M:List Int} {p d:Nat} (h:GoesOn tk nk L p d 0 M) (hL:Open L p):M=L:=by
  refine list_ext8 h.len hL.1 fun q hq=>?_
  by_cases c:q<p
  · exact h.before q c
  · rw[hL.2 q (by omega) hq]
    by_cases e:q<p+d
    · exact cntL_zero h.cnt q (by omega) e
    · exact h.after q (by omega) hq
theorem GoesOn.skip {tk:Nat→Nat→Bool} {nk:Nat} {L M:List Int} {p d left:Nat} (h:GoesOn tk nk L p (d+1) left M) (hp:M.getD p 0=-1) (hL:Open L p) (hp8:p<8):GoesOn tk nk L (p+1) d left M:=by
  refine⟨h.len,fun q hq=>?_,fun q h1 h2=>h.kinds q (by omega) (by omega),fun q h1 h2=>h.after q (by omega) h2,?_⟩
  · by_cases e:q=p
    · rw[e,hp,hL.2 p (Nat.le_refl _) hp8]
    · exact h.before q (by omega)
  · have:=h.cnt
    simp only[cntL] at this
    rw[if_pos hp] at this
    omega
theorem GoesOn.put {tk:Nat→Nat→Bool} {nk kd:Nat} {L M:List Int} {p d left:Nat} (h:GoesOn tk nk L p (d+1) left M) (hp:M.getD p 0=kd) (hL:Open L p) (hp8:p<8):GoesOn tk nk (L.set p (kd:Int)) (p+1) d (left-1) M:=by
  refine⟨h.len,fun q hq=>?_,fun q h1 h2=>h.kinds q (by omega) (by omega),fun q h1 h2=>h.after q (by omega) h2,?_⟩
  · by_cases e:q=p
    · rw[e,hp,EQ (by rw[hL.1]; exact hp8)]
    · rw[AX e]; exact h.before q (by omega)
  · have:=h.cnt
    simp only[cntL] at this
    rw[if_neg (by omega)] at this
    omega
theorem Open.skip {L:List Int} {p:Nat} (h:Open L p):Open L (p+1):=⟨h.1,fun q h1 h2=>h.2 q (by omega) h2⟩
theorem Open.put {L:List Int} {p:Nat} {a:Int} (h:Open L p):Open (L.set p a) (p+1):=⟨by simp [h.1],fun q h1 h2=>by rw[AX (by omega)]; exact h.2 q (by omega) h2⟩
end Go.Proofs.Ytekajfobmnedjaa.spec
end
section
namespace Go.Proofs.Ytekajfobmnedjaa.spec
open Go Go.Ev Go.Proofs.Ytekajfobmnedjaa.nestFits Go.Proofs.Ytekajfobmnedjaa.G
set_option maxRecDepth 100000
variable {ρ:Type}
structure PartAt (H0 H:Hp) (base n g:Nat) (x y z:Value) (lo hi r1 r2:Int):Prop where
  keep:Keep base H0 H
  below:base+3≤g
  top:g<n
  box:H.get base=some (.cells [x,y,z] 26 false none)
  res:H.get (base+1)=some (.cells [.int .i64 0,.int .i64 0] 55 false none)
  out:H.get (base+2)=some (.cells [.int .i64 lo,.int .i64 hi] 55 false none)
  row:H.get g=some (.cells [.int .i64 r1,.int .i64 r2] 55 false none)
theorem PartAt.go {H0 H H':Hp} {base n n' g:Nat} {x y z:Value} {lo hi r1 r2:Int} (h:PartAt H0 H base n g x y z lo hi r1 r2) (hk:Keep n H H') (hn:n≤n'):PartAt H0 H' base n' g x y z lo hi r1 r2:=by
  have:=h.below
  have:=h.top
  exact⟨h.keep.trans hk (by omega),h.below,by omega,(hk _ (by omega)).trans h.box,(hk _ (by omega)).trans h.res,(hk _ (by omega)).trans h.out,(hk _ (by omega)).trans h.row⟩
theorem PartAt.put {H0 H:Hp} {base n g:Nat} {x y z:Value} {lo hi r1 r2:Int} (h:PartAt H0 H base n g x y z lo hi r1 r2) (u w:Int):PartAt H0 (H.set (base+2) (some (.cells [.int .i64 u,.int .i64 w] 55 false none))) base n g x y z u w r1 r2:=by
  have:=h.below
  refine⟨h.keep.set (by omega) _,h.below,h.top,?_,?_,?_,?_⟩
  · rw[Tr.get_set,if_neg (by omega)]; exact h.box
  · rw[Tr.get_set,if_neg (by omega)]; exact h.res
  · rw[Tr.get_set,if_pos rfl]
  · rw[Tr.get_set,if_neg (by omega)]; exact h.row
end Go.Proofs.Ytekajfobmnedjaa.spec
end
section
namespace Go.Proofs.Ytekajfobmnedjaa.spec
open Go Go.Ev Go.Proofs.Ytekajfobmnedjaa.nestFits Go.Proofs.Ytekajfobmnedjaa.G
set_option maxRecDepth 100000
variable {ρ:Type}
theorem effK_a {H:Hp} {n id:Nat} {c:List Value} {e:TypeId} {op:Hp→Nat→(Value→Hp→Nat→Option ρ)→Option ρ} {k:Value→Hp→Nat→Option ρ} :
    effK P [.a id c e] H n op k=op (H.set id none) n (fun v H2 n2=>k v (H2.set id (H.get id)) n2):=rfl
structure SumAt (H0 H:Hp) (base n:Nat) (x y z:Value) (lo hi:Int):Prop where
  keep:Keep base H0 H
  top:base+3≤n
  box:H.get base=some (.cells [x,y,z] 26 false none)
  res:H.get (base+1)=some (.cells [.int .i64 0,.int .i64 0] 55 false none)
  out:H.get (base+2)=some (.cells [.int .i64 lo,.int .i64 hi] 55 false none)
theorem SumAt.go {H0 H H':Hp} {base n n':Nat} {x y z:Value} {lo hi:Int} (h:SumAt H0 H base n x y z lo hi) (hk:Keep n H H') (hn:n≤n'):SumAt H0 H' base n' x y z lo hi:=by
  have:=h.top
  exact⟨h.keep.trans hk (by omega),by omega,(hk _ (by omega)).trans h.box,(hk _ (by omega)).trans h.res,(hk _ (by omega)).trans h.out⟩
theorem SumAt.put {H0 H:Hp} {base n:Nat} {x y z:Value} {lo hi:Int} (h:SumAt H0 H base n x y z lo hi) (u w:Int):SumAt H0 (H.set (base+2) (some (.cells [.int .i64 u,.int .i64 w] 55 false none))) base n x y z u w:=by
  refine⟨h.keep.set (by omega) _,h.top,?_,?_,?_⟩
  · rw[Tr.get_set,if_neg (by omega)]; exact h.box
  · rw[Tr.get_set,if_neg (by omega)]; exact h.res
  · rw[Tr.get_set,if_pos rfl]
end Go.Proofs.Ytekajfobmnedjaa.spec
end
section
namespace Go.Proofs.Ytekajfobmnedjaa.spec
open Go Go.Ev Go.Proofs.Ytekajfobmnedjaa.nestFits Go.Proofs.Ytekajfobmnedjaa.G
set_option maxRecDepth 100000
variable {ρ:Type}
end Go.Proofs.Ytekajfobmnedjaa.spec
end
section
namespace Go.Proofs.Ytekajfobmnedjaa.spec
open Go Go.Ev Go.Proofs.Ytekajfobmnedjaa.nestFits Go.Proofs.Ytekajfobmnedjaa.G
set_option maxRecDepth 100000
variable {ρ:Type}
def qaw (Inv:Hp→Nat→Prop) (Fin:List Int→Hp→Nat→Prop) (base:Nat) (r:Res) (o:Option (List Int)) (H:Hp) (t n:Nat):Prop:=∃ H' n',n≤n'∧(∀ b,base≤b→b<t→H'.get b=H.get b)∧match o with
  | some M=>r=some (.bool false,H',n')∧Fin M H' n'
  | none=>r=some (.bool true,H',n')∧Inv H' n'
theorem qaw.from {Inv:Hp→Nat→Prop} {Fin:List Int→Hp→Nat→Prop} {base t s n m:Nat} {r:Res} {o:Option (List Int)} {H H1:Hp} (h:qaw Inv Fin base r o H1 s m) (hn:n≤m) (ht:t≤s) (hk:∀ b,base≤b→b<t→H1.get b=H.get b):qaw Inv Fin base r o H t n:=by
  obtain⟨H',n',h1,h2,h3⟩:=h
  exact⟨H',n',by omega,fun b hb hbn=>(h2 b hb (by omega)).trans (hk b hb hbn),h3⟩
theorem load_func {H:Hp} {b:Nat} {v:Value} {e t:TypeId} (h:H.get b=some (.cells [v] e false none)) (ht:fk P t=some false) (h1:jV v=true) (h2:tj v=true):az P H t ⟨b,0,none⟩=some v:=
  bw (o:=0) (k:=0) (dj h) ht rfl h1 h2
end Go.Proofs.Ytekajfobmnedjaa.spec
end
section
namespace Go.Proofs.Ytekajfobmnedjaa.spec
open Go Go.Ev Go.Proofs.Ytekajfobmnedjaa.nestFits Go.Proofs.Ytekajfobmnedjaa.G
set_option maxRecDepth 100000
variable {ρ:Type}
end Go.Proofs.Ytekajfobmnedjaa.spec
end
section
namespace Go.Proofs.Ytekajfobmnedjaa.spec
open Go Go.Ev Go.Proofs.Ytekajfobmnedjaa.nestFits Go.Proofs.Ytekajfobmnedjaa.G
set_option maxRecDepth 100000
variable {ρ:Type}
end Go.Proofs.Ytekajfobmnedjaa.spec
end
section
namespace Go.Proofs.Ytekajfobmnedjaa.spec
open Go Go.Ev Go.Proofs.Ytekajfobmnedjaa.nestFits Go.Proofs.Ytekajfobmnedjaa.G
set_option maxRecDepth 100000
variable {ρ:Type}
end Go.Proofs.Ytekajfobmnedjaa.spec
end
section
namespace Go.Proofs.Ytekajfobmnedjaa.spec
open Go Go.Ev Go.Proofs.Ytekajfobmnedjaa.nestFits Go.Proofs.Ytekajfobmnedjaa.G
set_option maxRecDepth 100000
variable {ρ:Type}
end Go.Proofs.Ytekajfobmnedjaa.spec
end
section
namespace Go.Proofs.Ytekajfobmnedjaa.spec
open Go Go.Ev Go.Proofs.Ytekajfobmnedjaa.nestFits Go.Proofs.Ytekajfobmnedjaa.G
set_option maxRecDepth 100000
variable {ρ:Type}
theorem und120:P.underlying 120=some (.array 8 3):=by kernel_rfl
theorem zero120:jX P 120=some (.agg ⟨ints (List.replicate 8 0)⟩):=by kernel_rfl
theorem at120 (b:Nat) {i:Nat} (hi:i<8):aQ P 120 (.pointer (some ⟨b,0,none⟩)) (.int .i64 i)=some (.pointer (some ⟨b,0+i * 1,none⟩)):=by
  unfold aQ
  have:qW (.int .i64 (i:Int)) 8=some i:=by
    show qW (.int .i64 (.ofNat i)) 8=some i
    simp [qW,hi]
  simp only[und120,this,sz3]
  rfl
end Go.Proofs.Ytekajfobmnedjaa.spec
end
section
namespace Go.Proofs.Ytekajfobmnedjaa.spec
open Go Go.Ev Go.Proofs.Ytekajfobmnedjaa.nestFits Go.Proofs.Ytekajfobmnedjaa.G
set_option maxRecDepth 100000
variable {ρ:Type}
end Go.Proofs.Ytekajfobmnedjaa.spec
end
section
namespace Go.Proofs.Ytekajfobmnedjaa.spec
open Go Go.Ev Go.Proofs.Ytekajfobmnedjaa.nestFits Go.Proofs.Ytekajfobmnedjaa.G
set_option maxRecDepth 100000
variable {ρ:Type}
def RowAt (H:Hp) (base n:Nat) (v:Value) (xs:List Int):Prop:=(v=.slice none 0 0∧xs=[])∨∃ b cap,v=.slice (some ⟨b,0,none⟩) xs.length cap∧base≤b∧b<n∧H.get b=some (.cells (ints xs) 3 false (some 1))
theorem RowAt.same {H H':Hp} {base n m:Nat} {v:Value} {xs:List Int} (h:RowAt H base n v xs) (hm:n≤m) (hk:∀ b,base≤b→b<n→H'.get b=H.get b):RowAt H' base m v xs:=by
  rcases h with h | ⟨b,cap,e,h1,h2,h3⟩
  · exact .inl h
  · exact .inr ⟨b,cap,e,h1,by omega,by rw[hk b h1 h2]; exact h3⟩
theorem RowAt.list {H:Hp} {base n:Nat} {v:Value} {xs:List Int} (h:RowAt H base n v xs) (hx:∀ x ∈ xs,I64 x):ListR H n v xs.length xs:=by
  refine⟨rfl,hx,?_⟩
  rcases h with⟨h1,h2⟩ | ⟨b,cap,e,h1,h2,h3⟩
  · exact .inl ⟨h1,by rw[h2]; rfl⟩
  · exact .inr ⟨b,0,cap,e,h2,dj h3⟩
theorem RowAt.leaf {H:Hp} {base n:Nat} {v:Value} {xs:List Int} (h:RowAt H base n v xs):oY v=true:=by
  rcases h with⟨rfl,_⟩ | ⟨b,cap,rfl,_⟩ <;> rfl
theorem und59:P.underlying 59=some (.slice 44):=by kernel_rfl
theorem at59 (b k c:Nat) {i:Nat} (hi:i<k):aQ P 59 (.slice (some ⟨b,0,none⟩) k c) (.int .i64 i)=some (.pointer (some ⟨b,0+i * 1,none⟩)):=by
  unfold aQ
  simp only[und59,CQ hi,sz44]
  rfl
end Go.Proofs.Ytekajfobmnedjaa.spec
end
section
namespace Go.Proofs.Ytekajfobmnedjaa.spec
open Go Go.Ev Go.Proofs.Ytekajfobmnedjaa.nestFits Go.Proofs.Ytekajfobmnedjaa.G
set_option maxRecDepth 100000
variable {ρ:Type}
theorem zero44:jX P 44=some (.slice none 0 0):=by kernel_rfl
theorem sl59:gJ P 59=some 44:=by kernel_rfl
theorem by44:tZ P 44=some 24:=by kernel_rfl
theorem make59 (H:Hp) (n:Nat) {np:Nat} (h:np≤1000):kJ P 59 (.int .i64 np) (.int .i64 np) (bare H n)=some (.slice (some ⟨n,0,none⟩) np np,bare (H.set n (some (.cells (List.replicate np (.slice none 0 0)) 44 false none))) (n+1)):=by
  show kJ P 59 (.int .i64 (.ofNat np)) (.int .i64 (.ofNat np)) (bare H n)=_
  unfold kJ
  have hb:oQ np 1 24=true:=by unfold oQ; simp; omega
  simp only[sl59,sz44,by44,zero44]
  rw[if_pos ⟨Nat.le_refl _,hb,rfl⟩]
  have:repl np (bj (.slice none 0 0))=List.replicate np (.slice none 0 0):=qaj _ _
  rw[this]
  rfl
end Go.Proofs.Ytekajfobmnedjaa.spec
end
section
namespace Go.Proofs.Ytekajfobmnedjaa.spec
open Go Go.Ev Go.Proofs.Ytekajfobmnedjaa.nestFits Go.Proofs.Ytekajfobmnedjaa.G
set_option maxRecDepth 100000
variable {ρ:Type}
end Go.Proofs.Ytekajfobmnedjaa.spec
end
section
namespace Go.Proofs.Ytekajfobmnedjaa.spec
open Go Go.Ev Go.Proofs.Ytekajfobmnedjaa.nestFits Go.Proofs.Ytekajfobmnedjaa.G
set_option maxRecDepth 100000
variable {ρ:Type}
end Go.Proofs.Ytekajfobmnedjaa.spec
end
section
namespace Go.Proofs.Ytekajfobmnedjaa.spec
open Go Go.Ev Go.Proofs.Ytekajfobmnedjaa.nestFits Go.Proofs.Ytekajfobmnedjaa.G
set_option maxRecDepth 100000
variable {ρ:Type}
structure Stand (H:Hp) (n m0 b1 b4 b5 g np nj nk:Nat) (f:Nat→Value) (x y z:Value) (ps js ks:List Int):Prop where
  at1:H.get b1=some (.cells [.pointer (some ⟨g,0,none⟩)] 105 false none)
  at4:∃ w,H.get b4=some (.cells w 121 false none)∧w.length=8
  at5:∃ w,H.get b5=some (.cells [w] 4 false none)
  cells:bQ H g 859 117 f
  site:SiteF f x y z js nj
  kinds:lenV P 33 z=some (.int .i64 nk)
  nests:∀ p kd,p<np→kd<nk→vQ f js ks nj np p kd
  ok:pJ ks nk
  pads:dv H m0 2 x np ps
  np8:np≤8
  nk3:nk≤3
  low:m0≤n∧b1<n∧b4<n∧b5<n∧g<n
  apart:b4≠b5
theorem Stand.keep {H H':Hp} {n n' m0 b1 b4 b5 g np nj nk:Nat} {f:Nat→Value} {x y z:Value} {ps js ks:List Int} (h:Stand H n m0 b1 b4 b5 g np nj nk f x y z ps js ks) (hk:Keep n H H') (hn:n≤n'):Stand H' n' m0 b1 b4 b5 g np nj nk f x y z ps js ks:=by
  obtain⟨l1,l2,l3,l4,l5⟩:=h.low
  refine⟨(hk _ l2).trans h.at1,?_,?_,h.cells.keep hk l5,h.site,h.kinds,h.nests,h.ok,h.pads.keep (hk.le l1) (Nat.le_refl _),h.np8,h.nk3,⟨by omega,by omega,by omega,by omega,by omega⟩,h.apart⟩
  · obtain⟨w,q1,q2⟩:=h.at4
    exact⟨w,(hk _ l3).trans q1,q2⟩
  · obtain⟨w,q1⟩:=h.at5
    exact⟨w,(hk _ l4).trans q1⟩
end Go.Proofs.Ytekajfobmnedjaa.spec
end
section
namespace Go.Proofs.Ytekajfobmnedjaa.spec
open Go Go.Ev Go.Proofs.Ytekajfobmnedjaa.nestFits Go.Proofs.Ytekajfobmnedjaa.G
set_option maxRecDepth 100000
variable {ρ:Type}
end Go.Proofs.Ytekajfobmnedjaa.spec
end
section
namespace Go.Proofs.Ytekajfobmnedjaa.spec
open Go Go.Ev Go.Proofs.Ytekajfobmnedjaa.nestFits Go.Proofs.Ytekajfobmnedjaa.G
set_option maxRecDepth 100000
variable {ρ:Type}
noncomputable def code82:Code:=cV 82
noncomputable def yZ:List ResultVar:=dW 82
noncomputable def uY:Code:=asgOf (cL (cR (cL (cR (cR code82)))))
noncomputable def uZ:Code:=bodOf (cL (cR (cL (cR (cR code82)))))
noncomputable def K82 (c:Cal) (k:Nat):KC (Value × Hp × Nat):=ay P c (aw P c k) none 82 (cR (cR (cR code82))) .leaf (av P yZ) X0 (av P yZ)
noncomputable def T82 (v0 v1 v3 v5 v7 v8:Value):Tm:=((((((((Tr.nil:Tm).set 0 (some v0)).set 1 (some v1)).set 3 (some v3)).set 4 (some (.int .i64 0))).set 5 (some v5)).set 6 (some v0)).set 7 (some v7)).set 8 (some v8)
theorem pre82 (c:Cal) (k:Nat) (v0 v1:Value) (H:Hp) (n:Nat):aK P c A (k+1) 82 [v0,v1] H n =
    (boxK 121 v1 H n fun v3 H n=>ez P 3 H n fun v5 H n=>aq (bJ P 3 v5 (.int .i64 0) H) fun H=>aq (aW v3) fun a=>aq (az P H 121 a) fun v7=>aY P c 74 [v0,v7] H n fun v8 H n=>
      HJ P c none 82 v8 #[9,10] uY uZ (K82 c k) (upX 0 (K82 c k) X0) (av P yZ) (T82 v0 v1 v3 v5 v7 v8) H n []):=by
  rw[bW (fn:=Go.Proofs.Try.f82) (c:=code82) (rs:=yZ) (by kernel_rfl) (by kernel_rfl) (by kernel_rfl) (by kernel_rfl)]
  kernel_rfl
theorem post82 (c:Cal) (k:Nat) (v0 v1 v3 v5 v7 v8:Value) (H:Hp) (n:Nat) (D:List Nat):K82 c k (T82 v0 v1 v3 v5 v7 v8) H n D =
    (aq (aW v5) fun a=>aq (az P H 3 a) fun v13=>getK (Bq H D) fun H=>aq (resV P ((Tr.nil:Tm).set 4 (some v13)) H yZ) fun vs=>some (oneV vs,H,n)):=by
  kernel_rfl
theorem call82 (l:Nat) (a b:Value) (H:Hp) (n:Nat):(cal (l+1)).call 82 [a,b] H n=aK P (cal l) A (KK+1) 82 [a,b] H n:=by kernel_rfl
theorem asg82_eq (l lp:Nat) (v0 v1 v3 v5 v7 v8 p q:Value) (H:Hp) (n:Nat) :
    (cal (l+1)).body lp 82 uY { T:=((T82 v0 v1 v3 v5 v7 v8).set 9 (some p)).set 10 (some q),H,n,D:=[] }=some (.norm,{ T:=((T82 v0 v1 v3 v5 v7 v8).set 9 (some p)).set 10 (some q),H,n,D:=[] }):=by kernel_rfl
theorem bod82_eq (l lp:Nat) (v0 v1 v3 v5 v7 v8 p q:Value) (H:Hp) (n:Nat) :
    (cal (l+1)).body lp 82 uZ { T:=((T82 v0 v1 v3 v5 v7 v8).set 9 (some p)).set 10 (some q),H,n,D:=[] } =
      (aq (aW v5) fun a=>aq (az P H 3 a) fun v11=>binK P .add 3 (.tmp 11) (.const (.int .i64 1)) v11 (.int .i64 1) fun v12=>aq (bJ P 3 v5 v12 H) fun H=>
        some (.norm,{ T:=((((T82 v0 v1 v3 v5 v7 v8).set 9 (some p)).set 10 (some q)).set 11 (some v11)).set 12 (some v12),H,n,D:=[] })):=by kernel_rfl
theorem res82 (v:Value) (H:Hp):resV P ((Tr.nil:Tm).set 4 (some v)) H yZ=some [v]:=by kernel_rfl
theorem ntm82:ntm P 82=14:=by kernel_rfl
theorem range82 (c:Cal) (a b:Value) (K:KC (Value × Hp × Nat)) (X:XC (Value × Hp × Nat)) (Kr:KC (Value × Hp × Nat)) (T:Tm) (H:Hp) (n:Nat) :
    HJ P c none 82 (.func (.func 104) ⟨[]⟩ ⟨[a,b]⟩) #[9,10] uY uZ K X Kr T H n [] =
      aY P c 104 [.func (.yield (n+1)) #[] #[],a,b] ((H.set n (some .deferred)).set (n+1) (some (.loop .ready none 82 T (ntm P 82) #[9,10] uY uZ n))) (n+2) fun _ H n'=>fin K X Kr (qv (n+1) { T:=T,H,n:=n',D:=[n] }):=rfl
theorem yield82 (L:Nat) {H:Hp} {n lb b5 d:Nat} {v0 v1 v3 v7 v8 q0 q1:Value} {c:Int} (hl:H.get lb=some (.loop .ready none 82 (T82 v0 v1 v3 (.pointer (some ⟨b5,0,none⟩)) v7 v8) (ntm P 82) #[9,10] uY uZ d))
    (h5:H.get b5=some (.cells [.int .i64 c] 3 false none)) (hc:I64 (c+1)) (n5:b5≠lb) :
    ∃ H',(∀ k:Value→Hp→Nat→Option ρ,lK P (cal (L+1)) (.func (.yield lb) #[] #[]) [q0,q1] H n k=k (.bool true) H' n)∧H'.get lb=H.get lb ∧
      H'.get b5=some (.cells [.int .i64 (c+1)] 3 false none)∧∀ b,b≠lb→b≠b5→H'.get b=H.get b:=by
  have hpar:zY (T82 v0 v1 v3 (.pointer (some ⟨b5,0,none⟩)) v7 v8) (ntm P 82) (#[9,10]:Array Tmp).toList [q0,q1]=some (((T82 v0 v1 v3 (.pointer (some ⟨b5,0,none⟩)) v7 v8).set 9 (some q0)).set 10 (some q1)):=by
    rw[ntm82]; rfl
  have hasg:=asg82_eq L lb v0 v1 v3 (.pointer (some ⟨b5,0,none⟩)) v7 v8 q0 q1 H n
  have hrdy:Bw H lb=true:=by unfold Bw; rw[hl]
  have hpen:qy H lb=none:=by unfold qy; rw[hl]
  have hbd:=fun H=>bod82_eq L lb v0 v1 v3 (.pointer (some ⟨b5,0,none⟩)) v7 v8 q0 q1 H n
  generalize T82 v0 v1 v3 (.pointer (some ⟨b5,0,none⟩)) v7 v8=T at hl hpar hasg hbd
  have hbusy:oX H lb .busy none=some (H.set lb (some (.loop .busy none 82 T (ntm P 82) #[9,10] uY uZ d))):=by unfold oX; rw[hl]
  have g5:(H.set lb (some (.loop .busy none 82 T (ntm P 82) #[9,10] uY uZ d))).get b5=some (.cells [.int .i64 c] 3 false none):=by rw[Tr.get_set,if_neg n5]; exact h5
  have gl:(H.set lb (some (.loop .busy none 82 T (ntm P 82) #[9,10] uY uZ d))).get lb=some (.loop .busy none 82 T (ntm P 82) #[9,10] uY uZ d):=by rw[Tr.get_set,if_pos rfl]
  have ho:∀ b,b≠lb→(H.set lb (some (.loop .busy none 82 T (ntm P 82) #[9,10] uY uZ d))).get b=H.get b:=fun b hb=>by rw[Tr.get_set,if_neg hb]
  generalize H.set lb (some (.loop .busy none 82 T (ntm P 82) #[9,10] uY uZ d))=H2 at hbusy g5 gl ho
  have hst:=mV (vs:=[.int .i64 (c+1)]) g5 rfl rfl
  have l5:az P H2 3 ⟨b5,0,none⟩=some (.int .i64 c):=bv (o:=0) (k:=0) (dj g5) agg3 rfl
  have hbody:=hbd H2
  rw[aJ,aj,l5,aj,ak (bV hc),wX sz3 rfl,hst,aj] at hbody
  have q5:(H2.set b5 (some (.cells [.int .i64 (c+1)] 3 false none))).get b5=some (.cells [.int .i64 (c+1)] 3 false none):=by rw[Tr.get_set,if_pos rfl]
  have ql:(H2.set b5 (some (.cells [.int .i64 (c+1)] 3 false none))).get lb=some (.loop .busy none 82 T (ntm P 82) #[9,10] uY uZ d):=by rw[Tr.get_set,if_neg (Ne.symm n5)]; exact gl
  have qo:∀ b,b≠lb→b≠b5→(H2.set b5 (some (.cells [.int .i64 (c+1)] 3 false none))).get b=H.get b:=fun b hb hb5=>by rw[Tr.get_set,if_neg hb5]; exact ho b hb
  generalize H2.set b5 (some (.cells [.int .i64 (c+1)] 3 false none))=H3 at q5 ql qo hbody
  have hend:oX H3 lb .ready none=some (H3.set lb (some (.loop .ready none 82 T (ntm P 82) #[9,10] uY uZ d))):=by unfold oX; rw[ql]
  refine⟨H3.set lb (some (.loop .ready none 82 T (ntm P 82) #[9,10] uY uZ d)),fun k=>?_,by rw[Tr.get_set,if_pos rfl,hl],by rw[Tr.get_set,if_neg n5]; exact q5,fun b hb hb5=>by rw[Tr.get_set,if_neg hb,qo b hb hb5]⟩
  show stK (tK (fun | some l=>(cal (L+1)).body l | none=>fun _ _ _=>none) P lb [q0,q1] (bare H n)) k=_
  have hy:tK (fun | some l=>(cal (L+1)).body l | none=>fun _ _ _=>none) P lb [q0,q1] (bare H n)=some (.bool true,{ bare H n with H:=H3.set lb (some (.loop .ready none 82 T (ntm P 82) #[9,10] uY uZ d)),n:=n }):=by
    unfold tK
    have hb:Nat.beq (ntm P 82) (ntm P 82)=true:=Nat.beq_refl _
    have hx:Oy .norm=some none:=rfl
    simp only[bare,hl,hb,hpar,hasg,hrdy,hpen,hbusy,hbody,hx,Option.isNone_none,if_true,hend]
  rw[hy]
  rfl
noncomputable def cntI (L:List Int) (i:Nat):Int:=aZ (fun p=>if L.getD p 0=-1 then 0 else 1) i
theorem cntI_range (L:List Int):∀ i,0≤cntI L i∧cntI L i≤i
  | 0=>⟨Int.le_refl _,Int.le_refl _⟩
  | i+1=>by
    obtain⟨h1,h2⟩:=cntI_range L i
    unfold cntI at h1 h2 ⊢
    simp only[aZ]
    split <;> omega
theorem count_call (l:Nat) {H:Hp} {n g np nj nk:Nat} {f:Nat→Value} {js ks L:List Int} (hf:bQ H g 859 117 f) (hn:∀ p kd,p<np→kd<nk→vQ f js ks nj np p kd) (hL:L.length=8) (hK:tw L np nk) (hnp:np≤8) (hnk:nk≤3) (hg:g<n) :
    ∃ H' n',(∀ k:Value→Hp→Nat→Option ρ,aY P (cal (l+3)) 82 [.pointer (some ⟨g,0,none⟩),.agg ⟨ints L⟩] H n k=k (.int .i64 (cntI L 8)) H' n')∧n≤n'∧Keep n H H':=by
  have lens:(ints L).length=8:=by rw[bq,hL]
  have key:Ret ((cal (l+3)).call 82 [.pointer (some ⟨g,0,none⟩),.agg ⟨ints L⟩] H n) n H (.int .i64 (cntI L 8)):=by
    rw[call82 (l+2),pre82,dq,iV zero3]
    have c1:bj (.agg ⟨ints L⟩)=ints L:=rfl
    have c2:bj (.int .i64 0)=[.int .i64 0]:=rfl
    simp only[ptr]
    rw[c1,c2]
    have a1:((H.set n (some (.cells (ints L) 121 false none))).set (n+1) (some (.cells [.int .i64 0] 3 false none))).get (n+1)=some (.cells [.int .i64 0] 3 false none):=by rw[Tr.get_set,if_pos rfl]
    have a0:((H.set n (some (.cells (ints L) 121 false none))).set (n+1) (some (.cells [.int .i64 0] 3 false none))).get n=some (.cells (ints L) 121 false none):=by rw[Tr.get_set,if_neg (by omega),Tr.get_set,if_pos rfl]
    have a2:Keep n H ((H.set n (some (.cells (ints L) 121 false none))).set (n+1) (some (.cells [.int .i64 0] 3 false none))):=((Keep.refl n H).set (Nat.le_refl _) _).set (by omega) _
    generalize (H.set n (some (.cells (ints L) 121 false none))).set (n+1) (some (.cells [.int .i64 0] 3 false none))=H1 at a0 a1 a2 ⊢
    have s1:=mV (vs:=[.int .i64 0]) a1 rfl rfl
    rw[wX sz3 rfl,s1,aj]
    have b1:(H1.set (n+1) (some (.cells [.int .i64 0] 3 false none))).get (n+1)=some (.cells [.int .i64 0] 3 false none):=by rw[Tr.get_set,if_pos rfl]
    have b0:(H1.set (n+1) (some (.cells [.int .i64 0] 3 false none))).get n=some (.cells (ints L) 121 false none):=by rw[Tr.get_set,if_neg (by omega)]; exact a0
    have b2:Keep n H (H1.set (n+1) (some (.cells [.int .i64 0] 3 false none))):=a2.set (by omega) _
    generalize H1.set (n+1) (some (.cells [.int .i64 0] 3 false none))=H2 at b0 b1 b2 ⊢
    rw[aJ,aj,dw b0 yX rQ lens,aj,placed_call (l+1),range82]
    generalize hH5:(H2.set (n+1+1) (some (.cells [.pointer (some ⟨g,0,none⟩)] 105 false none))).set (n+1+1+1) (some (.cells (ints L) 121 false none))=H5
    have q1:∀ b,b<n+2→H5.get b=H2.get b:=fun b hb=>by rw[← hH5,Tr.get_set,if_neg (by omega),Tr.get_set,if_neg (by omega)]
    have q3:H5.get (n+2)=some (.cells [.pointer (some ⟨g,0,none⟩)] 105 false none):=by rw[← hH5,Tr.get_set,if_neg (by omega),Tr.get_set,if_pos rfl]
    have q4:H5.get (n+3)=some (.cells (ints L) 121 false none):=by rw[← hH5,Tr.get_set,if_pos rfl]
    clear hH5
    have hc104:∀(a b c:Value) (H:Hp) (n:Nat) (k:Value→Hp→Nat→Res),bz b=false→aY P (cal (l+2)) 104 [a,b,c] H n k=aq (Fq (cal (l+1)) KK a b c H n) fun r=>k r.1 r.2.1 r.2.2:=by
      intro a b c H n k hb
      unfold aY
      have:(fX P 104 && cx [a,b,c])=false:=by simp [cx,hb]
      rw[this,call104]
    rw[hc104 _ _ _ _ _ _ rfl]
    have e4:n+1+1+2=n+4:=by omega
    have e5:n+1+1+2+1=n+5:=by omega
    have e6:n+1+1+2+2=n+6:=by omega
    have e3:n+1+1+1=n+3:=by omega
    have e2:n+1+1=n+2:=by omega
    simp only[e4,e5,e6,e3,e2]
    generalize hT:T82 _ _ _ _ _ _=T
    generalize hH6:(H5.set (n+4) (some .deferred)).set (n+5) (some (.loop .ready none 82 T (ntm P 82) #[9,10] uY uZ (n+4)))=H6
    have r1:∀ b,b<n+4→H6.get b=H5.get b:=fun b hb=>by rw[← hH6,Tr.get_set,if_neg (by omega),Tr.get_set,if_neg (by omega)]
    have r2:H6.get (n+4)=some .deferred:=by rw[← hH6,Tr.get_set,if_neg (by omega),Tr.get_set,if_pos rfl]
    have r3:H6.get (n+5)=some (.loop .ready none 82 T (ntm P 82) #[9,10] uY uZ (n+4)):=by rw[← hH6,Tr.get_set,if_pos rfl]
    clear hH6
    have low:∀ b,b<n→H6.get b=H.get b:=fun b hb=>by rw[r1 b (by omega),q1 b (by omega),b2 b hb]
    have l104:az P H6 121 ⟨n+3,0,none⟩=some (.agg ⟨ints L⟩):=dw (by rw[r1 _ (by omega)]; exact q4) yX rQ lens
    obtain⟨H7,n7,i0,i1,i2,i3,i4⟩:=iter104_loop (cal (l+1)) KK (.func (.yield (n+5)) #[] #[]) (n+2) g np nj nk js ks L hL hK hnp hnk
      (fun i Hc nc=>n+6≤nc∧Hc.get (n+5)=some (.loop .ready none 82 T (ntm P 82) #[9,10] uY uZ (n+4))∧Hc.get (n+1)=some (.cells [.int .i64 (cntI L i)] 3 false none)∧∀ b,b<n+6→b≠n+5→b≠n+1→Hc.get b=H6.get b)
      (fun i Hc nc ⟨_,_,_,h⟩=>by
        refine⟨load_func (by rw[h _ (by omega) (by omega) (by omega),r1 _ (by omega)]; exact q3) agg105 rfl rfl,fun p kd hp hkd=>?_⟩
        have cg:bQ Hc g 859 117 f:=by
          obtain⟨c,a1,a2,a3⟩:=hf
          exact⟨c,by rw[h _ (by omega) (by omega) (by omega),low g hg]; exact a1,a2,a3⟩
        exact Mk cg (hn p kd hp hkd) (by omega) (by omega))
      (fun i Hc nc kd B ⟨h1,h2,h3,h4⟩ hip hkd hLi _=>by
        have hr:=cntI_range L i
        rw[← hT] at h2
        obtain⟨H',z1,z2,z3,z4⟩:=yield82 (ρ:=Value × Hp × Nat) l (n:=nc) (q0:=.int .i64 i) (q1:=.agg ⟨ints (bK (ks.getD (kd * 5) 0) (shP js ks nj np i kd) B)⟩) h2 h3 (by unfold I64; omega) (by omega)
        refine⟨H',nc,z1,h1,by rw[z2,h2,hT],?_,fun b hb hb1 hb2=>(z4 b hb1 hb2).trans (h4 b hb hb1 hb2)⟩
        rw[z3]
        unfold cntI
        simp only[aZ]
        rw[if_neg (by omega)])
      (fun i Hc nc ⟨h1,h2,h3,h4⟩ hLi=>⟨h1,h2,by
        rw[h3]
        unfold cntI
        simp only[aZ]
        rw[if_pos hLi,Int.add_zero],h4⟩)
      KK 0 H6 (n+6) ⟨Nat.le_refl _,r3,by rw[r1 _ (by omega),q1 _ (by omega)]; exact b1,fun _ _ _ _=>rfl⟩ (by omega) (by unfold KK; omega)
    have e3':Fq (cal (l+1)) KK (.func (.yield (n+5)) #[] #[]) (.pointer (some ⟨n+3,0,none⟩)) (.pointer (some ⟨n+2,0,none⟩)) H6 (n+6)=some (.tuple ⟨[]⟩,H7,n7):=by
      unfold Fq B104_0
      rw[aJ,aj,l104,aj]
      exact i0
    rw[e3',aj]
    have hout:qv (n+5) { T:=T,H:=H7,n:=n7,D:=[n+4] }=some (.norm,{ T:=T,H:=H7.set (n+5) (some (.loop .exhausted none 82 T (ntm P 82) #[9,10] uY uZ (n+4))),n:=n7,D:=[n+4] }):=by
      unfold qv
      simp only[i2]
    rw[hout]
    show Ret (K82 (cal (l+2)) KK T (H7.set (n+5) (some (.loop .exhausted none 82 T (ntm P 82) #[9,10] uY uZ (n+4)))) n7 [n+4]) n H (.int .i64 (cntI L 8))
    generalize hH8:H7.set (n+5) (some (.loop .exhausted none 82 T (ntm P 82) #[9,10] uY uZ (n+4)))=H8
    have o1:∀ b,b<n+5→H8.get b=H7.get b:=fun b hb=>by rw[← hH8,Tr.get_set,if_neg (by omega)]
    clear hH8 hout
    have l5:az P H8 3 ⟨n+1,0,none⟩=some (.int .i64 (cntI L 8)):=bv (o:=0) (k:=0) (dj (by rw[o1 _ (by omega)]; exact i3)) agg3 rfl
    have ht:Bq H8 [n+4]=some (H8.set (n+4) none):=by
      have:H8.get (n+4)=some .deferred:=by rw[o1 _ (by omega),i4 _ (by omega) (by omega) (by omega)]; exact r2
      unfold Bq
      simp only[this]
      rfl
    rw[← hT,post82,aJ,aj,l5,aj,ht]
    show Ret (aq (resV P ((Tr.nil:Tm).set 4 (some (.int .i64 (cntI L 8)))) (H8.set (n+4) none) yZ) fun vs=>some (oneV vs,H8.set (n+4) none,n7)) n H _
    rw[res82]
    refine⟨_,_,rfl,by omega,fun b hb=>?_⟩
    rw[Tr.get_set,if_neg (by omega),o1 _ (by omega),i4 _ (by omega) (by omega) (by omega),low b hb]
  obtain⟨H',n',e1,e2,e3⟩:=key
  refine⟨H',n',fun k=>?_,e2,e3⟩
  unfold aY
  have:(fX P 82 && cx [.pointer (some ⟨g,0,none⟩),.agg ⟨ints L⟩])=false:=by simp [cx,bz]
  rw[this,e1]
  rfl
end Go.Proofs.Ytekajfobmnedjaa.spec
end
section
namespace Go.Proofs.Ytekajfobmnedjaa.spec
open Go Go.Ev Go.Proofs.Ytekajfobmnedjaa.nestFits Go.Proofs.Ytekajfobmnedjaa.G
set_option maxRecDepth 100000
variable {ρ:Type}
end Go.Proofs.Ytekajfobmnedjaa.spec
end
section
namespace Go.Proofs.Ytekajfobmnedjaa.spec
open Go Go.Ev Go.Proofs.Ytekajfobmnedjaa.nestFits Go.Proofs.Ytekajfobmnedjaa.G
set_option maxRecDepth 100000
variable {ρ:Type}
theorem slice121h (b:Nat) {np:Nat} (h:np≤8):yx P 121 (.pointer (some ⟨b,0,none⟩)) none (some (.int .i64 np))=some (.slice (some ⟨b,0,none⟩) np 8):=by
  show yx P 121 (.pointer (some ⟨b,0,none⟩)) none (some (.int .i64 (.ofNat np)))=_
  unfold yx
  simp [und121,sz3,Hq,hiV,loV,Yv,h,capV,addA]
end Go.Proofs.Ytekajfobmnedjaa.spec
end
section
namespace Go.Proofs.Ytekajfobmnedjaa.spec
open Go Go.Ev Go.Proofs.Ytekajfobmnedjaa.nestFits Go.Proofs.Ytekajfobmnedjaa.G
set_option maxRecDepth 100000
variable {ρ:Type}
theorem call43 (l:Nat) (a b c:Value) (H:Hp) (n:Nat):(cal (l+1)).call 43 [a,b,c] H n=C43_0 (cal l) KK a b c H n:=by kernel_rfl
theorem ProveLayout_spec (l:Nat) {np nj nk nl:Nat} {ps js ks ls:List Int} {H:Hp} {n:Nat} {v w:Value} (hg:gY H n v np nj nk ps js ks) (hw:ListR H n w nl ls) (hnp:np≤1000) (hnj:nj≤1000) (hnk:nk≤1000) (a:Int) :
    ∃ r:Bool,Ret (C43_0 (cal (l+7)) KK v w (.int .i64 a) H n) n H (.bool r)∧(r=true↔eJ np nj nk nl ps js ks ls=0∧Tq js ks ps (fq ls np) nj np∧cntI (fq ls np) 8≤a):=by
  have hg0:=hg
  obtain⟨x,y,z,rfl,h1,h2,h3⟩:=hg
  unfold C43_0 B43_0
  rw[dq]
  simp only[bj,ptr]
  have hk:Keep n H (H.set n (some (.cells [x,y,z] 35 false none))):=(Keep.refl n H).set (Nat.le_refl _) _
  have hb:aX (H.set n (some (.cells [x,y,z] 35 false none))) n 0 [x,y,z]:=aX.new
  generalize H.set n (some (.cells [x,y,z] 35 false none))=H1 at hk hb ⊢
  have lg:az P H1 35 ⟨n,0,none⟩=some (.agg ⟨[x,y,z]⟩):=cw (o:=0) (k:=0) hb NV sz35 (by simp) (by simp [h1.hole.1,h2.hole.1,h3.hole.1])
  obtain⟨o1,o2⟩:=Ek l (hg0.keep hk (show n≤n+1 by omega)) (hw.keep hk (show n≤n+1 by omega)) hnp hnj hnk
  rw[aJ,aj,lg,aj,EJ]
  by_cases he:eJ np nj nk nl ps js ks ls=0
  · obtain⟨⟨g,x',y',z',f,H2,n2,e1,e2,e3,e4,e5,e6,e7,e8,e9⟩,hnl,hok,hft⟩:=o2 he
    simp only[Value.agg.injEq,Array.mk.injEq,List.cons.injEq,and_true] at e6
    obtain⟨rfl,rfl,rfl⟩:=e6
    have good:=Iw hft
    subst hnl
    have np8:=good.np8
    have nk3:=good.nk3
    have l8:=BY hw.1 good.np8
    have hK:tw (fq ls nl) nl nk:=Ix hw.1 hok
    generalize hLL:fq ls nl=L at *
    have lens:(ints L).length=8:=by rw[bq,l8]
    have t0:tupV (.tuple ⟨[.pointer (some ⟨g,0,none⟩),.agg ⟨ints L⟩,.int .i64 0]⟩) 0=some (.pointer (some ⟨g,0,none⟩)):=rfl
    have t1:tupV (.tuple ⟨[.pointer (some ⟨g,0,none⟩),.agg ⟨ints L⟩,.int .i64 0]⟩) 1=some (.agg ⟨ints L⟩):=rfl
    have t2:tupV (.tuple ⟨[.pointer (some ⟨g,0,none⟩),.agg ⟨ints L⟩,.int .i64 0]⟩) 2=some (.int .i64 0):=rfl
    have d0:decide ((0:Int)=0)=true:=rfl
    obtain⟨H3,k1,k2,k3⟩:=uX (P:=P) (ρ:=Value × Hp × Nat) (H:=H2) (n:=n2) (L:=ints L) DJ rfl rQ lens (fx _)
    have kk:Keep (n+1) H1 H3:=e3.trans k1 e2
    have f3:=e7.keep k1 e5
    obtain⟨X,H4,n4,hX,b1,b2,b3⟩:=bounds_call (ρ:=Value × Hp × Nat) (l+3) (show g<n2+1 by omega) f3 e9 good.kinds np8 nk3 l8 hK
    have f4:=f3.keep b3 (show g<n2+1 by omega)
    have k4:Keep n H H4:=fun b hb=>by rw[b3 b (by omega),kk b (by omega),hk b hb]
    obtain⟨r,H5,n5,c0,c1,c2,c3⟩:=right_call (ρ:=Value × Hp × Nat) (l+3) (show g<n4 by omega) f4 e8 ((h1.keep k4 (Nat.le_refl _)).up (by omega)) np8 hX.1
    have hr:r=true↔Tq js ks ps L nj nl:=by rw[c0,right_iff hX np8]
    rw[e1,aj,t0,aj,t1,aj,t2,aj]
    dsimp only
    rw[k3,ak lq,d0]
    have lL:az P H3 121 ⟨n2,0,none⟩=some (.agg ⟨ints L⟩):=dw k2 yX rQ lens
    simp only[dX,aJ,aj,lL,b1,c1,dQ]
    cases r with
    | false=>
      simp only[eX,aj,dk]
      exact⟨false,⟨H5,n5,rfl,by omega,fun b hb=>by rw[c3 b (by omega),k4 b hb]⟩,⟨fun h=>(by cases h),fun h=>absurd (hr.2 h.2.1) (by simp)⟩⟩
    | true=>
      have lL5:az P H5 121 ⟨n2,0,none⟩=some (.agg ⟨ints L⟩):=dw (by rw[c3 _ (by omega),b3 _ (by omega)]; exact k2) yX rQ lens
      obtain⟨H6,n6,q1,q2,q3⟩:=count_call (ρ:=Value × Hp × Nat) (l+4) (n:=n5) (f4.keep c3 (by omega)) e9 l8 hK np8 nk3 (by omega)
      simp only[dX,aj,lL5,q1,ak xx,dQ]
      refine⟨decide (cntI L 8≤a),⟨H6,n6,rfl,by omega,fun b hb=>by rw[q3 b (by omega),c3 b (by omega),k4 b hb]⟩,?_⟩
      rw[decide_eq_true_iff]
      exact⟨fun h=>⟨he,hr.1 rfl,h⟩,fun h=>h.2.2⟩
  · obtain⟨H2,n2,e1,e2,e3⟩:=o1 he
    have t0:tupV (.tuple ⟨[.pointer none,.agg ⟨ints (List.replicate 8 0)⟩,.int .i64 (eJ np nj nk nl ps js ks ls)]⟩) 0=some (.pointer none):=rfl
    have t1:tupV (.tuple ⟨[.pointer none,.agg ⟨ints (List.replicate 8 0)⟩,.int .i64 (eJ np nj nk nl ps js ks ls)]⟩) 1=some (.agg ⟨ints (List.replicate 8 0)⟩):=rfl
    have t2:tupV (.tuple ⟨[.pointer none,.agg ⟨ints (List.replicate 8 0)⟩,.int .i64 (eJ np nj nk nl ps js ks ls)]⟩) 2=some (.int .i64 (eJ np nj nk nl ps js ks ls)):=rfl
    obtain⟨H3,k1,_,k3⟩:=uX (P:=P) (ρ:=Value × Hp × Nat) (H:=H2) (n:=n2) (L:=ints (List.replicate 8 0)) DJ rfl rQ rfl (fx _)
    rw[e1,aj,t0,aj,t1,aj,t2,aj]
    dsimp only
    rw[k3,ak lq,decide_eq_false he]
    simp only[eX,aj,dk]
    exact⟨false,⟨H3,n2+1,rfl,by omega,(hk.trans e3 (by omega)).trans k1 (by omega)⟩,⟨fun h=>(by cases h),fun h=>absurd h.1 he⟩⟩
theorem ProveLayout_call (l:Nat) {np nj nk nl:Nat} {ps js ks ls:List Int} {H:Hp} {n:Nat} {v w:Value} (hg:gY H n v np nj nk ps js ks) (hw:ListR H n w nl ls) (hnp:np≤1000) (hnj:nj≤1000) (hnk:nk≤1000) (a:Int) :
    ∃(r:Bool) (H':Hp) (n':Nat),(r=true↔eJ np nj nk nl ps js ks ls=0∧Tq js ks ps (fq ls np) nj np∧cntI (fq ls np) 8≤a)∧(∀ k:Value→Hp→Nat→Option ρ,aY P (cal (l+8)) 43 [v,w,.int .i64 a] H n k=k (.bool r) H' n')∧n≤n'∧Keep n H H':=by
  obtain⟨r,H',n',⟨b,rfl,hb⟩,e1,e2,e3⟩:=ew (ρ:=ρ) (P:=P) (cal:=cal (l+8)) (f:=43) (args:=[v,w,.int .i64 a]) (H:=H) (n:=n)
    (Pre:=fun H n=>gY H n v np nj nk ps js ks∧ListR H n w nl ls) (Q:=fun r=>∃ b:Bool,r=.bool b∧(b=true↔eJ np nj nk nl ps js ks ls=0∧Tq js ks ps (fq ls np) nj np∧cntI (fq ls np) 8≤a))
    (fun H n ⟨hg,hw⟩=>by
      obtain⟨r,e,h⟩:=ProveLayout_spec l hg hw hnp hnj hnk a
      exact⟨.bool r,by rw[call43]; exact e,r,rfl,h⟩) (fun r ⟨b,e,_⟩ _=>by subst e; rfl) ⟨hg,hw⟩ (fun hp=>by
        simp only[cx,Bool.and_eq_true] at hp
        exact⟨hg.nil hp.1,hw.nil hp.2.1⟩)
  exact⟨b,H',n',hb,e1,e2,e3⟩
end Go.Proofs.Ytekajfobmnedjaa.spec
end
section
namespace Go.Proofs.Ytekajfobmnedjaa.spec
open Go Go.Ev Go.Proofs.Ytekajfobmnedjaa.nestFits Go.Proofs.Ytekajfobmnedjaa.G
set_option maxRecDepth 100000
variable {ρ:Type}
theorem share_two {y:Int} {S B:List Int} (hS:S.length=16) (hB:B.length=16) {i:Nat} (hi:i<8):((ints (bK y S B)).drop (1+i * 2)).take 2=[.int .i64 (S.getD (i * 2) 0),.int .i64 (S.getD (i * 2+1) 0)]:=by
  have g:∀ k,k<16→(bK y S B).getD (1+k) 0=S.getD k 0:=fun k hk=>by
    unfold bK
    rw[List.getD_eq_getElem?_getD,List.getD_eq_getElem?_getD,Nat.add_comm 1 k,List.getElem?_cons_succ,List.getElem?_append_left (by omega)]
  rw[KW (by rw[gZ hS hB]; omega),g _ (by omega),Nat.add_assoc 1,g _ (by omega)]
def byP (y:Int) (S xs:List Int) (m np:Nat):Prop:=m=np∧(∀ o,o<np→S.getD (o * 2) 0≤xs.getD o 0∧xs.getD o 0≤S.getD (o * 2+1) 0)∧aZ (fun o=>xs.getD o 0) np=y
theorem spreadBy_loop (l k:Nat) {y:Int} {S B xs:List Int} {np b:Nat} {w:Value} {H:Hp} {n:Nat} (hS:S.length=16) (hB:B.length=16) (hb:nX S) (hy:0≤y∧y≤1000) (hnp:np≤8) (hw:ListR H n w np xs) (hg:H.get b=some (.cells (ints (bK y S B)) 113 false none)):∀(m i:Nat),i≤np→np-i≤m →
    (∀ o,o<i→S.getD (o * 2) 0≤xs.getD o 0∧xs.getD o 0≤S.getD (o * 2+1) 0) →
    ∃ r:Bool,S109_1 (cal (l+1)) k m (.pointer (some ⟨b,0,none⟩)) (.int .i64 (y-aZ (fun o=>xs.getD o 0) i)) w (.int .i64 np) (.int .i64 i) H n=some (.bool r,H,n)∧(r=true↔byP y S xs np np):=by
  have lens:(ints (bK y S B)).length=33:=by rw[bq,gZ hS hB]
  have body:∀(b1:Value→Value→Value→Value→Value→Hp→Nat→Res) (m i:Nat),i≤np→(∀ o,o<i→S.getD (o * 2) 0≤xs.getD o 0∧xs.getD o 0≤S.getD (o * 2+1) 0) →
      (i<np→(∀ o,o<i+1→S.getD (o * 2) 0≤xs.getD o 0∧xs.getD o 0≤S.getD (o * 2+1) 0)→∃ r:Bool,b1 (.pointer (some ⟨b,0,none⟩)) (.int .i64 (y-aZ (fun o=>xs.getD o 0) (i+1))) w (.int .i64 np) (.int .i64 ((i+1:Nat):Int)) H n=some (.bool r,H,n)∧(r=true↔byP y S xs np np)) →
      ∃ r:Bool,TK (cal (l+1)) k m b1 (.pointer (some ⟨b,0,none⟩)) (.int .i64 (y-aZ (fun o=>xs.getD o 0) i)) w (.int .i64 np) (.int .i64 i) H n=some (.bool r,H,n)∧(r=true↔byP y S xs np np):=by
    intro b1 m i hi hin ih
    unfold TK B109_1
    rw[ak cY,jw]
    by_cases hlt:i<np
    · obtain⟨c,o,a1,_,a3⟩:=hw.at_ hlt
      have hI1:I64 ((i:Int)+1):=by unfold I64; omega
      have hcast:((i:Int)+1)=((i+1:Nat):Int):=by omega
      have hld:az P H 53 ⟨b,0+1+i * 2,none⟩=some (.agg ⟨[.int .i64 (S.getD (i * 2) 0),.int .i64 (S.getD (i * 2+1) 0)]⟩):=by
        have:=cw (P:=P) (k:=1+i * 2) (dj hg) QQ sz53 (by rw[lens]; omega) (dJ _)
        rw[share_two hS hB (by omega),← Nat.add_assoc] at this
        exact this
      rw[if_pos (by omega),a1,aj,aJ,aj,a3,aj,fa113_1,aj,QW b (0+1) (show i<8 by omega),aj,aJ,aj,hld,aj,in_range_call l]
      by_cases hr:S.getD (i * 2) 0≤xs.getD i 0∧xs.getD i 0≤S.getD (i * 2+1) 0
      · have hall:∀ o,o<i+1→S.getD (o * 2) 0≤xs.getD o 0∧xs.getD o 0≤S.getD (o * 2+1) 0:=fun o ho=>by
          by_cases e:o=i
          · rw[e]; exact hr
          · exact hin o (by omega)
        have b1':=hb (i * 2)
        have b2':=hb (i * 2+1)
        have hsum:∀ j,j≤i→0≤aZ (fun o=>xs.getD o 0) j∧aZ (fun o=>xs.getD o 0) j≤j * 1000:=by
          intro j
          induction j with
          | zero=>intro _; simp [aZ]
          | succ j ihj=>
            intro hj
            have:=ihj (by omega)
            have h1:=hin j (by omega)
            have h2:=hb (j * 2)
            have h3:=hb (j * 2+1)
            simp only[aZ]
            omega
        have hs:=hsum i (Nat.le_refl _)
        have hI2:I64 (y-aZ (fun o=>xs.getD o 0) i-xs.getD i 0):=by unfold I64; omega
        have e:y-aZ (fun o=>xs.getD o 0) i-xs.getD i 0=y-aZ (fun o=>xs.getD o 0) (i+1):=by simp only[aZ]; omega
        rw[decide_eq_true hr,qY,aj,ej,ak (zK hI2),ak (bV hI1),hcast,e]
        exact ih hlt hall
      · rw[decide_eq_false hr,uW,aj,fw]
        exact⟨false,rfl,⟨fun h=>(by cases h),fun h=>absurd (h.2.1 i hlt) hr⟩⟩
    · have:i=np:=by omega
      subst this
      rw[if_neg (by omega),ak lq]
      refine⟨_,rfl,?_⟩
      rw[decide_eq_true_iff]
      exact⟨fun h=>⟨rfl,hin,by omega⟩,fun h=>by have:=h.2.2; omega⟩
  intro m
  induction m with
  | zero=>intro i h1 h2 h3; exact body _ 0 i h1 h3 (fun h=>by omega)
  | succ m ih=>intro i h1 h2 h3; exact body _ (m+1) i h1 h3 (fun h h'=>ih (i+1) (by omega) (by omega) h')
theorem spreadBy_spec (l:Nat) {y:Int} {S B xs:List Int} {np m:Nat} {w:Value} {H:Hp} {n:Nat} (hS:S.length=16) (hB:B.length=16) (hb:nX S) (hy:0≤y∧y≤1000) (hnp:np≤8) (hw:ListR H n w m xs) :
    ∃ r:Bool,Ret (Uj (cal (l+1)) KK (.agg ⟨ints (bK y S B)⟩) w (.int .i64 np) H n) n H (.bool r)∧(r=true↔byP y S xs m np):=by
  have lens:(ints (bK y S B)).length=33:=by rw[bq,gZ hS hB]
  unfold Uj B109_0
  rw[dq]
  simp only[bj,ptr]
  have hk:Keep n H (H.set n (some (.cells (ints (bK y S B)) 113 false none))):=(Keep.refl n H).set (Nat.le_refl _) _
  have hg:(H.set n (some (.cells (ints (bK y S B)) 113 false none))).get n=some (.cells (ints (bK y S B)) 113 false none):=by rw[Tr.get_set,if_pos rfl]
  generalize H.set n (some (.cells (ints (bK y S B)) 113 false none))=H1 at hk hg ⊢
  rw[hw.len_eq,aj,ak iJ]
  by_cases hm:m=np
  · subst hm
    have ly:az P H1 3 ⟨n,0+0,none⟩=some (.int .i64 y):=bv (o:=0) (k:=0) (dj hg) agg3 rfl
    have hw1:=hw.keep hk (show n≤n+1 by omega)
    obtain⟨r,r1,r2⟩:=spreadBy_loop l KK hS hB hb hy hnp hw1 hg KK 0 (Nat.zero_le _) (by unfold KK; omega) (fun o h=>by omega)
    have e0:y-aZ (fun o=>xs.getD o 0) 0=y:=by simp [aZ]
    rw[e0] at r1
    have dm:decide ((m:Int)=(m:Int))=true:=decide_eq_true rfl
    rw[dm,Bool.not_true,ej,fa113_0,aj,aJ,aj,ly,aj,aj]
    exact⟨r,⟨H1,n+1,r1,by omega,hk⟩,r2⟩
  · rw[decide_eq_false (by omega),Bool.not_false,fw]
    exact⟨false,⟨H1,n+1,rfl,by omega,hk⟩,⟨fun h=>(by cases h),fun h=>absurd h.1 hm⟩⟩
theorem call109 (l:Nat) (a b c:Value) (H:Hp) (n:Nat):(cal (l+1)).call 109 [a,b,c] H n=Uj (cal l) KK a b c H n:=by kernel_rfl
theorem spreadBy_call (l:Nat) {y:Int} {S B xs:List Int} {np m:Nat} {w:Value} {H:Hp} {n:Nat} (hS:S.length=16) (hB:B.length=16) (hb:nX S) (hy:0≤y∧y≤1000) (hnp:np≤8) (hw:ListR H n w m xs) :
    ∃(r:Bool) (H':Hp) (n':Nat),(r=true↔byP y S xs m np)∧(∀ k:Value→Hp→Nat→Option ρ,aY P (cal (l+2)) 109 [.agg ⟨ints (bK y S B)⟩,w,.int .i64 np] H n k=k (.bool r) H' n')∧n≤n'∧Keep n H H':=by
  obtain⟨r,H',n',⟨b,rfl,hb'⟩,e1,e2,e3⟩:=ew (ρ:=ρ) (P:=P) (cal:=cal (l+2)) (f:=109) (args:=[.agg ⟨ints (bK y S B)⟩,w,.int .i64 np]) (H:=H) (n:=n)
    (Pre:=fun H n=>ListR H n w m xs) (Q:=fun r=>∃ b:Bool,r=.bool b∧(b=true↔byP y S xs m np))
    (fun H n hw=>by
      obtain⟨r,e,h⟩:=spreadBy_spec l hS hB hb hy hnp hw
      exact⟨.bool r,by rw[call109]; exact e,r,rfl,h⟩) (fun r ⟨b,e,_⟩ _=>by subst e; rfl) hw (fun hp=>by
        simp only[cx,Bool.and_eq_true] at hp
        exact hw.nil hp.2.1)
  exact⟨b,H',n',hb',e1,e2,e3⟩
end Go.Proofs.Ytekajfobmnedjaa.spec
end
