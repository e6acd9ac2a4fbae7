/- Texts S20 to S80. -/
import Derived.Test.YtndkmmelelchcaaB1
section
namespace Go.Proofs.Ytndkmmelelchcaa.spec
open Go.Ev Go.Proofs.Ytndkmmelelchcaa.nestFits Go.Proofs.Ytndkmmelelchcaa.G
set_option maxRecDepth 100000
variable {ρ:Type}
noncomputable def ext(y:Int)(L:List Int)(e p:Nat):Int:=lim e (L.getD (p * 2+e) 0) (y-(total L (1-e)-L.getD (p * 2+(1-e)) 0))
theorem Rj(b o:Nat){i:Nat}(hi:i<8):aV P 109 (.pointer (some ⟨b,o,none⟩)) (.int .i64 i)=some (.pointer (some ⟨b,o+i * 2,none⟩)):=by
 unfold aV
 have:qw (.int .i64 (i:Int)) 8=some i:=by
  show qw (.int .i64 (.ofNat i)) 8=some i
  simp [qw,hi]
 simp only[und111,this,sz53]
 rfl
theorem nest_share{y:Int}{L B:List Int}(hL:L.length=16){i:Nat}(hi:i<8):((ints (bJ y L B)).drop (1+i * 2)).take 2=((ints L).drop (i * 2)).take 2:=by
 rw[Bj,Bj]
 congr 1
 unfold bJ
 rw[Nat.add_comm,List.drop_succ_cons,List.drop_append_of_le_length (by omega),List.take_append_of_le_length (by simp; omega)]
theorem My{L:List Int}(hb:fZ L)(e:Nat):0≤total L e∧total L e≤8000:=by
 have:=EZ (f:=fun p=>L.getD (p * 2+e) 0) (c:=1000) (i:=8) (fun p _=>hb _)
 exact⟨this.1,by unfold total; omega⟩
theorem row44(x:Int):yz P 44 1 [(0,.int .i64 x)]=some ([.int .i64 x],3):=by kernel_rfl
theorem extreme_spec(l:Nat){e:Nat}(he:e<2){y:Int}{L B:List Int}(hL:L.length=16)(hB:B.length=16)(hb:fZ L)(hy:0≤y∧y≤1000){p:Nat}(hp:p<8) :
  ∃ H' n',YY (cal (l+2)) KK (.agg ⟨ints (bJ y L B)⟩) (.int .i64 p) (endV e) .nil 0=some (.int .i64 (ext y L e p),H',n'):=by
 unfold YY B120_0
 simp only[dv,bv,ptr,endV]
 have hg0:(((Tr.nil:Hp).set 0 (some (.cells (ints (bJ y L B)) 111 false none))).set (0+1) (some (.cells [endF e,endF (1-e),BX e] 177 false none))).get 0=some (.cells (ints (bJ y L B)) 111 false none):=by rw[Tr.get_set,if_neg (by omega),Tr.get_set,if_pos rfl]
 have hg1:(((Tr.nil:Hp).set 0 (some (.cells (ints (bJ y L B)) 111 false none))).set (0+1) (some (.cells [endF e,endF (1-e),BX e] 177 false none))).get 1=some (.cells [endF e,endF (1-e),BX e] 177 false none):=by rw[Tr.get_set,if_pos rfl]
 generalize ((Tr.nil:Hp).set 0 (some (.cells (ints (bJ y L B)) 111 false none))).set (0+1) (some (.cells [endF e,endF (1-e),BX e] 177 false none))=H1 at hg0 hg1 ⊢
 simp only[Nat.zero_add]
 have lens:(ints (bJ y L B)).length=33:=by rw[bj,eK hL hB]
 have loads:∀ H:Hp,H.get 0=H1.get 0→H.get 1=H1.get 1 →
   az P H 111 ⟨0,0,none⟩=some (.agg ⟨ints (bJ y L B)⟩)∧az P H 127 ⟨1,0+0,none⟩=some (endF e)∧az P H 127 ⟨1,0+1,none⟩=some (endF (1-e))∧az P H 158 ⟨1,0+2,none⟩=some (BX e) ∧
   az P H 53 ⟨0,0+1+p * 2,none⟩=some (.agg ⟨((ints L).drop (p * 2)).take 2⟩)∧az P H 3 ⟨0,0+0,none⟩=some (.int .i64 y):=by
  intro H q0 q1
  have c0:aZ H 0 0 (ints (bJ y L B)):=cY (q0.trans hg0)
  have c1:aZ H 1 0 [endF e,endF (1-e),BX e]:=cY (q1.trans hg1)
  refine⟨cK (q0.trans hg0) Sx Dk lens,bw c1 agg129 rfl (Hk _).2.1 (Hk _).2.2.1,bw c1 agg129 rfl (Hk _).2.1 (Hk _).2.2.1,bw c1 agg160 rfl (Sy _).2.1 (Sy _).2.2.1,?_,bq c0 agg3 (by simp [ints,bJ])⟩
  have:=bY (P:=P) (k:=1+p * 2) c0 TK sz53 (by rw[lens]; omega) (dk _)
  rw[nest_share hL hp,← Nat.add_assoc] at this
  exact this
 obtain⟨a0,a1,a2,a3,a4,a5⟩:=loads H1 rfl rfl
 have h1e:1-e<2:=by omega
 rw[aQ,aj,a0,aj,fa179_1,aj,aQ,aj,a2,aj,aj,aQ,aj,a2,aj,Uq,aj,Rj 0 (0+1) hp,aj,aQ,aj,a4,aj]
 obtain⟨H2,s2,e2⟩:=yZ (P:=P) (ρ:=Value × Hp × Nat) (ex:=[.l 53 ⟨0,0+1+p * 2,none⟩,.l 127 ⟨1,0+1,none⟩]) (H:=H1) (n:=1+1) (v:=.int .i64 (total L (1-e)))
  (op:=fun H n k=>aY P (cal (l+2)) 98 [.agg ⟨ints (bJ y L B)⟩,endF (1-e)] H n fun v H n=>k v H n)
  ⟨fun q hq=>.inl (by
   simp only[List.mem_cons,List.not_mem_nil,or_false] at hq
   rcases hq with rfl | rfl
   ·exact⟨_,_,rfl,.inl ⟨_,_,_,_,hg0⟩⟩
   ·exact⟨_,_,rfl,.inl ⟨_,_,_,_,hg1⟩⟩),fun t a id c e h1 h2=>by simp at h2⟩ (fun H k=>Uv l h1e hL hB hb H _ _)
 rw[e2,qkz (l+1) h1e L (p * 2) (by omega)]
 obtain⟨t0,t1⟩:=My hb (1-e)
 obtain⟨u0,u1⟩:=hb (p * 2+(1-e))
 have hI:I64 (total L (1-e)-L.getD (p * 2+(1-e)) 0):=by unfold I64; omega
 have hI2:I64 (y-(total L (1-e)-L.getD (p * 2+(1-e)) 0)):=by unfold I64; omega
 obtain⟨b0,b1,b2,b3,b4,b5⟩:=loads H2 (s2 0) (s2 1)
 rw[aJ (vy hI),fa179_2,aj,aQ,aj,b3,aj,fa179_0,aj,aQ,aj,b1,aj,aj,Rj 0 (0+1) hp,aj,aQ,aj,b4,aj,qcj,aj,aQ,aj,b5,aj,
  aJ (vy hI2),row44,aj]
 unfold newK
 have hg0':(H2.set (1+1) (some (.cells [.int .i64 (y-(total L (1-e)-L.getD (p * 2+(1-e)) 0))] 3 false none))).get 0=some (.cells (ints (bJ y L B)) 111 false none):=by rw[Tr.get_set,if_neg (by omega),s2]; exact hg0
 have hg1':(H2.set (1+1) (some (.cells [.int .i64 (y-(total L (1-e)-L.getD (p * 2+(1-e)) 0))] 3 false none))).get 1=some (.cells [endF e,endF (1-e),BX e] 177 false none):=by rw[Tr.get_set,if_neg (by omega),s2]; exact hg1
 have hrow:aZ (H2.set (1+1) (some (.cells [.int .i64 (y-(total L (1-e)-L.getD (p * 2+(1-e)) 0))] 3 false none))) 2 0 [.int .i64 (y-(total L (1-e)-L.getD (p * 2+(1-e)) 0))]:=aZ.new
 obtain⟨H3,s3,e3⟩:=yZ (P:=P) (ρ:=Value × Hp × Nat) (ex:=[.a (1+1) [.int .i64 (y-(total L (1-e)-L.getD (p * 2+(1-e)) 0))] 3,.l 3 ⟨0,0+0,none⟩,.l 158 ⟨1,0+2,none⟩])
  (H:=H2.set (1+1) (some (.cells [.int .i64 (y-(total L (1-e)-L.getD (p * 2+(1-e)) 0))] 3 false none))) (n:=1+1+1) (v:=.int .i64 (L.getD (p * 2+e) 0))
  (op:=fun H n k=>jy P (cal (l+2)) (endF e) [.agg ⟨((ints L).drop (p * 2)).take 2⟩] H n fun v H n=>k v H n)
  ⟨fun q hq=>by
   simp only[List.mem_cons,List.not_mem_nil,or_false] at hq
   rcases hq with rfl | rfl | rfl
   ·exact .inr ⟨_,_,_,rfl⟩
   ·exact .inl ⟨_,_,rfl,.inl ⟨_,_,_,_,hg0'⟩⟩
   ·exact .inl ⟨_,_,rfl,.inl ⟨_,_,_,_,hg1'⟩⟩,fun t a id c e h1 h2=>by
   simp only[List.mem_cons,List.not_mem_nil,or_false,Extra.a.injEq,reduceCtorEq,Extra.l.injEq,false_or] at h1 h2
   obtain⟨rfl,_⟩:=h2
   rcases h1 with⟨_,rfl⟩ | ⟨_,rfl⟩ <;> simp⟩ (fun H k=>qkz (l+1) he L (p * 2) (by omega) H _ _)
 have ee:∀ k,effK P [.a (1+1) [.int .i64 (y-(total L (1-e)-L.getD (p * 2+(1-e)) 0))] 3,.l 3 ⟨0,0+0,none⟩,.l 158 ⟨1,0+2,none⟩] (H2.set (1+1) (some (.cells [.int .i64 (y-(total L (1-e)-L.getD (p * 2+(1-e)) 0))] 3 false none))) (1+1+1)
  (fun H n k=>jy P (cal (l+2)) (endF e) [.agg ⟨((ints L).drop (p * 2)).take 2⟩] H n fun v H n=>k v H n) k=k (.int .i64 (L.getD (p * 2+e) 0)) H3 (1+1+1):=e3
 simp only[ee]
 have hx:aZ H3 (1+1) 0 [.int .i64 (y-(total L (1-e)-L.getD (p * 2+(1-e)) 0))]:=aZ.of_get hrow (s3 2)
 rw[with_call (l+1) he _ _ hx]
 exact⟨_,_,rfl⟩
theorem flat120:fX P 120=true:=by kernel_rfl
theorem call120(l:Nat)(a b c:Value)(H:Hp)(n:Nat):(cal (l+1)).call 120 [a,b,c] H n=YY (cal l) KK a b c H n:=
 (show(cal (l+1)).call 120 [a,b,c] H n=IX ent120 (cal l) [a,b,c] H n by kernel_rfl).trans (IY ..)
theorem extreme_call(l:Nat){e:Nat}(he:e<2){y:Int}{L B:List Int}(hL:L.length=16)(hB:B.length=16)(hb:fZ L)(hy:0≤y∧y≤1000){p:Nat}(hp:p<8)(H:Hp)(n:Nat)(k:Value→Hp→Nat→Option ρ) :
  aY P (cal (l+3)) 120 [.agg ⟨ints (bJ y L B)⟩,.int .i64 p,endV e] H n k=k (.int .i64 (ext y L e p)) H n:=by
 obtain⟨H',n',h⟩:=extreme_spec l he (B:=B) hL hB hb hy hp
 refine gz flat120 ?_ ((call120 ..).trans h) rfl
 simp only[endV,bK,bx,mz,wQ,(Hk _).2.2.2,(Sy _).2.2.2,Bool.and_self]
noncomputable def mZ:List Int:=List.replicate 16 0
theorem nz:mZ.length=16:=rfl
theorem OY:iV P 111=some (.agg ⟨ints (bJ 0 mZ mZ)⟩):=by kernel_rfl
theorem build113(y:Int){L:List Int}(hL:L.length=16):fw P 111 [(0,.int .i64 y),(1,.agg ⟨ints L⟩)]=some (.agg ⟨ints (bJ y L mZ)⟩):=by
 match L,hL with
 | [a0,a1,a2,a3,a4,a5,a6,a7,a8,a9,a10,a11,a12,a13,a14,a15],_=>
  show fw P 111 [(0,.int .i64 y),(1,.agg ⟨ints [a0,a1,a2,a3,a4,a5,a6,a7,a8,a9,a10,a11,a12,a13,a14,a15]⟩)]=some (.agg ⟨ints (bJ y [a0,a1,a2,a3,a4,a5,a6,a7,a8,a9,a10,a11,a12,a13,a14,a15] mZ)⟩)
  kernel_rfl
theorem res115(H:Hp)(b:Nat):resV P (Tr.set Tr.nil 4 (some (.pointer (some ⟨b,0,none⟩)))) H fW=(match az P H 111 ⟨b,0,none⟩ with
 | none=>none
 | some v=>some [v]):=by kernel_rfl
theorem nest_set{y a b:Int}{L B:List Int}(hL:L.length=16)(j:Nat):((bJ y L B).set (17+j) a).set (17+j+1) b=bJ y L ((B.set j a).set (j+1) b):=by
 unfold bJ
 rw[show 17+j=(16+j)+1 by omega,List.set_cons_succ,List.set_cons_succ,List.set_append_right _ _ (by omega),List.set_append_right _ _ (by omega),hL]
 rw[show 16+j-16=j by omega,show 16+j+1-16=j+1 by omega]
def kK(y:Int)(L B:List Int)(i:Nat):Prop:=B.length=16∧∀ p,p<i→B.getD (p * 2) 0=ext y L 0 p∧B.getD (p * 2+1) 0=ext y L 1 p
theorem kK.next{y:Int}{L B:List Int}{i:Nat}(h:kK y L B i)(hi:i<8):kK y L ((B.set (i * 2) (ext y L 0 i)).set (i * 2+1) (ext y L 1 i)) (i+1):=by
 obtain⟨h1,h2⟩:=h
 refine⟨by simp [h1],fun p hp=>?_⟩
 simp only[List.getD_eq_getElem?_getD,List.getElem?_set,List.length_set,h1]
 by_cases e:p=i
 ·subst e
  rw[if_neg (show ¬ p * 2+1=p * 2 by omega),if_pos rfl,if_pos (show p * 2<16 by omega),if_pos rfl,if_pos (show p * 2+1<16 by omega)]
  exact⟨rfl,rfl⟩
 ·obtain⟨g1,g2⟩:=h2 p (by omega)
  rw[List.getD_eq_getElem?_getD] at g1 g2
  rw[if_neg (by omega),if_neg (by omega),if_neg (by omega),if_neg (by omega)]
  exact⟨g1,g2⟩
theorem newNest_loop(l k:Nat){y:Int}{L:List Int}(hL:L.length=16)(hb:fZ L)(hy:0≤y∧y≤1000)(b4 b5:Nat)(hne:b4≠b5):∀(m i:Nat) (B:List Int) (w:List Value) (H:Hp) (n:Nat),b4<n→b5<n →
  H.get b5=some (.cells (ints (bJ y L B)) 111 false none)→H.get b4=some (.cells w 111 false none)→w.length=33→kK y L B i→i≤8→8-i≤m →
  ∃ B' H' n',S115_1 (cal (l+3)) k m (.pointer (some ⟨b4,0,none⟩)) (.pointer (some ⟨b5,0,none⟩)) (.int .i64 i) H n=some (.agg ⟨ints (bJ y L B')⟩,H',n')∧kK y L B' 8:=by
 have body:∀(b1:Value→Value→Value→Hp→Nat→Res) (m i:Nat) (B:List Int) (w:List Value) (H:Hp) (n:Nat),b4<n→b5<n →
   H.get b5=some (.cells (ints (bJ y L B)) 111 false none)→H.get b4=some (.cells w 111 false none)→w.length=33→kK y L B i→i≤8 →
   (∀ B2 H2 n2,b4<n2→b5<n2→H2.get b5=some (.cells (ints (bJ y L B2)) 111 false none)→H2.get b4=some (.cells w 111 false none)→kK y L B2 (i+1)→i<8 →
    ∃ B' H' n',b1 (.pointer (some ⟨b4,0,none⟩)) (.pointer (some ⟨b5,0,none⟩)) (.int .i64 ((i+1:Nat):Int)) H2 n2=some (.agg ⟨ints (bJ y L B')⟩,H',n')∧kK y L B' 8) →
   ∃ B' H' n',YJ (cal (l+3)) k m b1 (.pointer (some ⟨b4,0,none⟩)) (.pointer (some ⟨b5,0,none⟩)) (.int .i64 i) H n=some (.agg ⟨ints (bJ y L B')⟩,H',n')∧kK y L B' 8:=by
  intro b1 m i B w H n hb4 hb5 hg5 hg4 hw hB hi ih
  have lens:(ints (bJ y L B)).length=33:=by rw[bj,eK hL hB.1]
  have hld:=cK hg5 Sx Dk lens
  unfold YJ B115_1
  rw[aJ dq,jx]
  by_cases hlt:i<8
  ·rw[if_pos (by omega),aQ,aj,hld,aj,aj,hld,aj,fa113_2,aj]
   obtain⟨H1,n1,e1,f1,g1⟩:=effK_grow (P:=P) (ρ:=Value × Hp × Nat) (ex:=[.l 111 ⟨b5,0,none⟩,.l 111 ⟨b5,0,none⟩]) (H:=H) (n:=n) (v:=endV 0)
    (op:=fun H n k=>aY P (cal (l+3)) 121 [] H n fun v H n=>k v H n)
    (fun q hq=>by simp only[List.mem_cons,List.not_mem_nil,or_false,or_self] at hq; subst hq; exact⟨_,_,rfl,hb5,.inl ⟨_,_,_,_,hg5⟩⟩)
    (fun Hm=>by obtain⟨H',n',h1,h2,h3⟩:=lowEnd_call (ρ:=Value × Hp × Nat) (l+2) Hm n; exact⟨H',n',fun k=>h1 _,h2,h3⟩)
   rw[e1]
   have k5:H1.get b5=some (.cells (ints (bJ y L B)) 111 false none):=(g1 b5 hb5).trans hg5
   have k4:H1.get b4=some (.cells w 111 false none):=(g1 b4 hb4).trans hg4
   obtain⟨H2,s2,e2⟩:=yZ (P:=P) (ρ:=Value × Hp × Nat) (ex:=[.l 111 ⟨b5,0,none⟩]) (H:=H1) (n:=n1) (v:=.int .i64 (ext y L 0 i))
    (op:=fun H n k=>aY P (cal (l+3)) 120 [.agg ⟨ints (bJ y L B)⟩,.int .i64 i,endV 0] H n fun v H n=>k v H n)
    ⟨fun q hq=>.inl (by simp only[List.mem_cons,List.not_mem_nil,or_false] at hq; subst hq; exact⟨_,_,rfl,.inl ⟨_,_,_,_,k5⟩⟩),fun t a id c e h1 h2=>by simp at h2⟩
    (fun H k=>extreme_call l (by omega) hL hB.1 hb hy hlt H _ _)
   rw[e2]
   have j5:H2.get b5=some (.cells (ints (bJ y L B)) 111 false none):=(s2 b5).trans k5
   have j4:H2.get b4=some (.cells w 111 false none):=(s2 b4).trans k4
   obtain⟨H3,n3,e3,f3,g3⟩:=effK_grow (P:=P) (ρ:=Value × Hp × Nat) (ex:=[.l 111 ⟨b5,0,none⟩]) (H:=H2) (n:=n1) (v:=endV 1)
    (op:=fun H n k=>aY P (cal (l+3)) 122 [] H n fun v H n=>k v H n)
    (fun q hq=>by simp only[List.mem_cons,List.not_mem_nil,or_false] at hq; subst hq; exact⟨_,_,rfl,by show b5<n1; omega,.inl ⟨_,_,_,_,j5⟩⟩)
    (fun Hm=>by obtain⟨H',n',h1,h2,h3⟩:=highEnd_call (ρ:=Value × Hp × Nat) (l+2) Hm n1; exact⟨H',n',fun k=>h1 _,h2,h3⟩)
   rw[e3,extreme_call l (by omega) hL hB.1 hb hy hlt,build53,aj,Rj b5 (0+17) hlt,aj,qcq]
   have i5:H3.get b5=some (.cells (ints (bJ y L B)) 111 false none):=(g3 b5 (by omega)).trans j5
   have i4:H3.get b4=some (.cells w 111 false none):=(g3 b4 (by omega)).trans j4
   rw[show 0+17+i * 2=17+i * 2 by omega,WW i5 (by rw[eK hL hB.1]; omega),nest_set hL,aj]
   have hI:I64 ((i:Int)+1):=by unfold I64; omega
   have hcast:((i:Int)+1)=((i+1:Nat):Int):=by omega
   rw[aJ (bW hI),hcast]
   exact ih _ _ n3 (by omega) (by omega) (by rw[Tr.get_set,if_pos rfl]) (by rw[Tr.get_set,if_neg hne]; exact i4) (hB.next hlt) hlt
  ·rw[if_neg (by omega),aQ,aj,hld,aj,pZ Dk lens,mw hg4 (by rw[lens,hw]) (fj _),aj,res115]
   have hgw:(H.set b4 (some (.cells (ints (bJ y L B)) 111 false none))).get b4=some (.cells (ints (bJ y L B)) 111 false none):=by rw[Tr.get_set,if_pos rfl]
   rw[cK hgw Sx Dk lens]
   have hi':i=8:=by omega
   subst hi'
   exact⟨B,_,_,rfl,hB⟩
 intro m
 induction m with
 | zero=>
  intro i B w H n h1 h2 h3 h4 h5 h6 h7 h8
  exact body _ 0 i B w H n h1 h2 h3 h4 h5 h6 h7 (fun _ _ _ _ _ _ _ _ h=>by omega)
 | succ m ih=>
  intro i B w H n h1 h2 h3 h4 h5 h6 h7 h8
  exact body _ (m+1) i B w H n h1 h2 h3 h4 h5 h6 h7 (fun B2 H2 n2 q1 q2 q3 q4 q5 q6=>ih (i+1) B2 w H2 n2 q1 q2 q3 q4 h5 q5 (by omega) (by omega))
theorem newNest_spec(l:Nat){y:Int}{L:List Int}(hL:L.length=16)(hb:fZ L)(hy:0≤y∧y≤1000) :
  ∃ B H' n',YQ (cal (l+3)) KK (.int .i64 y) (.agg ⟨ints L⟩) .nil 0=some (.agg ⟨ints (bJ y L B)⟩,H',n')∧kK y L B 8:=by
 unfold YQ B115_0
 rw[dv,fK OY]
 have hg0:(((Tr.nil:Hp).set 0 (some (.cells (ints L) 109 false none))).set (0+1) (some (.cells (ints (bJ 0 mZ mZ)) 111 false none))).get 0=some (.cells (ints L) 109 false none):=by rw[Tr.get_set,if_neg (by omega),Tr.get_set,if_pos rfl]
 have hg1:(((Tr.nil:Hp).set 0 (some (.cells (ints L) 109 false none))).set (0+1) (some (.cells (ints (bJ 0 mZ mZ)) 111 false none))).get 1=some (.cells (ints (bJ 0 mZ mZ)) 111 false none):=by rw[Tr.get_set,if_pos rfl]
 simp only[bv,ptr]
 generalize ((Tr.nil:Hp).set 0 (some (.cells (ints L) 109 false none))).set (0+1) (some (.cells (ints (bJ 0 mZ mZ)) 111 false none))=H1 at hg0 hg1 ⊢
 have hl:=cK hg0 yK Bw (by rw[bj,hL])
 rw[aQ,aj,hl,aj,build113 y hL,aj]
 have lens:(ints (bJ y L mZ)).length=33:=by rw[bj,eK hL nz]
 obtain⟨H2,k1,k2,k3⟩:=qx (P:=P) (ρ:=Value × Hp × Nat) (H:=H1) (n:=0+1+1) (L:=ints (bJ y L mZ)) OY (by show(ints (bJ 0 mZ mZ)).length=33; rw[bj,eK nz nz]) Dk lens (fj _)
 rw[k3]
 exact newNest_loop l KK hL hb hy 1 2 (by omega) KK 0 mZ (ints (bJ 0 mZ mZ)) H2 3 (by omega) (by omega) k2 ((k1 1 (by omega)).trans hg1) (by rw[bj,eK nz nz]) ⟨rfl,fun p hp=>by omega⟩ (by omega) (by unfold KK; omega)
theorem flat115:fX P 115=true:=by kernel_rfl
theorem call115(l:Nat)(a b:Value)(H:Hp)(n:Nat):(cal (l+1)).call 115 [a,b] H n=YQ (cal l) KK a b H n:=
 (show(cal (l+1)).call 115 [a,b] H n=IX ent115 (cal l) [a,b] H n by kernel_rfl).trans (IY ..)
theorem newNest_call(l:Nat){y:Int}{L:List Int}(hL:L.length=16)(hb:fZ L)(hy:0≤y∧y≤1000):∃ B,kK y L B 8∧∀(H:Hp) (n:Nat) (k:Value→Hp→Nat→Option ρ),
  aY P (cal (l+4)) 115 [.int .i64 y,.agg ⟨ints L⟩] H n k=k (.agg ⟨ints (bJ y L B)⟩) H n:=by
 obtain⟨B,H',n',h,hB⟩:=newNest_spec l hL hb hy
 refine⟨B,hB,fun H n k=>gz flat115 ?_ ((call115 ..).trans h) ?_⟩
 ·simp only[bK,bx,mz,wQ,Bool.and_self]
 ·simp only[bx,mz,wQ]
end Go.Proofs.Ytndkmmelelchcaa.spec
end
section
namespace Go.Proofs.Ytndkmmelelchcaa.spec
open Go Go.Ev Go.Proofs.Ytndkmmelelchcaa.nestFits Go.Proofs.Ytndkmmelelchcaa.G
set_option maxRecDepth 100000
variable {ρ:Type}
noncomputable def code97:Code:=cW 97
noncomputable def zj:List ResultVar:=eX 97
noncomputable def asgOf:Code→Code
 | .rangeFunc _ _ a _=>a
 | _=>.skip
noncomputable def bodOf:Code→Code
 | .rangeFunc _ _ _ b=>b
 | _=>.skip
noncomputable def sQ:Code:=asgOf (cL (cR (cL (cR (cR code97)))))
noncomputable def sV:Code:=bodOf (cL (cR (cL (cR (cR code97)))))
noncomputable def K97(c:Cal)(k:Nat):KC (Value × Hp × Nat):=ay P c (aw P c k) none 97 (cR (cR (cR code97))) .leaf (av P zj) X0 (av P zj)
noncomputable def T97(v0 v1 v2 v5 v6 v7 v11:Value):Tm:=(((((((((Tr.nil:Tm).set 0 (some v0)).set 1 (some v1)).set 2 (some v2)).set 5 (some v5)).set 6 (some v6)).set 7 (some v7)).set 9 (some v0)).set 10 (some v1)).set 11 (some v11)
theorem pre97(c:Cal)(k:Nat)(v0 v1 v2:Value)(H:Hp)(n:Nat):aK P c A (k+1) 97 [v0,v1,v2] H n =
  (boxK 86 v2 H n fun v5 H n=>dj P 111 H n fun v6 H n=>dj P 109 H n fun v7 H n=>aY P c 113 [v0,v1] H n fun v11 H n=>
   yY P c none 97 v11 #[12] sQ sV (K97 c k) (upX 0 (K97 c k) X0) (av P zj) (T97 v0 v1 v2 v5 v6 v7 v11) H n []):=by
 rw[bX (fn:=Go.Proofs.Try.f97) (c:=code97) (rs:=zj) (by kernel_rfl) (by kernel_rfl) (by kernel_rfl) (by kernel_rfl)]
 kernel_rfl
theorem post97(c:Cal)(k:Nat)(v0 v1 v2 v5 v6 v7 v11:Value)(H:Hp)(n:Nat)(D:List Nat):K97 c k (T97 v0 v1 v2 v5 v6 v7 v11) H n D =
  (aq (ax P 86 v5 1) fun v18=>aq (aW v18) fun a=>aq (az P H 53 a) fun v19=>aq (aV P 109 v7 v1) fun v20=>aq (bV P 53 v20 v19 H) fun H=>
   aq (ax P 86 v5 0) fun v21=>aq (aW v21) fun a=>aq (az P H 3 a) fun v22=>aq (aW v7) fun a=>aq (az P H 109 a) fun v23=>aY P c 115 [v22,v23] H n fun v24 H n=>
   aq (bV P 111 v6 v24 H) fun H=>getK (rV H D) fun H=>aq (resV P ((Tr.nil:Tm).set 6 (some v6)) H zj) fun vs=>some (oneV vs,H,n)):=by
 kernel_rfl
theorem call97(l:Nat)(a b c:Value)(H:Hp)(n:Nat):(cal (l+1)).call 97 [a,b,c] H n=aK P (cal l) A (KK+1) 97 [a,b,c] H n:=by kernel_rfl
theorem asg97_eq(l lp:Nat)(v0 v1 v2 v5 v6 v7 v11 p:Value)(H:Hp)(n:Nat) :
  (cal (l+1)).body lp 97 sQ { T:=(T97 v0 v1 v2 v5 v6 v7 v11).set 12 (some p),H,n,D:=[] }=some (.norm,{ T:=((T97 v0 v1 v2 v5 v6 v7 v11).set 12 (some p)).set 8 (some p),H,n,D:=[] }):=by kernel_rfl
theorem bod97_eq(l lp:Nat)(v0 v1 v2 v5 v6 v7 v11 p:Value)(H:Hp)(n:Nat) :
  (cal (l+1)).body lp 97 sV { T:=((T97 v0 v1 v2 v5 v6 v7 v11).set 12 (some p)).set 8 (some p),H,n,D:=[] } =
   (aq (ax P 86 v5 2) fun v14=>aq (aW v14) fun a=>aq (az P H 53 a) fun v15=>aq (aV P 109 v7 p) fun v16=>aq (bV P 53 v16 v15 H) fun H'=>
    some (.norm,{ T:=((((((T97 v0 v1 v2 v5 v6 v7 v11).set 12 (some p)).set 8 (some p)).set 13 (some p)).set 14 (some v14)).set 15 (some v15)).set 16 (some v16),H:=H',n,D:=[] })):=by kernel_rfl
theorem res97(H:Hp)(b:Nat):resV P ((Tr.nil:Tm).set 6 (some (.pointer (some ⟨b,0,none⟩)))) H zj=(match az P H 111 ⟨b,0,none⟩ with
 | none=>none
 | some v=>some [v]):=by kernel_rfl
theorem ntm97:ntm P 97=25:=by kernel_rfl
theorem WX:eZ P 103=some false:=by kernel_rfl
theorem agg4:eZ P 4=some false:=by kernel_rfl
theorem und109:P.underlying 107=some (.array 8 106):=by kernel_rfl
theorem und108:P.underlying 106=some (.array 8 4):=by kernel_rfl
theorem sz108:szT P 106=some 8:=by kernel_rfl
theorem sz4:szT P 4=some 1:=by kernel_rfl
theorem oK(b o:Nat):ax P 115 (.pointer (some ⟨b,o,none⟩)) 0=some (.pointer (some ⟨b,o+0,none⟩)):=by kernel_rfl
theorem fa117_1(b o:Nat):ax P 115 (.pointer (some ⟨b,o,none⟩)) 1=some (.pointer (some ⟨b,o+3,none⟩)):=by kernel_rfl
theorem qck(b o:Nat):ax P 115 (.pointer (some ⟨b,o,none⟩)) 2=some (.pointer (some ⟨b,o+67,none⟩)):=by kernel_rfl
theorem Jk{i n:Nat}(hi:i<n):qw (.int .i64 (i:Int)) n=some i:=by
 show qw (.int .i64 (.ofNat i)) n=some i
 simp [qw,hi]
theorem at109(b o:Nat){i:Nat}(hi:i<8):aV P 107 (.pointer (some ⟨b,o,none⟩)) (.int .i64 i)=some (.pointer (some ⟨b,o+i * 8,none⟩)):=by
 unfold aV
 simp only[und109,Jk hi,sz108]
 rfl
theorem at108(b o:Nat){i:Nat}(hi:i<8):aV P 106 (.pointer (some ⟨b,o,none⟩)) (.int .i64 i)=some (.pointer (some ⟨b,o+i * 1,none⟩)):=by
 unfold aV
 simp only[und108,Jk hi,sz4]
 rfl
theorem lk(a:Addr):nilV (.pointer (some a))=some (.pointer (some a)):=rfl
theorem WY{op:KD ρ→Option ρ}{ex:Extra}{H:Hp}{n:Nat}{k:KD ρ}:dw (.bool true) true op ex H n k=op k:=rfl
theorem WZ{op:KD ρ→Option ρ}{ex:Extra}{H:Hp}{n:Nat}{k:KD ρ}:dw (.bool false) true op ex H n k=k undef ex H n:=rfl
structure Reads (H:Hp) (pb sb g:Nat) (x:Value) (pad:Nat) (near:Nat→Bool):Prop where
 pad_:az P H 3 ⟨pb,0,none⟩=some (.int .i64 pad)
 site:az P H 103 ⟨sb,0,none⟩=some (.pointer (some ⟨g,0,none⟩))
 pads:az P H 31 ⟨g,0+0+0,none⟩=some x
 near_:∀ b,b<8→az P H 4 ⟨g,0+3+pad * 8+b * 1,none⟩=some (.bool (near b))
theorem iter_loop(c:Cal)(k:Nat)(yv:Value)(pb sb g pad np:Nat)(x:Value)(near:Nat→Bool)(hpad:pad<8)(hnp:np≤8)(Inv:List Nat→Hp→Nat→Prop)(hR:∀ ps H n,Inv ps H n→Reads H pb sb g x pad near)
  (hY:∀(ps:List Nat) (p:Nat) (H:Hp) (n:Nat),Inv ps H n→p<8→∃ H' n',(∀ k:Value→Hp→Nat→Res,jy P c yv [.int .i64 p] H n k=k (.bool true) H' n')∧Inv (ps++[p]) H' n') (ps0:List Nat):∀(m i:Nat) (H:Hp) (n:Nat),
  Inv (ps0++(List.range i).filter near) H n→i≤np→np-i≤m →
  ∃ H' n',YX c k m yv (.pointer (some ⟨pb,0,none⟩)) (.pointer (some ⟨sb,0,none⟩)) (.int .i64 np) (.int .i64 i) H n=some (.tuple ⟨[]⟩,H',n')∧Inv (ps0++(List.range np).filter near) H' n':=by
 have body:∀(b1:Value→Value→Value→Value→Value→Hp→Nat→Res) (m i:Nat) (H:Hp) (n:Nat),Inv (ps0++(List.range i).filter near) H n→i≤np →
   (∀ H' n',Inv (ps0++(List.range (i+1)).filter near) H' n'→i<np→∃ H2 n2,b1 yv (.pointer (some ⟨pb,0,none⟩)) (.pointer (some ⟨sb,0,none⟩)) (.int .i64 np) (.int .i64 ((i+1:Nat):Int)) H' n'=some (.tuple ⟨[]⟩,H2,n2)∧Inv (ps0++(List.range np).filter near) H2 n2) →
   ∃ H' n',YW c k m b1 yv (.pointer (some ⟨pb,0,none⟩)) (.pointer (some ⟨sb,0,none⟩)) (.int .i64 np) (.int .i64 i) H n=some (.tuple ⟨[]⟩,H',n')∧Inv (ps0++(List.range np).filter near) H' n':=by
  intro b1 m i H n hI hi ih
  unfold YW B119_1
  rw[aJ dq,jx]
  by_cases hlt:i<np
  ·obtain⟨r1,r2,r3,r4⟩:=hR _ _ _ hI
   have hi8:i<8:=by omega
   have hb:=r4 i hi8
   have hI1:I64 ((i:Int)+1):=by unfold I64; omega
   have hcast:((i:Int)+1)=((i+1:Nat):Int):=by omega
   rw[if_pos (by omega),aQ,aj,r2,aj,aQ,aj,r1,aj,lk,aj,fa117_1,aj,at109 _ _ hpad,aj,at108 _ _ hi8,aj,aQ,aj,hb,aj]
   cases hn:near i with
   | true=>
    obtain⟨H1,n1,e1,e2⟩:=hY _ i _ _ hI hi8
    simp only[WY,e1,rX,aj,dY,eV,aJ (bW hI1),hcast]
    refine ih H1 n1 ?_ hlt
    rw[List.range_succ,List.filter_append,← List.append_assoc]
    simp only[List.filter_cons,hn,if_true,List.filter_nil]
    exact e2
   | false=>
    simp only[WZ,ew,aj,eV,aJ (bW hI1),hcast]
    refine ih H n ?_ hlt
    rw[List.range_succ,List.filter_append]
    simp only[List.filter_cons,hn,List.filter_nil,Bool.false_eq_true,if_false,List.append_nil]
    exact hI
  ·rw[if_neg (by omega)]
   have hi':i=np:=by omega
   subst hi'
   exact⟨H,n,rfl,hI⟩
 intro m
 induction m with
 | zero=>
  intro i H n h1 h2 h3
  exact body _ 0 i H n h1 h2 (fun _ _ _ h=>by omega)
 | succ m ih=>
  intro i H n h1 h2 h3
  exact body _ (m+1) i H n h1 h2 (fun H' n' q1 q2=>ih (i+1) H' n' q1 (by omega) (by omega))
theorem iter_spec(c:Cal)(yv:Value)(pb sb g pad np:Nat)(x:Value)(near:Nat→Bool)(hpad:pad<8)(hnp:np≤8)(hx:lenV P 31 x=some (.int .i64 np))(Inv:List Nat→Hp→Nat→Prop)(hR:∀ ps H n,Inv ps H n→Reads H pb sb g x pad near)
  (hY:∀(ps:List Nat) (p:Nat) (H:Hp) (n:Nat),Inv ps H n→p<8→∃ H' n',(∀ k:Value→Hp→Nat→Res,jy P c yv [.int .i64 p] H n k=k (.bool true) H' n')∧Inv (ps++[p]) H' n') {H:Hp} {n:Nat} (h0:Inv [] H n) :
  ∃ H' n',SY c KK yv (.pointer (some ⟨pb,0,none⟩)) (.pointer (some ⟨sb,0,none⟩)) H n=some (.tuple ⟨[]⟩,H',n')∧Inv (pad::(List.range np).filter near) H' n':=by
 unfold SY B119_0
 generalize hS:YX c KK KK=S
 obtain⟨r1,_,_,_⟩:=hR _ _ _ h0
 obtain⟨H1,n1,e1,e2⟩:=hY _ pad _ _ h0 hpad
 obtain⟨_,r2,r3,_⟩:=hR _ _ _ e2
 rw[aQ,aj,r1,aj,e1,rX,aj,eV,aQ,aj,r2,aj,lk,aj,oK,aj,qJ,aj,aQ,aj,r3,aj,hx,aj,← hS]
 exact iter_loop c KK yv pb sb g pad np x near hpad hnp Inv hR hY [pad] KK 0 H1 n1 e2 (by omega) (by unfold KK; omega)
def Rq(lo hi:Int)(ps:List Nat):List Int:=ps.foldl (fun X p=>(X.set (p * 2) lo).set (p * 2+1) hi) (List.replicate 16 0)
theorem fillS_snoc(lo hi:Int)(ps:List Nat)(p:Nat):Rq lo hi (ps++[p])=((Rq lo hi ps).set (p * 2) lo).set (p * 2+1) hi:=by
 unfold Rq; rw[List.foldl_append]; rfl
theorem EK(X:List Int)(j:Nat)(a b:Int):((X.set j a).set (j+1) b).length=X.length:=by simp
theorem OZ(lo hi:Int)(ps:List Nat):(Rq lo hi ps).length=16:=by
 have:∀(ps:List Nat) (X:List Int),(ps.foldl (fun X p=>(X.set (p * 2) lo).set (p * 2+1) hi) X).length=X.length:=by
  intro ps
  induction ps with
  | nil=>intro X; rfl
  | cons p ps ih=>intro X; rw[List.foldl_cons,ih,EK]
 exact this ps _
theorem Fj{X:List Int}(hX:X.length=16){p q:Nat}(hp:p<8)(a b:Int):(((X.set (p * 2) a).set (p * 2+1) b).getD (q * 2) 0=if q=p then a else X.getD (q * 2) 0) ∧
  (((X.set (p * 2) a).set (p * 2+1) b).getD (q * 2+1) 0=if q=p then b else X.getD (q * 2+1) 0):=by
 simp only[List.getD_eq_getElem?_getD,List.getElem?_set,List.length_set,hX]
 by_cases e:q=p
 ·subst e
  rw[if_neg (show ¬ q * 2+1=q * 2 by omega),if_pos rfl,if_pos (show q * 2<16 by omega),if_pos rfl,if_pos rfl,if_pos (show q * 2+1<16 by omega),if_pos rfl]
  exact⟨rfl,rfl⟩
 ·rw[if_neg (show ¬ p * 2+1=q * 2 by omega),if_neg (show ¬ p * 2=q * 2 by omega),if_neg e,if_neg (show ¬ p * 2+1=q * 2+1 by omega),if_neg (show ¬ p * 2=q * 2+1 by omega),if_neg e]
  exact⟨rfl,rfl⟩
theorem fillS_get(lo hi:Int)(q:Nat)(ps:List Nat)(h:∀ p ∈ ps,p<8):(Rq lo hi ps).getD (q * 2) 0=(if q ∈ ps then lo else 0)∧(Rq lo hi ps).getD (q * 2+1) 0=(if q ∈ ps then hi else 0):=by
 have key:∀(ps:List Nat) (X:List Int),X.length=16→(∀ p ∈ ps,p<8)→(ps.foldl (fun X p=>(X.set (p * 2) lo).set (p * 2+1) hi) X).getD (q * 2) 0=(if q ∈ ps then lo else X.getD (q * 2) 0) ∧
   (ps.foldl (fun X p=>(X.set (p * 2) lo).set (p * 2+1) hi) X).getD (q * 2+1) 0=(if q ∈ ps then hi else X.getD (q * 2+1) 0):=by
  intro ps
  induction ps with
  | nil=>intro X _ _; exact⟨rfl,rfl⟩
  | cons p ps ih=>
   intro X hX hp
   obtain⟨h1,h2⟩:=ih ((X.set (p * 2) lo).set (p * 2+1) hi) (by rw[EK]; exact hX) (fun p' hp'=>hp p' (List.mem_cons_of_mem _ hp'))
   obtain⟨g1,g2⟩:=Fj (q:=q) hX (hp p List.mem_cons_self) lo hi
   rw[List.foldl_cons,h1,h2,g1,g2]
   by_cases e:q=p <;> by_cases e2:q ∈ ps <;> simp [e,e2]
 have z:∀ k:Nat,(List.replicate 16 (0:Int)).getD k 0=0:=by
  intro k
  rw[List.getD_eq_getElem?_getD,List.getElem?_replicate]
  split <;> rfl
 have:=key ps (List.replicate 16 0) rfl h
 rw[z,z] at this
 exact this
theorem loadK53{H:Hp}{b:Nat}{y a1 a2 a3 a4:Int}(h:H.get b=some (.cells [.int .i64 y,.int .i64 a1,.int .i64 a2,.int .i64 a3,.int .i64 a4] 86 false none)) :
  az P H 53 ⟨b,0+1,none⟩=some (.agg ⟨[.int .i64 a1,.int .i64 a2]⟩)∧az P H 53 ⟨b,0+3,none⟩=some (.agg ⟨[.int .i64 a3,.int .i64 a4]⟩)∧az P H 3 ⟨b,0+0,none⟩=some (.int .i64 y):=
 ⟨bY (k:=1) (cY h) TK sz53 (by simp) rfl,bY (k:=3) (cY h) TK sz53 (by simp) rfl,bq (cY h) agg3 rfl⟩
theorem yield97(L:Nat){H:Hp}{n lb b5 b7 d:Nat}{v0 v1 v2 v6 v11:Value}{y a1 a2 a3 a4:Int}{X:List Int}(hl:H.get lb=some (.loop .ready none 97 (T97 v0 v1 v2 (.pointer (some ⟨b5,0,none⟩)) v6 (.pointer (some ⟨b7,0,none⟩)) v11) (ntm P 97) #[12] sQ sV d))
  (h5:H.get b5=some (.cells [.int .i64 y,.int .i64 a1,.int .i64 a2,.int .i64 a3,.int .i64 a4] 86 false none)) (h7:H.get b7=some (.cells (ints X) 109 false none)) (hX:X.length=16) (n5:b5≠lb) (n7:b7≠lb) {p:Nat} (hp:p<8) :
  ∃ H',(∀ k:Value→Hp→Nat→Option ρ,jy P (cal (L+1)) (.func (.yield lb) #[] #[]) [.int .i64 p] H n k=k (.bool true) H' n)∧H'.get lb=H.get lb ∧
   H'.get b7=some (.cells (ints ((X.set (p * 2) a3).set (p * 2+1) a4)) 109 false none)∧∀ b,b≠lb→b≠b7→H'.get b=H.get b:=by
 have hpar:vw (T97 v0 v1 v2 (.pointer (some ⟨b5,0,none⟩)) v6 (.pointer (some ⟨b7,0,none⟩)) v11) (ntm P 97) (#[12]:Array Tmp).toList [.int .i64 p]=some ((T97 v0 v1 v2 (.pointer (some ⟨b5,0,none⟩)) v6 (.pointer (some ⟨b7,0,none⟩)) v11).set 12 (some (.int .i64 p))):=by
  rw[ntm97]; rfl
 generalize hT:T97 v0 v1 v2 (.pointer (some ⟨b5,0,none⟩)) v6 (.pointer (some ⟨b7,0,none⟩)) v11=T at hl hpar
 have hrdy:BZ H lb=true:=by unfold BZ; rw[hl]
 have hpen:rq H lb=none:=by unfold rq; rw[hl]
 have hbusy:qv H lb .busy none=some (H.set lb (some (.loop .busy none 97 T (ntm P 97) #[12] sQ sV d))):=by unfold qv; rw[hl]
 have g5:(H.set lb (some (.loop .busy none 97 T (ntm P 97) #[12] sQ sV d))).get b5=some (.cells [.int .i64 y,.int .i64 a1,.int .i64 a2,.int .i64 a3,.int .i64 a4] 86 false none):=by rw[Tr.get_set,if_neg n5]; exact h5
 have g7:(H.set lb (some (.loop .busy none 97 T (ntm P 97) #[12] sQ sV d))).get b7=some (.cells (ints X) 109 false none):=by rw[Tr.get_set,if_neg n7]; exact h7
 have gl:(H.set lb (some (.loop .busy none 97 T (ntm P 97) #[12] sQ sV d))).get lb=some (.loop .busy none 97 T (ntm P 97) #[12] sQ sV d):=by rw[Tr.get_set,if_pos rfl]
 have ho:∀ b,b≠lb→(H.set lb (some (.loop .busy none 97 T (ntm P 97) #[12] sQ sV d))).get b=H.get b:=fun b hb=>by rw[Tr.get_set,if_neg hb]
 generalize H.set lb (some (.loop .busy none 97 T (ntm P 97) #[12] sQ sV d))=H1 at hbusy g5 g7 gl ho
 have hst:=WW (a:=a3) (b:=a4) (o:=p * 2) g7 (by omega)
 have q7:(H1.set b7 (some (.cells (ints ((X.set (p * 2) a3).set (p * 2+1) a4)) 109 false none))).get b7=some (.cells (ints ((X.set (p * 2) a3).set (p * 2+1) a4)) 109 false none):=by rw[Tr.get_set,if_pos rfl]
 have ql:(H1.set b7 (some (.cells (ints ((X.set (p * 2) a3).set (p * 2+1) a4)) 109 false none))).get lb=some (.loop .busy none 97 T (ntm P 97) #[12] sQ sV d):=by rw[Tr.get_set,if_neg (Ne.symm n7)]; exact gl
 have qo:∀ b,b≠lb→b≠b7→(H1.set b7 (some (.cells (ints ((X.set (p * 2) a3).set (p * 2+1) a4)) 109 false none))).get b=H.get b:=fun b hb hb7=>by rw[Tr.get_set,if_neg hb7]; exact ho b hb
 have hbody:∃ T',(cal (L+1)).body lb 97 sV { T:=(T.set 12 (some (.int .i64 p))).set 8 (some (.int .i64 p)),H:=H1,n,D:=[] }=some (.norm,{ T:=T',H:=H1.set b7 (some (.cells (ints ((X.set (p * 2) a3).set (p * 2+1) a4)) 109 false none)),n,D:=[] }):=by
  rw[← hT,bod97_eq,fa86_2,aj,aQ,aj,(loadK53 g5).2.1,aj,Rj b7 0 hp,aj,qcq,Nat.zero_add,hst,aj]
  exact⟨_,rfl⟩
 generalize H1.set b7 (some (.cells (ints ((X.set (p * 2) a3).set (p * 2+1) a4)) 109 false none))=H2 at q7 ql qo hbody
 obtain⟨T',hbody⟩:=hbody
 have hasg:(cal (L+1)).body lb 97 sQ { T:=T.set 12 (some (.int .i64 p)),H,n,D:=[] }=some (.norm,{ T:=(T.set 12 (some (.int .i64 p))).set 8 (some (.int .i64 p)),H,n,D:=[] }):=by
  rw[← hT]; exact asg97_eq ..
 have hend:qv H2 lb .ready none=some (H2.set lb (some (.loop .ready none 97 T (ntm P 97) #[12] sQ sV d))):=by unfold qv; rw[ql]
 refine⟨H2.set lb (some (.loop .ready none 97 T (ntm P 97) #[12] sQ sV d)),fun k=>?_,by rw[Tr.get_set,if_pos rfl,hl],by rw[Tr.get_set,if_neg n7]; exact q7,fun b hb hb7=>by rw[Tr.get_set,if_neg hb]; exact qo b hb hb7⟩
 show stK (uv (fun | some l=>(cal (L+1)).body l | none=>fun _ _ _=>none) P lb [.int .i64 p] (bare H n)) k=_
 have hy:uv (fun | some l=>(cal (L+1)).body l | none=>fun _ _ _=>none) P lb [.int .i64 p] (bare H n)=some (.bool true,{ bare H n with H:=H2.set lb (some (.loop .ready none 97 T (ntm P 97) #[12] sQ sV d)) }):=by
  unfold uv
  have hb:Nat.beq (ntm P 97) (ntm P 97)=true:=Nat.beq_refl _
  have hx:RW .norm=some none:=rfl
  simp only[bare,hl,hb,hpar,hasg,hrdy,hpen,hbusy,hbody,hx,Option.isNone_none,if_true,hend]
 rw[hy]
 rfl
theorem qcv:iV P 109=some (.agg ⟨ints (List.replicate 16 0)⟩):=by kernel_rfl
theorem flat113:fX P 113=false:=by kernel_rfl
theorem call113(l:Nat)(a b:Value)(H:Hp)(n:Nat):(cal (l+1)).call 113 [a,b] H n=C113_0 (cal l) KK a b H n:=by kernel_rfl
theorem call119(l:Nat)(a b c:Value)(H:Hp)(n:Nat):(cal (l+1)).call 119 [a,b,c] H n=SY (cal l) KK a b c H n:=by kernel_rfl
theorem reached_call(l:Nat)(g pad:Nat)(H:Hp)(n:Nat)(k:Value→Hp→Nat→Option ρ):aY P (cal (l+1)) 113 [.pointer (some ⟨g,0,none⟩),.int .i64 pad] H n k =
  k (.func (.func 119) ⟨[]⟩ ⟨[.pointer (some ⟨n+1,0,none⟩),.pointer (some ⟨n,0,none⟩)]⟩) ((H.set n (some (.cells [.pointer (some ⟨g,0,none⟩)] 103 false none))).set (n+1) (some (.cells [.int .i64 pad] 3 false none))) (n+2):=by
 unfold aY
 rw[flat113,call113]
 rfl
theorem range97(c:Cal)(a b:Value)(K:KC (Value × Hp × Nat))(X:XC (Value × Hp × Nat))(Kr:KC (Value × Hp × Nat))(T:Tm)(H:Hp)(n:Nat) :
  yY P c none 97 (.func (.func 119) ⟨[]⟩ ⟨[a,b]⟩) #[12] sQ sV K X Kr T H n [] =
   aY P c 119 [.func (.yield (n+1)) #[] #[],a,b] ((H.set n (some .deferred)).set (n+1) (some (.loop .ready none 97 T (ntm P 97) #[12] sQ sV n))) (n+2) fun _ H n'=>fin K X Kr (qZ (n+1) { T:=T,H,n:=n',D:=[n] }):=rfl
def lJ(a1 a2 a3 a4:Int)(near:Nat→Bool)(np pad:Nat):List Int:=((Rq a3 a4 (pad::(List.range np).filter near)).set (pad * 2) a1).set (pad * 2+1) a2
theorem wV(a1 a2 a3 a4:Int)(near:Nat→Bool)(np pad:Nat):(lJ a1 a2 a3 a4 near np pad).length=16:=by
 unfold lJ; rw[EK,OZ]
theorem sharesL_get{a1 a2 a3 a4:Int}{near:Nat→Bool}{np pad:Nat}(hnp:np≤8)(hpad:pad<8)(q:Nat) :
  (lJ a1 a2 a3 a4 near np pad).getD (q * 2) 0=(if q=pad then a1 else if q<np∧near q=true then a3 else 0)∧(lJ a1 a2 a3 a4 near np pad).getD (q * 2+1) 0=(if q=pad then a2 else if q<np∧near q=true then a4 else 0):=by
 unfold lJ
 obtain⟨h1,h2⟩:=Fj (q:=q) (OZ a3 a4 (pad::(List.range np).filter near)) hpad a1 a2
 obtain⟨g1,g2⟩:=fillS_get a3 a4 q (pad::(List.range np).filter near) (by
  intro p hp
  rcases List.mem_cons.1 hp with z | z
  ·omega
  ·have:=List.mem_range.1 (List.mem_filter.1 z).1; omega)
 rw[h1,h2,g1,g2]
 have hm:q≠pad→(q ∈ pad::(List.range np).filter near↔q<np∧near q=true):=fun e=>by simp [e]
 by_cases e:q=pad
 ·simp [e]
 ·rw[if_neg e,if_neg e,if_neg e,if_neg e]
  by_cases e2:q<np∧near q=true
  ·rw[if_pos ((hm e).2 e2),if_pos ((hm e).2 e2),if_pos e2,if_pos e2]; exact⟨rfl,rfl⟩
  ·rw[if_neg (fun h=>e2 ((hm e).1 h)),if_neg (fun h=>e2 ((hm e).1 h)),if_neg e2,if_neg e2]; exact⟨rfl,rfl⟩
theorem sharesL_bounded{a1 a2 a3 a4:Int}{near:Nat→Bool}{np pad:Nat}(hnp:np≤8)(hpad:pad<8)(h1:okR a1 a2)(h2:okR a3 a4):fZ (lJ a1 a2 a3 a4 near np pad):=by
 intro k
 unfold okR at h1 h2
 by_cases hk:k<16
 ·obtain⟨g1,g2⟩:=sharesL_get (a1:=a1) (a2:=a2) (a3:=a3) (a4:=a4) (near:=near) hnp hpad (k / 2)
  rcases Nat.mod_two_eq_zero_or_one k with z | z
  ·rw[show k / 2 * 2=k by omega] at g1
   rw[g1]
   split
   ·omega
   ·split <;> omega
  ·rw[show k / 2 * 2+1=k by omega] at g2
   rw[g2]
   split
   ·omega
   ·split <;> omega
 ·rw[List.getD_eq_getElem?_getD,List.getElem?_eq_none (by rw[wV]; omega)]
  simp
theorem nestOn_spec(l:Nat){H:Hp}{n g np pad:Nat}{f:Nat→Value}{x:Value}{near:Nat→Bool}{y a1 a2 a3 a4:Int}(hg:g<n)(hs:cj H g 859 115 f)(hx:f 0=x)(hlen:lenV P 31 x=some (.int .i64 np))(hnp:np≤8)(hpad:pad<8)
  (hnear:∀ b,b<8→f (3+pad * 8+b)=.bool (near b)) (hy:0≤y∧y≤1000) (h1:okR a1 a2) (h2:okR a3 a4) :
  ∃ B,kK y (lJ a1 a2 a3 a4 near np pad) B 8∧Ret ((cal (l+5)).call 97 [.pointer (some ⟨g,0,none⟩),.int .i64 pad,.agg ⟨[.int .i64 y,.int .i64 a1,.int .i64 a2,.int .i64 a3,.int .i64 a4]⟩] H n) n H
   (.agg ⟨ints (bJ y (lJ a1 a2 a3 a4 near np pad) B)⟩):=by
 obtain⟨B,hB,hnest⟩:=newNest_call (ρ:=Value × Hp × Nat) l (wV a1 a2 a3 a4 near np pad) (sharesL_bounded hnp hpad h1 h2) hy
 refine⟨B,hB,?_⟩
 rw[call97,pre97]
 simp only[dv,fK OY,fK qcv,bv,ptr,reached_call (l+3)]
 rw[range97]
 generalize hH1:((((H.set n (some (.cells [.int .i64 y,.int .i64 a1,.int .i64 a2,.int .i64 a3,.int .i64 a4] 86 false none))).set (n+1) (some (.cells (ints (bJ 0 mZ mZ)) 111 false none))).set (n+1+1) (some (.cells (ints (List.replicate 16 0)) 109 false none))).set (n+1+1+1) (some (.cells [.pointer (some ⟨g,0,none⟩)] 103 false none))).set (n+1+1+1+1) (some (.cells [.int .i64 pad] 3 false none))=H1
 have k1:Keep n H H1:=fun b hb=>by rw[← hH1,Tr.get_set,if_neg (by omega),Tr.get_set,if_neg (by omega),Tr.get_set,if_neg (by omega),Tr.get_set,if_neg (by omega),Tr.get_set,if_neg (by omega)]
 have q0:H1.get n=some (.cells [.int .i64 y,.int .i64 a1,.int .i64 a2,.int .i64 a3,.int .i64 a4] 86 false none):=by rw[← hH1,Tr.get_set,if_neg (by omega),Tr.get_set,if_neg (by omega),Tr.get_set,if_neg (by omega),Tr.get_set,if_neg (by omega),Tr.get_set,if_pos rfl]
 have q1:H1.get (n+1)=some (.cells (ints (bJ 0 mZ mZ)) 111 false none):=by rw[← hH1,Tr.get_set,if_neg (by omega),Tr.get_set,if_neg (by omega),Tr.get_set,if_neg (by omega),Tr.get_set,if_pos rfl]
 have q2:H1.get (n+1+1)=some (.cells (ints (List.replicate 16 0)) 109 false none):=by rw[← hH1,Tr.get_set,if_neg (by omega),Tr.get_set,if_neg (by omega),Tr.get_set,if_pos rfl]
 have q3:H1.get (n+1+1+1)=some (.cells [.pointer (some ⟨g,0,none⟩)] 103 false none):=by rw[← hH1,Tr.get_set,if_neg (by omega),Tr.get_set,if_pos rfl]
 have q4:H1.get (n+1+1+1+1)=some (.cells [.int .i64 pad] 3 false none):=by rw[← hH1,Tr.get_set,if_pos rfl]
 clear hH1
 generalize hT:T97 (.pointer (some ⟨g,0,none⟩)) (.int .i64 pad) (.agg ⟨[.int .i64 y,.int .i64 a1,.int .i64 a2,.int .i64 a3,.int .i64 a4]⟩) (.pointer (some ⟨n,0,none⟩)) (.pointer (some ⟨n+1,0,none⟩)) (.pointer (some ⟨n+1+1,0,none⟩))
  (.func (.func 119) ⟨[]⟩ ⟨[.pointer (some ⟨n+1+1+1+1,0,none⟩),.pointer (some ⟨n+1+1+1,0,none⟩)]⟩)=T
 have hc119:∀(a b c:Value) (H:Hp) (n:Nat) (k:Value→Hp→Nat→Res),bx b=false→aY P (cal (l+4)) 119 [a,b,c] H n k=aq (SY (cal (l+3)) KK a b c H n) fun r=>k r.1 r.2.1 r.2.2:=by
  intro a b c H n k hb
  unfold aY
  have:(fX P 119 && bK [a,b,c])=false:=by simp [bK,hb]
  rw[this,call119]
 rw[hc119 _ _ _ _ _ _ rfl]
 generalize hH2:(H1.set (n+1+1+1+2) (some .deferred)).set (n+1+1+1+2+1) (some (.loop .ready none 97 T (ntm P 97) #[12] sQ sV (n+1+1+1+2)))=H2
 have r1:∀ b,b<n+1+1+1+2→H2.get b=H1.get b:=fun b hb=>by rw[← hH2,Tr.get_set,if_neg (by omega),Tr.get_set,if_neg (by omega)]
 have r2:H2.get (n+1+1+1+2)=some .deferred:=by rw[← hH2,Tr.get_set,if_neg (by omega),Tr.get_set,if_pos rfl]
 have r3:H2.get (n+1+1+1+2+1)=some (.loop .ready none 97 T (ntm P 97) #[12] sQ sV (n+1+1+1+2)):=by rw[← hH2,Tr.get_set,if_pos rfl]
 clear hH2
 have hs2:∀ H3:Hp,(∀ b,b≠n+1+1+1+2+1→b≠n+1+1→H3.get b=H2.get b)→Reads H3 (n+1+1+1+1) (n+1+1+1) g x pad near:=by
  intro H3 h3
  have c3:H3.get (n+1+1+1)=some (.cells [.pointer (some ⟨g,0,none⟩)] 103 false none):=by rw[h3 _ (by omega) (by omega),r1 _ (by omega)]; exact q3
  have c4:H3.get (n+1+1+1+1)=some (.cells [.int .i64 pad] 3 false none):=by rw[h3 _ (by omega) (by omega),r1 _ (by omega)]; exact q4
  have cg:cj H3 g 859 115 f:=by
   obtain⟨c,e1,e2,e3⟩:=hs
   exact⟨c,by rw[h3 _ (by omega) (by omega),r1 _ (by omega),k1 _ hg]; exact e1,e2,e3⟩
  refine⟨bq (o:=0) (k:=0) (cY c4) agg3 rfl,bw (o:=0) (k:=0) (cY c3) WX rfl rfl rfl,?_,fun b hb=>?_⟩
  ·have:=cg.load (P:=P) (k:=0) Bq (by omega)
   rw[hx] at this; exact this
  ·have:=cg.load (P:=P) (k:=3+pad * 8+b) agg4 (by omega)
   rw[hnear b hb] at this
   rw[show 0+3+pad * 8+b * 1=3+pad * 8+b by omega]
   exact this
 obtain⟨H3,n3,e3,i1,i2,i3,i4⟩:=iter_spec (cal (l+3)) (.func (.yield (n+1+1+1+2+1)) #[] #[]) (n+1+1+1+1) (n+1+1+1) g pad np x near hpad hnp hlen
  (fun ps Hc nc=>nc=n+1+1+1+2+2∧Hc.get (n+1+1+1+2+1)=some (.loop .ready none 97 T (ntm P 97) #[12] sQ sV (n+1+1+1+2))∧Hc.get (n+1+1)=some (.cells (ints (Rq a3 a4 ps)) 109 false none)∧∀ b,b≠n+1+1+1+2+1→b≠n+1+1→Hc.get b=H2.get b)
  (fun ps Hc nc ⟨_,_,_,h⟩=>hs2 Hc h)
  (fun ps p Hc nc ⟨h1,h2,h3,h4⟩ hp=>by
   have h5:Hc.get n=some (.cells [.int .i64 y,.int .i64 a1,.int .i64 a2,.int .i64 a3,.int .i64 a4] 86 false none):=by rw[h4 _ (by omega) (by omega),r1 _ (by omega)]; exact q0
   rw[← hT] at h2
   obtain⟨H',y1,y2,y3,y4⟩:=yield97 (ρ:=Value × Hp × Nat) (l+2) (n:=nc) h2 h5 h3 (OZ _ _ _) (by omega) (by omega) hp
   refine⟨H',nc,y1,h1,?_,?_,fun b hb hb'=>(y4 b hb hb').trans (h4 b hb hb')⟩
   ·rw[y2,h2,hT]
   ·rw[y3,fillS_snoc])
  (H:=H2) (n:=n+1+1+1+2+2) ⟨rfl,r3,by rw[r1 _ (by omega)]; exact q2,fun _ _ _=>rfl⟩
 rw[show n+1+1+1+2=n+1+1+1+2 from rfl,e3,aj]
 have hout:qZ (n+1+1+1+2+1) { T:=T,H:=H3,n:=n3,D:=[n+1+1+1+2] }=some (.norm,{ T:=T,H:=H3.set (n+1+1+1+2+1) (some (.loop .exhausted none 97 T (ntm P 97) #[12] sQ sV (n+1+1+1+2))),n:=n3,D:=[n+1+1+1+2] }):=by
  unfold qZ
  simp only[i2]
 rw[hout]
 show Ret (K97 (cal (l+4)) KK T (H3.set (n+1+1+1+2+1) (some (.loop .exhausted none 97 T (ntm P 97) #[12] sQ sV (n+1+1+1+2)))) n3 [n+1+1+1+2]) n H _
 generalize hH4:H3.set (n+1+1+1+2+1) (some (.loop .exhausted none 97 T (ntm P 97) #[12] sQ sV (n+1+1+1+2)))=H4
 have o1:∀ b,b≠n+1+1+1+2+1→b≠n+1+1→H4.get b=H2.get b:=fun b hb hb'=>by rw[← hH4,Tr.get_set,if_neg hb]; exact i4 b hb hb'
 have o2:H4.get (n+1+1)=some (.cells (ints (Rq a3 a4 (pad::(List.range np).filter near))) 109 false none):=by rw[← hH4,Tr.get_set,if_neg (by omega)]; exact i3
 clear hH4 hout
 have o0:H4.get n=some (.cells [.int .i64 y,.int .i64 a1,.int .i64 a2,.int .i64 a3,.int .i64 a4] 86 false none):=by rw[o1 _ (by omega) (by omega),r1 _ (by omega)]; exact q0
 have o3:H4.get (n+1)=some (.cells (ints (bJ 0 mZ mZ)) 111 false none):=by rw[o1 _ (by omega) (by omega),r1 _ (by omega)]; exact q1
 have o4:H4.get (n+1+1+1+2)=some .deferred:=by rw[o1 _ (by omega) (by omega)]; exact r2
 rw[← hT,post97,fa86_1,aj,aQ,aj,(loadK53 o0).1,aj,Rj _ 0 hpad,aj,qcq,Nat.zero_add,WW o2 (by rw[OZ]; omega),aj]
 have hsh:((Rq a3 a4 (pad::(List.range np).filter near)).set (pad * 2) a1).set (pad * 2+1) a2=lJ a1 a2 a3 a4 near np pad:=rfl
 rw[hsh]
 generalize hH5:H4.set (n+1+1) (some (.cells (ints (lJ a1 a2 a3 a4 near np pad)) 109 false none))=H5
 have p1:∀ b,b≠n+1+1→H5.get b=H4.get b:=fun b hb=>by rw[← hH5,Tr.get_set,if_neg hb]
 have p2:H5.get (n+1+1)=some (.cells (ints (lJ a1 a2 a3 a4 near np pad)) 109 false none):=by rw[← hH5,Tr.get_set,if_pos rfl]
 clear hH5
 have hl6:=cK p2 yK Bw (by rw[bj,wV])
 rw[fa86_0,aj,aQ,aj,(loadK53 ((p1 n (by omega)).trans o0)).2.2,aj,aQ,aj,hl6,aj,hnest]
 have lens:(ints (bJ y (lJ a1 a2 a3 a4 near np pad) B)).length=33:=by rw[bj,eK (wV ..) hB.1]
 rw[pZ Dk lens,mw ((p1 (n+1) (by omega)).trans o3) (by rw[lens,bj,eK nz nz]) (fj _),aj]
 generalize hH6:H5.set (n+1) (some (.cells (ints (bJ y (lJ a1 a2 a3 a4 near np pad) B)) 111 false none))=H6
 have u1:H6.get (n+1)=some (.cells (ints (bJ y (lJ a1 a2 a3 a4 near np pad) B)) 111 false none):=by rw[← hH6,Tr.get_set,if_pos rfl]
 have u2:∀ b,b≠n+1→H6.get b=H5.get b:=fun b hb=>by rw[← hH6,Tr.get_set,if_neg hb]
 clear hH6
 have ht:rV H6 [n+1+1+1+2]=some (H6.set (n+1+1+1+2) none):=by
  have:H6.get (n+1+1+1+2)=some .deferred:=by rw[u2 _ (by omega),p1 _ (by omega)]; exact o4
  unfold rV
  simp only[this]
  rfl
 rw[ht]
 show Ret (aq (resV P ((Tr.nil:Tm).set 6 (some (.pointer (some ⟨n+1,0,none⟩)))) (H6.set (n+1+1+1+2) none) zj) fun vs=>some (oneV vs,H6.set (n+1+1+1+2) none,n3)) n H _
 rw[res97,cK (t:=111) (s:=33) (L:=ints (bJ y (lJ a1 a2 a3 a4 near np pad) B)) (e:=111) (vec:=none) (by rw[Tr.get_set,if_neg (by omega)]; exact u1) Sx Dk lens]
 refine⟨_,_,rfl,by omega,fun b hb=>?_⟩
 rw[Tr.get_set,if_neg (by omega),u2 _ (by omega),p1 _ (by omega),o1 _ (by omega) (by omega),r1 _ (by omega),k1 _ hb]
end Go.Proofs.Ytndkmmelelchcaa.spec
end
section
namespace Go.Ev
open Go
variable {P:Program} {ρ:Type}
theorem Mz{ex:List Extra}{H:Hp}{n:Nat}{v:Value}{op:Hp→Nat→(Value→Hp→Nat→Option ρ)→Option ρ}{R:Hp→Nat→Prop}
  (hex:∀ y ∈ ex,∃ t a,y=.l t a∧((∃ c e ro vec,H.get a.block=some (.cells c e ro vec))∨∃ c,H.get a.block=some (.rows c)))
  (hop:∀ Hm,(∀ b,¬ ldOf ex b→Hm.get b=H.get b)→∃ H2 n2,(∀ k,op Hm n k=k v H2 n2)∧(∀ b,ldOf ex b→H2.get b=Hm.get b)∧R H2 n2) :
  ∃ H' H2 n2,(∀ k,effK P ex H n op k=k v H' n2)∧R H2 n2∧(∀ b,ldOf ex b→H'.get b=H.get b)∧∀ b,¬ ldOf ex b→H'.get b=H2.get b:=by
 cases ex with
 | nil=>
  obtain⟨H2,n2,h1,_,h3⟩:=hop H (fun _ _=>rfl)
  exact⟨H2,H2,n2,fun k=>by unfold effK; exact h1 k,h3,fun b ⟨_,_,h,_⟩=>(by cases h),fun _ _=>rfl⟩
 | cons y l=>
  have hl:∀ z ∈ y::l,∃ t a,z=.l t a:=fun z hz=>by obtain⟨t,a,e,_⟩:=hex z hz; exact⟨t,a,e⟩
  obtain⟨H1,e1,e2⟩:=Dy (ex:=y::l) (H:=H) fun z hz=>by obtain⟨t,a,e,h⟩:=hex z hz; exact .inl ⟨t,a,e,h⟩
  have hnw:∀ b,¬ nwOf (y::l) b:=fun b ⟨id,c,e,h1,_⟩=>by obtain⟨t,a,q⟩:=hl _ h1; cases q
  obtain⟨H2,n2,h1,h2,h3⟩:=hop (rz (y::l) H1) fun b hb=>by
   rw[(pK (H:=H1) b).2 (hnw _)]
   rcases e2 b with q | ⟨_,q⟩
   ·exact q
   ·exact absurd q hb
  have hsome:∀ z ∈ y::l,(∃ t a,z=.l t a∧(H2.get a.block).isSome)∨∃ id c e,z=.a id c e:=by
   intro z hz
   obtain⟨t,a,rfl,hc⟩:=hex z hz
   refine .inl ⟨t,a,rfl,?_⟩
   rw[h2 _ ⟨t,a,hz,rfl⟩,(pK (H:=H1) a.block).2 (hnw _)]
   have hs:(H.get a.block).isSome:=by rcases hc with⟨c,e,ro,vec,hc⟩ | ⟨c,hc⟩ <;> rw[hc] <;> rfl
   rcases e2 a.block with q | ⟨⟨c,e,ro,vec,_,q⟩,_⟩
   ·rw[q]; exact hs
   ·rw[q]; rfl
  obtain⟨H3,f1,f2,f3⟩:=Dz (H0:=H) hsome
  have hck:chkX P (nZ (y::l) H H3) (y::l)=true:=Mx fun z hz=>.inl (hl z hz)
  refine⟨nZ (y::l) H H3,H2,n2,fun k=>?_,h3,fun b hb=>?_,fun b hb=>?_⟩
  ·unfold effK
   simp only[e1,aj,h1,f1,hck]
   rfl
  ·rw[(vV b).2 (hnw b)]; exact f2 b hb
  ·rw[(vV b).2 (hnw b)]; exact f3 b hb
theorem uZ(f:Nat→Value)(o:Nat)(v:Value)(k:Nat):putF f o [v] k=if k=o then v else f k:=by
 unfold putF
 by_cases h:k=o
 ·subst h; simp
 ·rw[if_neg h]
  by_cases h2:o≤k
  ·rw[if_pos h2]
   have:k-o≠0:=by omega
   cases hk:k-o with
   | zero=>exact absurd hk this
   | succ m=>simp
  ·rw[if_neg h2]
theorem putF_in(f:Nat→Value)(o:Nat)(vs:List Value){j:Nat}{v:Value}(h:vs[j]?=some v):putF f o vs (o+j)=v:=by
 unfold putF
 rw[if_pos (by omega),show o+j-o=j by omega,h]
theorem Mk(f:Nat→Value)(o:Nat)(vs:List Value){k:Nat}(h:k<o∨o+vs.length≤k):putF f o vs k=f k:=by
 unfold putF
 by_cases h2:o≤k
 ·rw[if_pos h2,List.getElem?_eq_none (by omega)]
 ·rw[if_neg h2]
end Go.Ev
end
section
namespace Go.Proofs.Ytndkmmelelchcaa.spec
open Go Go.Ev Go.Proofs.Ytndkmmelelchcaa.nestFits Go.Proofs.Ytndkmmelelchcaa.G
set_option maxRecDepth 100000
variable {ρ:Type}
theorem und115:P.underlying 113=some (.array 8 112):=by kernel_rfl
theorem und114:P.underlying 112=some (.array 3 111):=by kernel_rfl
theorem sz114:szT P 112=some 99:=by kernel_rfl
theorem at115(b o:Nat){i:Nat}(hi:i<8):aV P 113 (.pointer (some ⟨b,o,none⟩)) (.int .i64 i)=some (.pointer (some ⟨b,o+i * 99,none⟩)):=by
 unfold aV
 simp only[und115,Jk hi,sz114]
 rfl
theorem at114(b o:Nat){i:Nat}(hi:i<3):aV P 112 (.pointer (some ⟨b,o,none⟩)) (.int .i64 i)=some (.pointer (some ⟨b,o+i * 33,none⟩)):=by
 unfold aV
 simp only[und114,Jk hi,Dk]
 rfl
open Classical in
noncomputable def Bx(js:List Int)(i:Nat)(a b:Nat):Bool:=decide (∃ q,q<i∧J js a b q)
noncomputable def shP(js ks:List Int)(nj np p kd:Nat):List Int:=lJ (ks.getD (kd * 5+1) 0) (ks.getD (kd * 5+2) 0) (ks.getD (kd * 5+3) 0) (ks.getD (kd * 5+4) 0) (Bx js nj p) np p
def sW(f:Nat→Value)(js ks:List Int)(nj np p kd:Nat):Prop:=∃ B,kK (ks.getD (kd * 5) 0) (shP js ks nj np p kd) B 8∧∀ j,j<33→f (67+p * 99+kd * 33+j)=.int .i64 ((bJ (ks.getD (kd * 5) 0) (shP js ks nj np p kd) B).getD j 0)
structure SiteF (f:Nat→Value) (x y z:Value) (js:List Int) (i:Nat):Prop where
 x:f 0=x
 y:f 1=y
 z:f 2=z
 near:∀ a b,a<8→b<8→f (3+a * 8+b)=.bool (Bx js i a b)
open Classical in
theorem nearB_next{js:List Int}{i A B:Nat}(hA:js[i * 2]?=some (A:Int))(hB:js[i * 2+1]?=some (B:Int))(a b:Nat) :
  Bx js (i+1) a b=if(a=A∧b=B)∨(a=B∧b=A) then true else Bx js i a b:=by
 have hJ:J js a b i↔(a=A∧b=B)∨(a=B∧b=A):=by
  unfold J; rw[hA,hB]; simp only[Option.some.injEq]; omega
 unfold Bx
 by_cases h:(a=A∧b=B)∨(a=B∧b=A)
 ·rw[if_pos h]
  exact decide_eq_true ⟨i,by omega,hJ.2 h⟩
 ·rw[if_neg h]
  congr 1
  exact propext ⟨fun⟨q,h1,h2⟩=>by
   rcases Nat.lt_or_ge q i with z | z
   ·exact⟨q,z,h2⟩
   ·rw[show q=i by omega] at h2
    exact absurd (hJ.1 h2) h,fun⟨q,h1,h2⟩=>⟨q,by omega,h2⟩⟩
theorem near_loop61(c:Cal)(k:Nat)(g np nj:Nat)(js:List Int)(x y z:Value)(hnp:np≤8)(hnj:nj≤1000)(hjs:∀ i,i<nj→∃ A B:Nat,js[i * 2]?=some (A:Int)∧js[i * 2+1]?=some (B:Int)∧A<np∧B<np)
  (Q:Res→Prop) (H0:Hp) (n0:Nat) (hg:n0≤g) (hy0:dV H0 n0 2 y nj js) (hx:∀(H:Hp) (n:Nat) (f:Nat→Value),n0≤n→g<n→Keep n0 H0 H→cj H g 859 115 f→SiteF f x y z js nj →
   (∀ p kd j,p<8→kd<3→j<33→f (67+p * 99+kd * 33+j)=.int .i64 0→True)→Q (S61_2 c k k (.pointer (some ⟨g,0,none⟩)) (.int .i64 np) (.int .i64 0) H n)) (hlx:lenV P 31 x=some (.int .i64 np)) :
  ∀(m i:Nat) (H:Hp) (n:Nat) (f:Nat→Value),n0≤n→g<n→Keep n0 H0 H→cj H g 859 115 f→SiteF f x y z js i→i≤nj→nj-i≤m →
  Q (S61_1 c k m (.pointer (some ⟨g,0,none⟩)) y (.int .i64 nj) (.int .i64 i) H n):=by
 have body:∀(b1:Value→Value→Value→Value→Hp→Nat→Res) (m i:Nat) (H:Hp) (n:Nat) (f:Nat→Value),n0≤n→g<n→Keep n0 H0 H→cj H g 859 115 f→SiteF f x y z js i→i≤nj →
   (∀(H:Hp) (n:Nat) (f:Nat→Value),n0≤n→g<n→Keep n0 H0 H→cj H g 859 115 f→SiteF f x y z js (i+1)→i<nj→Q (b1 (.pointer (some ⟨g,0,none⟩)) y (.int .i64 nj) (.int .i64 ((i+1:Nat):Int)) H n)) →
   Q (C61_1 c k m b1 (.pointer (some ⟨g,0,none⟩)) y (.int .i64 nj) (.int .i64 i) H n):=by
  intro b1 m i H n f hn hgn hk hf hs hi ih
  unfold C61_1 B61_1
  generalize hS:S61_2 c k k=S
  rw[aJ dq,jx]
  by_cases hlt:i<nj
  ·rw[if_pos (by omega)]
   obtain⟨A,B,hA,hB,hA8,hB8⟩:=hjs i hlt
   have hy:=(hy0.keep hk (Nat.le_refl _)).up hn
   obtain⟨bb,o,hix,hbn,hc⟩:=hy.at_ und32 sz88 hlt
   have hl2:i * 2+2≤js.length:=by rw[hy.1]; omega
   obtain⟨u,w,hu,hw,huw⟩:=TY hl2
   rw[hA] at hu; rw[hB] at hw
   cases hu; cases hw
   have hld:az P H 88 ⟨bb,o+i * 2,none⟩=some (.agg ⟨[.int .i64 A,.int .i64 B]⟩):=by
    rw[bY hc agg88 sz88 (by rw[bj]; exact hl2) (dk _),huw]
   obtain⟨H1,k1,k2,k3⟩:=qx (P:=P) (ρ:=Value × Hp × Nat) (H:=H) (n:=n) (L:=[.int .i64 A,.int .i64 B]) zero88 rfl sz88 rfl rfl
   rw[hix,aj,aQ,aj,hld,aj,k3]
   have la:az P H1 3 ⟨n,0+0,none⟩=some (.int .i64 A):=bq (cY k2) agg3 rfl
   have lb:az P H1 3 ⟨n,0+1,none⟩=some (.int .i64 B):=bq (cY k2) agg3 rfl
   rw[fa88_0,aj,aQ,aj,la,aj,fa88_1,aj,aQ,aj,lb,aj,aj,aQ,aj,lb,aj,aj,aQ,aj,la,aj,lk,aj,fa117_1,aj,
    at109 _ _ (by omega),aj,at108 _ _ (by omega),aj,aj,fa117_1,aj,at109 _ _ (by omega),aj]
   have hf1:=hf.keep k1 hgn
   obtain⟨H2,H2',n2,e2,⟨r1,r2,r3⟩,r4,r5⟩:=Mz (P:=P) (ρ:=Value × Hp × Nat) (ex:=[.l 3 ⟨n,0+0,none⟩,.l 3 ⟨n,0+1,none⟩]) (H:=H1) (n:=n+1) (v:=undef)
    (op:=fun H n k=>aq (bV P 4 (.pointer (some ⟨g,0+3+A * 8+B * 1,none⟩)) (.bool true) H) fun H=>k undef H n)
    (R:=fun H' n'=>n'=n+1∧cj H' g 859 115 (putF f (0+3+A * 8+B * 1) [.bool true])∧∀ b,b≠n→b≠g→H'.get b=H1.get b)
    (fun q hq=>by
     simp only[List.mem_cons,List.not_mem_nil,or_false] at hq
     rcases hq with rfl | rfl <;> exact⟨_,_,rfl,.inl ⟨_,_,_,_,k2⟩⟩)
    (fun Hm hm=>by
     have hld:∀ b,ldOf [.l 3 ⟨n,0+0,none⟩,.l 3 ⟨n,0+1,none⟩] b↔b=n:=fun b=>by
      constructor
      ·rintro⟨t,a,h1,h2⟩
       simp only[List.mem_cons,List.not_mem_nil,or_false,Extra.l.injEq] at h1
       rcases h1 with⟨_,rfl⟩ | ⟨_,rfl⟩ <;> exact h2.symm
      ·rintro rfl
       exact⟨3,⟨_,0+0,none⟩,by simp,rfl⟩
     have hmg:cj Hm g 859 115 f:=by
      obtain⟨c,e1,e2,e3⟩:=hf1
      exact⟨c,by rw[hm g (fun h=>by have:=(hld g).1 h; omega)]; exact e1,e2,e3⟩
     obtain⟨H',s1,s2,s3⟩:=hmg.storeN (o:=0+3+A * 8+B * 1) (vs:=[.bool true]) (by simp; omega) rfl
     refine⟨H',n+1,fun k=>by rw[oZ sz4 rfl,s1,aj],fun b hb=>s3 b (by have:=(hld b).1 hb; omega),rfl,s2,fun b hb hb'=>?_⟩
     rw[s3 b hb',hm b (fun h=>hb ((hld b).1 h))])
   rw[e2,at108 _ _ (by omega),aj]
   subst r1
   have hld:∀ b,ldOf [.l 3 ⟨n,0+0,none⟩,.l 3 ⟨n,0+1,none⟩] b↔b=n:=fun b=>by
    constructor
    ·rintro⟨t,a,h1,h2⟩
     simp only[List.mem_cons,List.not_mem_nil,or_false,Extra.l.injEq] at h1
     rcases h1 with⟨_,rfl⟩ | ⟨_,rfl⟩ <;> exact h2.symm
    ·rintro rfl
     exact⟨3,⟨_,0+0,none⟩,by simp,rfl⟩
   have hf2:cj H2 g 859 115 (putF f (0+3+A * 8+B * 1) [.bool true]):=by
    obtain⟨c,e1,e2,e3⟩:=r2
    exact⟨c,by rw[r5 g (fun h=>by have:=(hld g).1 h; omega)]; exact e1,e2,e3⟩
   obtain⟨H3,s1,s2,s3⟩:=hf2.storeN (o:=0+3+B * 8+A * 1) (vs:=[.bool true]) (by simp; omega) rfl
   have hI:I64 ((i:Int)+1):=by unfold I64; omega
   have hcast:((i:Int)+1)=((i+1:Nat):Int):=by omega
   rw[oZ sz4 rfl,s1,aj,aJ (bW hI),hcast]
   refine ih H3 (n+1) _ (by omega) (by omega) (fun b hb=>?_) s2 ⟨?_,?_,?_,fun a b ha hb=>?_⟩ hlt
   ·rw[s3 b (by omega),r5 b (fun h=>by have:=(hld b).1 h; omega),r3 b (by omega) (by omega),k1 b (by omega),hk b hb]
   ·rw[uZ,if_neg (by omega),uZ,if_neg (by omega)]; exact hs.x
   ·rw[uZ,if_neg (by omega),uZ,if_neg (by omega)]; exact hs.y
   ·rw[uZ,if_neg (by omega),uZ,if_neg (by omega)]; exact hs.z
   ·rw[uZ,uZ,nearB_next hA hB,hs.near a b ha hb]
    by_cases c1:3+a * 8+b=0+3+B * 8+A * 1
    ·rw[if_pos c1,if_pos (.inr ⟨by omega,by omega⟩)]
    ·rw[if_neg c1]
     by_cases c2:3+a * 8+b=0+3+A * 8+B * 1
     ·rw[if_pos c2,if_pos (.inl ⟨by omega,by omega⟩)]
     ·rw[if_neg c2,if_neg]
      rintro(⟨h1,h2⟩ | ⟨h1,h2⟩)
      ·exact c2 (by subst h1; subst h2; omega)
      ·exact c1 (by subst h1; subst h2; omega)
  ·rw[if_neg (by omega)]
   have hi':i=nj:=by omega
   subst hi'
   have lx:az P H 31 ⟨g,0+0+0,none⟩=some x:=by
    have:=hf.load (P:=P) (k:=0) Bq (by omega)
    rw[hs.x] at this; exact this
   rw[lk,aj,oK,aj,qJ,aj,aQ,aj,lx,aj,hlx,aj,← hS]
   exact hx H n f hn hgn hk hf hs (fun _ _ _ _ _ _ _=>trivial)
 intro m
 induction m with
 | zero=>
  intro i H n f h1 h2 h3 h4 h5 h6 h7
  exact body _ 0 i H n f h1 h2 h3 h4 h5 h6 (fun _ _ _ _ _ _ _ _ h=>by omega)
 | succ m ih=>
  intro i H n f h1 h2 h3 h4 h5 h6 h7
  exact body _ (m+1) i H n f h1 h2 h3 h4 h5 h6 (fun H n f q1 q2 q3 q4 q5 q6=>ih (i+1) H n f q1 q2 q3 q4 q5 (by omega) (by omega))
theorem getD_some{X:List Int}{j:Nat}(h:j<X.length):X[j]?=some (X.getD j 0):=by
 rw[List.getD_eq_getElem?_getD,List.getElem?_eq_getElem h]; rfl
theorem nestOn_call(l:Nat){H:Hp}{n g np pad:Nat}{f:Nat→Value}{x:Value}{near:Nat→Bool}{y a1 a2 a3 a4:Int}(hg:g<n)(hs:cj H g 859 115 f)(hx:f 0=x)(hlen:lenV P 31 x=some (.int .i64 np))(hnp:np≤8)(hpad:pad<8)
  (hnear:∀ b,b<8→f (3+pad * 8+b)=.bool (near b)) (hy:0≤y∧y≤1000) (h1:okR a1 a2) (h2:okR a3 a4) :
  ∃ B H' n',kK y (lJ a1 a2 a3 a4 near np pad) B 8∧(∀ k:Value→Hp→Nat→Option ρ,aY P (cal (l+5)) 97 [.pointer (some ⟨g,0,none⟩),.int .i64 pad,.agg ⟨[.int .i64 y,.int .i64 a1,.int .i64 a2,.int .i64 a3,.int .i64 a4]⟩] H n k =
   k (.agg ⟨ints (bJ y (lJ a1 a2 a3 a4 near np pad) B)⟩) H' n')∧n≤n'∧Keep n H H':=by
 obtain⟨B,hB,H',n',e,h3,h4⟩:=nestOn_spec l hg hs hx hlen hnp hpad hnear hy h1 h2
 refine⟨B,H',n',hB,fun k=>?_,h3,h4⟩
 unfold aY
 have:(fX P 97 && bK [.pointer (some ⟨g,0,none⟩),.int .i64 pad,.agg ⟨[.int .i64 y,.int .i64 a1,.int .i64 a2,.int .i64 a3,.int .i64 a4]⟩])=false:=by rw[Bool.and_eq_false_iff]; exact .inr rfl
 rw[this,e]
 rfl
def JJ(f:Nat→Value)(js ks:List Int)(nj np nk pd i:Nat):Prop:=∀ p kd,p<np→kd<nk→(p<pd∨(p=pd∧kd<i))→sW f js ks nj np p kd
def pj(ks:List Int)(nk:Nat):Prop:=∀ kd,kd<nk→(0≤ks.getD (kd * 5) 0∧ks.getD (kd * 5) 0≤1000)∧okR (ks.getD (kd * 5+1) 0) (ks.getD (kd * 5+2) 0)∧okR (ks.getD (kd * 5+3) 0) (ks.getD (kd * 5+4) 0)
theorem nests_loop3(l k m1:Nat)(g np nj nk:Nat)(js ks:List Int)(x y z:Value)(hnp:np≤8)(hnk:nk≤3)(hks:pj ks nk)
  (Q:Res→Prop) (H0:Hp) (n0:Nat) (hg:n0≤g) (hz0:dV H0 n0 5 z nk ks) (hlx:lenV P 31 x=some (.int .i64 np)) (pd:Nat) (hpd:pd<np) (b2:Value→Value→Value→Hp→Nat→Res)
  (hb2:∀(H:Hp) (n:Nat) (f:Nat→Value),n0≤n→g<n→Keep n0 H0 H→cj H g 859 115 f→SiteF f x y z js nj→JJ f js ks nj np nk (pd+1) 0→Q (b2 (.pointer (some ⟨g,0,none⟩)) (.int .i64 np) (.int .i64 ((pd+1:Nat):Int)) H n)) :
  ∀(m i:Nat) (H:Hp) (n:Nat) (f:Nat→Value),n0≤n→g<n→Keep n0 H0 H→cj H g 859 115 f→SiteF f x y z js nj→JJ f js ks nj np nk pd i→i≤nk→nk-i≤m →
  Q (S61_3 (cal (l+5)) k m1 b2 m (.pointer (some ⟨g,0,none⟩)) (.int .i64 pd) (.int .i64 np) (.int .i64 pd) z (.int .i64 nk) (.int .i64 i) H n):=by
 have body:∀(b3:Value→Value→Value→Value→Value→Value→Value→Hp→Nat→Res) (m i:Nat) (H:Hp) (n:Nat) (f:Nat→Value),n0≤n→g<n→Keep n0 H0 H→cj H g 859 115 f→SiteF f x y z js nj→JJ f js ks nj np nk pd i→i≤nk →
   (∀(H:Hp) (n:Nat) (f:Nat→Value),n0≤n→g<n→Keep n0 H0 H→cj H g 859 115 f→SiteF f x y z js nj→JJ f js ks nj np nk pd (i+1)→i<nk →
    Q (b3 (.pointer (some ⟨g,0,none⟩)) (.int .i64 pd) (.int .i64 np) (.int .i64 pd) z (.int .i64 nk) (.int .i64 ((i+1:Nat):Int)) H n)) →
   Q (C61_3 (cal (l+5)) k m1 m b2 b3 (.pointer (some ⟨g,0,none⟩)) (.int .i64 pd) (.int .i64 np) (.int .i64 pd) z (.int .i64 nk) (.int .i64 i) H n):=by
  intro b3 m i H n f hn hgn hk hf hs hnt hi ih
  unfold C61_3 B61_3
  rw[aJ dq,jx]
  by_cases hlt:i<nk
  ·rw[if_pos (by omega)]
   have hz:=(hz0.keep hk (Nat.le_refl _)).up hn
   obtain⟨bb,o,hix,hbn,hc⟩:=hz.at_ und33 sz86 hlt
   have hl2:i * 5+5≤ks.length:=by rw[hz.1]; omega
   have hld:az P H 86 ⟨bb,o+i * 5,none⟩=some (.agg ⟨[.int .i64 (ks.getD (i * 5) 0),.int .i64 (ks.getD (i * 5+1) 0),.int .i64 (ks.getD (i * 5+2) 0),.int .i64 (ks.getD (i * 5+3) 0),.int .i64 (ks.getD (i * 5+4) 0)]⟩):=by
    rw[bY hc agg86 sz86 (by rw[bj]; exact hl2) (dk _),qbv hl2]
   obtain⟨H1,k1,k2,k3⟩:=qx (P:=P) (ρ:=Value × Hp × Nat) (H:=H) (n:=n) (L:=[.int .i64 (ks.getD (i * 5) 0),.int .i64 (ks.getD (i * 5+1) 0),.int .i64 (ks.getD (i * 5+2) 0),.int .i64 (ks.getD (i * 5+3) 0),.int .i64 (ks.getD (i * 5+4) 0)]) zero86 rfl sz86 rfl rfl
   rw[hix,aj,aQ,aj,hld,aj,k3]
   have hback:=cK k2 agg86 sz86 rfl
   rw[aQ,aj,hback,aj,lk,aj,qck,aj,at115 _ _ (by omega),aj]
   have hf1:=hf.keep k1 hgn
   obtain⟨y1,y2,y3⟩:=hks i hlt
   obtain⟨B,H2,n2,hB,e2,e3,e4⟩:=nestOn_call (ρ:=Value × Hp × Nat) l (n:=n+1) (by omega) hf1 hs.x hlx hnp (show pd<8 by omega) (near:=Bx js nj pd) (fun b hb=>hs.near pd b (by omega) hb) y1 y2 y3
   rw[e2,at114 _ _ (by omega),aj]
   have hf2:=hf1.keep e4 (by omega)
   have lens:(ints (bJ (ks.getD (i * 5) 0) (lJ (ks.getD (i * 5+1) 0) (ks.getD (i * 5+2) 0) (ks.getD (i * 5+3) 0) (ks.getD (i * 5+4) 0) (Bx js nj pd) np pd) B)).length=33:=by rw[bj,eK (wV ..) hB.1]
   obtain⟨H3,s1,s2,s3⟩:=hf2.storeN (o:=0+67+pd * 99+i * 33) (vs:=ints (bJ (ks.getD (i * 5) 0) (lJ (ks.getD (i * 5+1) 0) (ks.getD (i * 5+2) 0) (ks.getD (i * 5+3) 0) (ks.getD (i * 5+4) 0) (Bx js nj pd) np pd) B)) (by rw[lens]; omega) (fj _)
   have hI:I64 ((i:Int)+1):=by unfold I64; omega
   have hcast:((i:Int)+1)=((i+1:Nat):Int):=by omega
   rw[pZ Dk lens,s1,aj,aJ (bW hI),hcast]
   refine ih H3 n2 _ (by omega) (by omega) (fun b hb=>?_) s2 ⟨?_,?_,?_,fun a b ha hb=>?_⟩ (fun p kd hp hkd hpk=>?_) hlt
   ·rw[s3 b (by omega),e4 b (by omega),k1 b (by omega),hk b hb]
   ·rw[Mk _ _ _ (.inl (by omega))]; exact hs.x
   ·rw[Mk _ _ _ (.inl (by omega))]; exact hs.y
   ·rw[Mk _ _ _ (.inl (by omega))]; exact hs.z
   ·rw[Mk _ _ _ (.inl (by omega))]; exact hs.near a b ha hb
   ·by_cases hnew:p=pd∧kd=i
    ·obtain⟨rfl,rfl⟩:=hnew
     refine⟨B,hB,fun j hj=>?_⟩
     rw[show 67+p * 99+kd * 33+j=0+67+p * 99+kd * 33+j by omega]
     refine putF_in _ _ _ (gX ?_)
     have:j<(bJ (ks.getD (kd * 5) 0) (lJ (ks.getD (kd * 5+1) 0) (ks.getD (kd * 5+2) 0) (ks.getD (kd * 5+3) 0) (ks.getD (kd * 5+4) 0) (Bx js nj p) np p) B).length:=by rw[← bj,lens]; exact hj
     exact getD_some this
    ·obtain⟨B',hB',hf'⟩:=hnt p kd hp hkd (by omega)
     refine⟨B',hB',fun j hj=>?_⟩
     rw[Mk _ _ _ (by rw[lens]; omega)]
     exact hf' j hj
  ·rw[if_neg (by omega)]
   have hi':i=nk:=by omega
   subst hi'
   have hI:I64 ((pd:Int)+1):=by unfold I64; omega
   have hcast:((pd:Int)+1)=((pd+1:Nat):Int):=by omega
   rw[aJ (bW hI),hcast]
   exact hb2 H n f hn hgn hk hf hs (fun p kd hp hkd h=>hnt p kd hp hkd (by omega))
 intro m
 induction m with
 | zero=>
  intro i H n f h1 h2 h3 h4 h5 h6 h7 h8
  exact body _ 0 i H n f h1 h2 h3 h4 h5 h6 h7 (fun _ _ _ _ _ _ _ _ _ h=>by omega)
 | succ m ih=>
  intro i H n f h1 h2 h3 h4 h5 h6 h7 h8
  exact body _ (m+1) i H n f h1 h2 h3 h4 h5 h6 h7 (fun H n f q1 q2 q3 q4 q5 q6 q7=>ih (i+1) H n f q1 q2 q3 q4 q5 q6 (by omega) (by omega))
theorem nests_loop2(l k:Nat)(g np nj nk:Nat)(js ks:List Int)(x y z:Value)(hnp:np≤8)(hnk:nk≤3)(hks:pj ks nk)
  (Q:Res→Prop) (H0:Hp) (n0:Nat) (hg:n0≤g) (hz0:dV H0 n0 5 z nk ks) (hlx:lenV P 31 x=some (.int .i64 np))
  (hq:∀(H:Hp) (n:Nat) (f:Nat→Value),n0≤n→g<n→Keep n0 H0 H→cj H g 859 115 f→SiteF f x y z js nj→(∀ p kd,p<np→kd<nk→sW f js ks nj np p kd)→Q (some (.tuple ⟨[.pointer (some ⟨g,0,none⟩),.int .i64 0]⟩,H,n))) :
  ∀(m i:Nat) (H:Hp) (n:Nat) (f:Nat→Value),n0≤n→g<n→Keep n0 H0 H→cj H g 859 115 f→SiteF f x y z js nj→JJ f js ks nj np nk i 0→i≤np→np-i+3≤m →
  Q (S61_2 (cal (l+5)) k m (.pointer (some ⟨g,0,none⟩)) (.int .i64 np) (.int .i64 i) H n):=by
 have body:∀(b2:Value→Value→Value→Hp→Nat→Res) (m i:Nat) (H:Hp) (n:Nat) (f:Nat→Value),n0≤n→g<n→Keep n0 H0 H→cj H g 859 115 f→SiteF f x y z js nj→JJ f js ks nj np nk i 0→i≤np→3≤m →
   (∀(H:Hp) (n:Nat) (f:Nat→Value),n0≤n→g<n→Keep n0 H0 H→cj H g 859 115 f→SiteF f x y z js nj→JJ f js ks nj np nk (i+1) 0→i<np→Q (b2 (.pointer (some ⟨g,0,none⟩)) (.int .i64 np) (.int .i64 ((i+1:Nat):Int)) H n)) →
   Q (C61_2 (cal (l+5)) k m b2 (.pointer (some ⟨g,0,none⟩)) (.int .i64 np) (.int .i64 i) H n):=by
  intro b2 m i H n f hn hgn hk hf hs hnt hi hm ih
  unfold C61_2 B61_2
  generalize hS:S61_3 (cal (l+5)) k m b2 m=S
  rw[aJ dq,jx]
  by_cases hlt:i<np
  ·rw[if_pos (by omega)]
   have lz:az P H 33 ⟨g,0+0+2,none⟩=some z:=by
    have:=hf.load (P:=P) (k:=2) agg33 (by omega)
    rw[hs.z] at this; exact this
   have e3:lenV P 33 z=some (.int .i64 nk):=hz0.len_eq und33
   rw[lk,aj,oK,aj,Wk,aj,aQ,aj,lz,aj,e3,aj,← hS]
   exact nests_loop3 l k m g np nj nk js ks x y z hnp hnk hks Q H0 n0 hg hz0 hlx i hlt b2 (fun H n f q1 q2 q3 q4 q5 q6=>ih H n f q1 q2 q3 q4 q5 q6 hlt) m 0 H n f hn hgn hk hf hs hnt (by omega) (by omega)
  ·rw[if_neg (by omega)]
   exact hq H n f hn hgn hk hf hs (fun p kd hp hkd=>hnt p kd hp hkd (.inl (by omega)))
 intro m
 induction m with
 | zero=>
  intro i H n f h1 h2 h3 h4 h5 h6 h7 h8
  omega
 | succ m ih=>
  intro i H n f h1 h2 h3 h4 h5 h6 h7 h8
  exact body _ (m+1) i H n f h1 h2 h3 h4 h5 h6 h7 (by omega) (fun H n f q1 q2 q3 q4 q5 q6 q7=>ih (i+1) H n f q1 q2 q3 q4 q5 q6 (by omega) (by omega))
open Classical in
theorem nearB_zero(js:List Int)(a b:Nat):Bx js 0 a b=false:=by
 unfold Bx
 exact decide_eq_false (fun⟨q,h,_⟩=>by omega)
theorem build117(x y z:Value):fw P 115 [(0,.agg ⟨[x,y,z]⟩)]=some (.agg ⟨x::y::z::(List.replicate 64 (.bool false)++List.replicate 792 (.int .i64 0))⟩):=by kernel_rfl
def site0(x y z:Value)(k:Nat):Value:=if k=0 then x else if k=1 then y else if k=2 then z else if k<67 then .bool false else .int .i64 0
theorem site0_at(x y z:Value)(k:Nat)(hk:k<859):(x::y::z::(List.replicate 64 (Value.bool false)++List.replicate 792 (Value.int .i64 0)))[k]?=some (site0 x y z k):=by
 match k,hk with
 | 0,_=>rfl
 | 1,_=>rfl
 | 2,_=>rfl
 | k+3,hk=>
  rw[List.getElem?_cons_succ,List.getElem?_cons_succ,List.getElem?_cons_succ]
  unfold site0
  rw[if_neg (by omega),if_neg (by omega),if_neg (by omega)]
  by_cases h:k<64
  ·rw[List.getElem?_append_left (by simp; omega),List.getElem?_replicate,if_pos h,if_pos (by omega)]
  ·rw[List.getElem?_append_right (by simp; omega),List.getElem?_replicate,List.length_replicate,if_pos (by omega),if_neg (by omega)]
structure Good (np nj nk:Nat) (ps js ks:List Int):Prop where
 np8:np≤8
 nj16:nj≤16
 nk3:nk≤3
 np1:np≠0
 nk1:nk≠0
 ok:¬ GBad np nj nk ps js ks
theorem JQ{np nj nk:Nat}{ps js ks:List Int}(h:ij np nj nk ps js ks=0):Good np nj nk ps js ks:=by
 unfold ij at h
 by_cases c1:8<np∨16<nj∨3<nk
 ·rw[if_pos c1] at h; omega
 ·rw[if_neg c1] at h
  by_cases c2:np=0∨nk=0
  ·rw[if_pos c2] at h; omega
  ·rw[if_neg c2] at h
   by_cases c3:GBad np nj nk ps js ks
   ·rw[if_pos c3] at h; omega
   ·exact⟨by omega,by omega,by omega,by omega,by omega,c3⟩
theorem Good.kinds{np nj nk:Nat}{ps js ks:List Int}(h:Good np nj nk ps js ks):pj ks nk:=by
 intro kd hkd
 have hb:¬ KBad ks kd:=fun c=>h.ok (.inr (.inl ⟨kd,hkd,c⟩))
 unfold KBad at hb
 unfold okR
 omega
theorem Good.joins{np nj nk:Nat}{ps js ks:List Int}(h:Good np nj nk ps js ks)(hl:js.length=nj * 2)(i:Nat)(hi:i<nj):∃ A B:Nat,js[i * 2]?=some (A:Int)∧js[i * 2+1]?=some (B:Int)∧A<np∧B<np:=by
 have hb:∀ i,i<nj→okJ js np nj (js.getD (i * 2) 0) (js.getD (i * 2+1) 0):=(joins_all hl).2 fun c=>h.ok (.inr (.inr c))
 obtain⟨o1,o2,_,_⟩:=hb i hi
 refine⟨(js.getD (i * 2) 0).toNat,(js.getD (i * 2+1) 0).toNat,?_,?_,by omega,by omega⟩
 ·rw[getD_some (show i * 2<js.length by omega)]; congr 1; omega
 ·rw[getD_some (show i * 2+1<js.length by omega)]; congr 1; omega
def Opened(r:Res)(n:Nat)(H:Hp)(v:Value)(np nj nk:Nat)(js ks:List Int):Prop:=∃(g:Nat) (x y z:Value) (f:Nat→Value) (H':Hp) (n':Nat),r=some (.tuple ⟨[.pointer (some ⟨g,0,none⟩),.int .i64 0]⟩,H',n')∧n≤n'∧Keep n H H'∧n≤g∧g<n' ∧
 v=.agg ⟨[x,y,z]⟩∧cj H' g 859 115 f∧SiteF f x y z js nj∧∀ p kd,p<np→kd<nk→sW f js ks nj np p kd
theorem open_spec(l:Nat){np nj nk:Nat}{ps js ks:List Int}{H:Hp}{n:Nat}{v:Value}(hg:iZ H n v np nj nk ps js ks)(hnp:np≤1000)(hnj:nj≤1000)(hnk:nk≤1000) :
  (ij np nj nk ps js ks≠0→Ret (ZK (cal (l+5)) KK v H n) n H (.tuple ⟨[.pointer none,.int .i64 (ij np nj nk ps js ks)]⟩)) ∧
  (ij np nj nk ps js ks=0→Opened (ZK (cal (l+5)) KK v H n) n H v np nj nk js ks):=by
 have hg0:=hg
 obtain⟨x,y,z,rfl,h1,h2,h3⟩:=hg
 unfold ZK B61_0
 generalize hS:S61_1 (cal (l+5)) KK KK=S
 rw[dv]
 simp only[bv,ptr]
 have hk:Keep n H (H.set n (some (.cells [x,y,z] 35 false none))):=(Keep.refl n H).set (Nat.le_refl _) _
 have hb:aZ (H.set n (some (.cells [x,y,z] 35 false none))) n 0 [x,y,z]:=aZ.new
 generalize H.set n (some (.cells [x,y,z] 35 false none))=H1 at hk hb ⊢
 have lg:∀ H2,aZ H2 n 0 [x,y,z]→az P H2 35 ⟨n,0,none⟩=some (.agg ⟨[x,y,z]⟩):=fun H2 h=>bY (o:=0) (k:=0) h QK sz35 (by simp) (by simp [h1.hole.1,h2.hole.1,h3.hole.1])
 obtain⟨H2,n2,e1,e2,e3⟩:=check_call (ρ:=Value × Hp × Nat) (l+1) (hg0.keep hk (show n≤n+1 by omega)) hnp hnj hnk
 rw[aQ,aj,lg H1 hb,aj,e1,aJ ix]
 constructor
 ·intro hne
  rw[decide_eq_false hne,Bool.not_false,fQ]
  exact⟨H2,n2,rfl,by omega,hk.trans e3 (by omega)⟩
 ·intro he
  have good:=JQ he
  have hb2:=hb.keep e3 (by omega)
  rw[decide_eq_true he,Bool.not_true,eV,aj,lg H2 hb2,aj,build117,aj,dv]
  simp only[bv,ptr]
  have kk:Keep n H H2:=hk.trans e3 (by omega)
  have hf:cj (H2.set n2 (some (.cells (x::y::z::(List.replicate 64 (.bool false)++List.replicate 792 (.int .i64 0))) 115 false none))) n2 859 115 (site0 x y z):=cj.new (by simp) _ (site0_at x y z)
  have kk2:Keep n H (H2.set n2 (some (.cells (x::y::z::(List.replicate 64 (.bool false)++List.replicate 792 (.int .i64 0))) 115 false none))):=kk.set (by omega) _
  generalize H2.set n2 (some (.cells (x::y::z::(List.replicate 64 (.bool false)++List.replicate 792 (.int .i64 0))) 115 false none))=H3 at hf kk2 ⊢
  have ly:az P H3 32 ⟨n2,0+0+1,none⟩=some y:=hf.load (P:=P) (k:=1) agg32 (by omega)
  have ey:lenV P 32 y=some (.int .i64 nj):=h2.len_eq und32
  rw[lk,aj,oK,aj,fa35_1,aj,aQ,aj,ly,aj,ey,aj,← hS]
  have hlx:lenV P 31 x=some (.int .i64 np):=h1.len_eq Bv
  refine near_loop61 (cal (l+5)) KK n2 np nj js x y z good.np8 hnj (good.joins h2.1) (fun r=>Opened r n H (.agg ⟨[x,y,z]⟩) np nj nk js ks) H n (by omega) h2
   (fun H4 n4 f4 q1 q2 q3 q4 q5 _=>nests_loop2 l KK n2 np nj nk js ks x y z good.np8 good.nk3 good.kinds (fun r=>Opened r n H (.agg ⟨[x,y,z]⟩) np nj nk js ks) H n (by omega) h3 hlx
    (fun H5 n5 f5 p1 p2 p3 p4 p5 p6=>⟨n2,x,y,z,f5,H5,n5,rfl,by omega,p3,by omega,p2,rfl,p4,p5,p6⟩) KK 0 H4 n4 f4 q1 q2 q3 q4 q5 (fun p kd _ _ h=>by omega) (by omega) (by have:=good.np8; unfold KK; omega)) hlx
   KK 0 H3 (n2+1) (site0 x y z) (by omega) (by omega) kk2 hf ⟨rfl,rfl,rfl,fun a b ha hb=>?_⟩ (by omega) (by unfold KK; omega)
  unfold site0
  rw[if_neg (by omega),if_neg (by omega),if_neg (by omega),if_pos (by omega),nearB_zero]
theorem flat61:fX P 61=false:=by kernel_rfl
theorem call61(l:Nat)(a:Value)(H:Hp)(n:Nat):(cal (l+1)).call 61 [a] H n=ZK (cal l) KK a H n:=by kernel_rfl
theorem open_call(l:Nat)(v:Value)(H:Hp)(n:Nat)(k:Value→Hp→Nat→Option ρ):aY P (cal (l+6)) 61 [v] H n k=aq (ZK (cal (l+5)) KK v H n) fun r=>k r.1 r.2.1 r.2.2:=by
 unfold aY
 rw[flat61,call61]
 rfl
end Go.Proofs.Ytndkmmelelchcaa.spec
end
section
namespace Go.Ev
open Go
variable {P:Program} {t t2 e e2:TypeId} {ρ:Type}
theorem WK{H:Hp}{b o:Nat}{L:List Value}(h:aZ H b o L)(hn:L.all lQ=true){m:Nat}(hm:L.length=m):AW H ⟨b,o,none⟩ m=some L:=by
 have:=qhv (s:=m) (k:=0) h (by omega) hn
 rw[Nat.add_zero] at this
 rw[this,qjz _ _ hm]
end Go.Ev
end
section
namespace Go.Proofs.Ytndkmmelelchcaa.spec
open Go Go.Ev Go.Proofs.Ytndkmmelelchcaa.nestFits Go.Proofs.Ytndkmmelelchcaa.G
set_option maxRecDepth 100000
variable {ρ:Type}
noncomputable def fitD(js ks:List Int)(nj np p kd:Nat):Bool:=decide (total (shP js ks nj np p kd) 0≤ks.getD (kd * 5) 0∧ks.getD (kd * 5) 0≤total (shP js ks nj np p kd) 1)
theorem JV(js ks:List Int)(nj np p kd:Nat):(shP js ks nj np p kd).length=16:=wV ..
theorem sX{js ks:List Int}{nj np nk p kd:Nat}(hks:pj ks nk)(hkd:kd<nk)(hnp:np≤8)(hp:p<np):fZ (shP js ks nj np p kd):=by
 obtain⟨_,h2,h3⟩:=hks kd hkd
 exact sharesL_bounded hnp (by omega) h2 h3
theorem OK{H:Hp}{g np nj p kd:Nat}{f:Nat→Value}{js ks:List Int}(hf:cj H g 859 115 f)(hn:sW f js ks nj np p kd)(hp:p<8)(hkd:kd<3) :
  ∃ B,kK (ks.getD (kd * 5) 0) (shP js ks nj np p kd) B 8∧az P H 111 ⟨g,0+67+p * 99+kd * 33,none⟩=some (.agg ⟨ints (bJ (ks.getD (kd * 5) 0) (shP js ks nj np p kd) B)⟩):=by
 obtain⟨B,hB,hj⟩:=hn
 refine⟨B,hB,?_⟩
 rw[hf.load_agg (k:=0+67+p * 99+kd * 33) Sx Dk (by omega)]
 have lens:(bJ (ks.getD (kd * 5) 0) (shP js ks nj np p kd) B).length=33:=eK (JV ..) hB.1
 have e:(List.range 33).map (fun j=>f (0+67+p * 99+kd * 33+j))=ints (bJ (ks.getD (kd * 5) 0) (shP js ks nj np p kd) B):=by
  apply List.ext_getElem?
  intro j
  by_cases h:j<33
  ·rw[List.getElem?_map,List.getElem?_range h,gX (getD_some (by omega))]
   simp only[Option.map_some]
   rw[show 0+67+p * 99+kd * 33+j=67+p * 99+kd * 33+j by omega,hj j h]
  ·rw[List.getElem?_eq_none (by simp; omega),List.getElem?_eq_none (by rw[bj]; omega)]
 rw[e]
theorem repl_one(z:Value):∀ n:Nat,repl n [z]=List.replicate n z
 | 0=>rfl
 | n+1=>by
  unfold repl
  rw[repl_one z n,List.replicate_succ]
  rfl
theorem Good.small{np nj nk:Nat}{ps js ks:List Int}(h:Good np nj nk ps js ks):Mv ks nk:=by
 intro kd hkd
 obtain⟨h1,h2,h3⟩:=h.kinds kd hkd
 unfold okR at h2 h3
 omega
theorem Good.inner{np nj nk:Nat}{ps js ks:List Int}(h:Good np nj nk ps js ks)(hl:js.length=nj * 2):Inner js nj np:=by
 intro j hj a b hJ
 obtain⟨A,B,hA,hB,h1,h2⟩:=h.joins hl j hj
 unfold J at hJ
 rw[hA,hB] at hJ
 simp only[Option.some.injEq] at hJ
 omega
open Classical in
theorem Fq{js ks:List Int}{nj np p kd:Nat}(hi:Inner js nj np)(hnp:np≤8)(hp:p<np)(q:Nat) :
  (shP js ks nj np p kd).getD (q * 2) 0=(ej js ks nj kd p q).1∧(shP js ks nj np p kd).getD (q * 2+1) 0=(ej js ks nj kd p q).2:=by
 obtain⟨g1,g2⟩:=sharesL_get (a1:=ks.getD (kd * 5+1) 0) (a2:=ks.getD (kd * 5+2) 0) (a3:=ks.getD (kd * 5+3) 0) (a4:=ks.getD (kd * 5+4) 0) (near:=Bx js nj p) hnp (show p<8 by omega) q
 unfold shP
 rw[g1,g2]
 unfold ej
 by_cases e:q=p
 ·subst e
  rw[if_pos rfl,if_pos rfl,if_pos rfl]
  exact⟨rfl,rfl⟩
 ·rw[if_neg e,if_neg e,if_neg (show ¬ (p:Int)=(q:Int) by omega)]
  by_cases hn:Near js nj p q
  ·have hb:Bx js nj p q=true:=by unfold Bx; rw[decide_eq_true_eq]; exact hn
   have hq:q<np:=by obtain⟨j,h1,h2⟩:=hn; have:=hi j h1 _ _ h2; omega
   have hc:q<np∧Bx js nj p q=true:=⟨hq,hb⟩
   rw[if_pos hc,if_pos hc,if_pos hn]
   exact⟨rfl,rfl⟩
  ·have hb:¬ (q<np∧Bx js nj p q=true):=fun⟨_,h⟩=>hn (by unfold Bx at h; rw[decide_eq_true_eq] at h; exact h)
   rw[if_neg hb,if_neg hb,if_neg hn]
   exact⟨rfl,rfl⟩
theorem fitsB_iff8{js ks:List Int}{nj np nk kind a:Nat}(hs:Mv ks nk)(hk:kind<nk)(ha:a<np)(hi:Inner js nj np)(hnp:np≤8) :
  fitsB js ks nj np kind a↔ak (fun p=>(ej js ks nj kind a p).1) 8≤ks.getD (kind * 5) 0∧ks.getD (kind * 5) 0≤ak (fun p=>(ej js ks nj kind a p).2) 8:=by
 rw[fitsB_iff hs hk ha hi (by omega)]
 have e1:ak (fun p=>(ej js ks nj kind a p).1) 11=ak (fun p=>(ej js ks nj kind a p).1) 8:=nJ (by omega) fun k h1 _=>by rw[Hy hi ha (by omega)]
 have e2:ak (fun p=>(ej js ks nj kind a p).2) 11=ak (fun p=>(ej js ks nj kind a p).2) 8:=nJ (by omega) fun k h1 _=>by rw[Hy hi ha (by omega)]
 rw[e1,e2]
theorem fits_agree{np nj nk p kd:Nat}{ps js ks:List Int}(good:Good np nj nk ps js ks)(hl:js.length=nj * 2)(hp:p<np)(hkd:kd<nk):fitD js ks nj np p kd=true↔fitsB js ks nj np kd p:=by
 rw[fitsB_iff8 good.small hkd hp (good.inner hl) good.np8]
 unfold fitD total
 rw[decide_eq_true_eq,bz (f:=fun q=>(shP js ks nj np p kd).getD (q * 2+0) 0) (g:=fun q=>(ej js ks nj kd p q).1) (fun q _=>(Fq (good.inner hl) good.np8 hp q).1),
  bz (f:=fun q=>(shP js ks nj np p kd).getD (q * 2+1) 0) (g:=fun q=>(ej js ks nj kd p q).2) (fun q _=>(Fq (good.inner hl) good.np8 hp q).2)]
theorem call21(l:Nat)(a b c:Value)(H:Hp)(n:Nat):(cal (l+1)).call 21 [a,b,c] H n=C21_0 (cal l) KK a b c H n:=by kernel_rfl
theorem fitsR_call(l:Nat){np nj nk:Nat}{ps js ks:List Int}(hnj:nj≤KK)(hnp:np≤100)(kind:Nat)(hk:kind<nk)(at_:Int)(hs:Mv ks nk){H:Hp}{n:Nat}{v:Value}(hg:GroveI H n v np nj nk ps js ks) :
  ∃(r:Bool) (H':Hp) (n':Nat),(r=true↔fitsB js ks nj np kind at_)∧(∀ k:Value→Hp→Nat→Option ρ,aY P (cal (l+4)) 21 [v,.int .i64 kind,.int .i64 at_] H n k=k (.bool r) H' n')∧n≤n'∧Keep n H H':=by
 obtain⟨r,H',n',⟨b,rfl,hb⟩,e1,e2,e3⟩:=fx (ρ:=ρ) (P:=P) (cal:=cal (l+4)) (f:=21) (args:=[v,.int .i64 kind,.int .i64 at_]) (H:=H) (n:=n)
  (Pre:=fun H n=>GroveI H n v np nj nk ps js ks) (Q:=fun r=>∃ b:Bool,r=.bool b∧(b=true↔fitsB js ks nj np kind at_))
  (fun H n h=>by
   obtain⟨r,h1,h2⟩:=fits_spec l hnj hnp kind hk at_ hs h
   exact⟨.bool r,by rw[call21]; exact h1,r,rfl,h2⟩) (fun r ⟨b,e,_⟩ _=>by subst e; rfl) hg (fun hp=>hg.nil (by simp only[bK,Bool.and_eq_true] at hp; exact hp.1))
 exact⟨b,H',n',hb,e1,e2,e3⟩
def ListR(H:Hp)(n:Nat)(v:Value)(len:Nat)(xs:List Int):Prop:=xs.length=len∧(∀ x ∈ xs,I64 x) ∧
 ((v=.slice none 0 0∧len=0)∨∃ b o cap,v=.slice (some ⟨b,o,none⟩) len cap∧b<n∧aZ H b o (ints xs))
theorem ListR.keep{H H':Hp}{n m len:Nat}{v:Value}{xs:List Int}(h:ListR H n v len xs)(hk:Keep n H H')(hm:n≤m):ListR H' m v len xs:=by
 obtain⟨h1,h2,h3⟩:=h
 refine⟨h1,h2,?_⟩
 rcases h3 with h3 | ⟨b,o,cap,e,a,c⟩
 ·exact .inl h3
 ·exact .inr ⟨b,o,cap,e,by omega,c.keep hk a⟩
theorem ListR.nil{H:Hp}{n len:Nat}{v:Value}{xs:List Int}(h:ListR H n v len xs)(hp:bx v=true):ListR .nil 0 v len xs:=by
 obtain⟨h1,h2,h3⟩:=h
 refine⟨h1,h2,?_⟩
 rcases h3 with h3 | ⟨b,o,cap,e,a,c⟩
 ·exact .inl h3
 ·subst e; simp [bx] at hp
theorem und44:P.underlying 44=some (.slice 3):=by kernel_rfl
theorem sl44:jV P 44=some 3:=by kernel_rfl
theorem sz3:szT P 3=some 1:=by kernel_rfl
theorem by3:yV P 3=some 8:=by kernel_rfl
theorem zero3:iV P 3=some (.int .i64 0):=by kernel_rfl
theorem ListR.len_eq{H:Hp}{n len:Nat}{v:Value}{xs:List Int}(h:ListR H n v len xs):lenV P 44 v=some (.int .i64 len):=by
 rcases h.2.2 with⟨rfl,rfl⟩ | ⟨b,o,cap,rfl,_⟩
 ·unfold lenV; simp only[und44]; rfl
 ·unfold lenV; simp only[und44]; rfl
theorem ListR.at_{H:Hp}{n len:Nat}{v:Value}{xs:List Int}(h:ListR H n v len xs){i:Nat}(hi:i<len) :
  ∃ b o,aV P 44 v (.int .i64 i)=some (.pointer (some ⟨b,o,none⟩))∧b<n∧az P H 3 ⟨b,o,none⟩=some (.int .i64 (xs.getD i 0)):=by
 rcases h.2.2 with⟨rfl,rfl⟩ | ⟨b,o,cap,rfl,a,c⟩
 ·omega
 ·refine⟨b,o+i,?_,a,?_⟩
  ·unfold aV
   simp only[und44,Jk hi,sz3]
   simp [addA]
  ·exact bq c agg3 (gX (getD_some (by rw[h.1]; exact hi)))
theorem ListR.src{H:Hp}{n len:Nat}{v:Value}{xs:List Int}(h:ListR H n v len xs):wY H 1 v=some (ints xs,len):=by
 obtain⟨h1,_,h3⟩:=h
 rcases h3 with⟨rfl,rfl⟩ | ⟨b,o,cap,rfl,a,c⟩
 ·have:xs=[]:=List.length_eq_zero_iff.1 h1
  subst this; rfl
 ·unfold wY
  simp only[WK c (dk _) (show(ints xs).length=len * 1 by rw[bj,h1,Nat.mul_one])]
theorem VecAt.list{H:Hp}{n0 n len:Nat}{e:TypeId}{v:Value}{xs:List Int}(h:VecAt H n0 n 1 e v len xs)(hx:∀ x ∈ xs,I64 x):ListR H n v len xs:=by
 obtain⟨h1,h2⟩:=h
 refine⟨by omega,hx,?_⟩
 rcases h2 with h2 | ⟨b,e,a1,a2,a3,a4⟩
 ·exact .inl h2
 ·exact .inr ⟨b,0,capV,e,a2,cY a4⟩
theorem row44_0:yz P 44 0 []=some ([],3):=by kernel_rfl
theorem list_spec(c:Cal)(k:Nat){H:Hp}{n len:Nat}{v:Value}{xs:List Int}(h:ListR H n v len xs)(hlen:len≤1000) :
  ∃ u H' n',C23_0 c k v H n=some (u,H',n')∧n≤n'∧Keep n H H'∧ListR H' n' u len xs:=by
 unfold C23_0 B23_0 rowK
 rw[row44_0,aj]
 unfold newK
 dsimp only
 have hk:Keep n H (H.set n (some (.cells [] 3 false none))):=(Keep.refl n H).set (Nat.le_refl _) _
 have hg:(H.set n (some (.cells [] 3 false none))).get n=some (.cells [] 3 false none):=by rw[Tr.get_set,if_pos rfl]
 have h1:=h.keep hk (show n≤n+1 by omega)
 generalize H.set n (some (.cells [] 3 false none))=H1 at hk hg h1 ⊢
 have hold:AW H1 ⟨n,0,none⟩ (0 * 1)=some []:=WK (L:=[]) (cY hg) rfl rfl
 have hbig:Lq (0+len) 1 8=true:=by unfold Lq; simp; omega
 have hb1:Nat.beq (bv (.int .i64 0)).length 1=true:=rfl
 have c0:Nat.blt 0 capV=true:=by decide +kernel
 by_cases h0:len=0
 ·subst h0
  have hx:xs=[]:=List.length_eq_zero_iff.1 h.1
  subst hx
  have ha:kv P (bare H1 (n+1)) 44 44 (.slice (some ⟨n,0,none⟩) 0 0) v=some (.slice (some ⟨n,0,none⟩) 0 0,bare (H1.set n (some (.cells [] 3 false none))) (n+1)):=by
   unfold kv
   have hs:wY (bare H1 (n+1)).H 1 v=some ([],0):=h1.src
   have hold':AW (bare H1 (n+1)).H ⟨n,0,none⟩ (0 * 1)=some []:=hold
   simp only[sl44,sz3,by3,zero3,hs,hb1,hold',hbig]
   unfold AX
   have hst:storeN (bare H1 (n+1)).H (addA ⟨n,0,none⟩ (0 * 1)) []=some (H1.set n (some (.cells [] 3 false none))):=by
    unfold storeN
    simp only[addA,bare,hg]
    rfl
   have c1:Nat.ble (0+0) 0=true:=rfl
   simp only[c0,c1,hst]
   rfl
  unfold stK
  dsimp only
  rw[ha,aj]
  dsimp only [bare]
  exact⟨_,_,_,rfl,by omega,hk.set (Nat.le_refl _) _,rfl,h.2.1,.inr ⟨n,0,0,rfl,Nat.lt_succ_self _,_,[],by rw[Tr.get_set,if_pos rfl],rfl,fun k v h=>by simp [ints] at h⟩⟩
 ·have ha:kv P (bare H1 (n+1)) 44 44 (.slice (some ⟨n,0,none⟩) 0 0) v=some (.slice (some ⟨n+1,0,none⟩) len capV,bare (H1.set (n+1) (some (.cells (ints xs) 3 false (some 1)))) (n+1+1)):=by
   unfold kv
   have hs:wY (bare H1 (n+1)).H 1 v=some (ints xs,len):=h1.src
   have hold':AW (bare H1 (n+1)).H ⟨n,0,none⟩ (0 * 1)=some []:=hold
   simp only[sl44,sz3,by3,zero3,hs,hb1,hold',hbig]
   unfold AX
   have c1:Nat.ble len 0=false:=by
    cases len with
    | zero=>exact absurd rfl h0
    | succ m=>rfl
   simp only[c0,c1,Zw,bare,uV,List.nil_append,Nat.zero_add]
  unfold stK
  dsimp only
  rw[ha,aj]
  dsimp only [bare]
  exact⟨_,_,_,rfl,by omega,hk.set (by omega) _,h.1,h.2.1,.inr ⟨n+1,0,capV,rfl,Nat.lt_succ_self _,_,ints xs,by rw[Tr.get_set,if_pos rfl],rfl,fun k v h=>by simpa using h⟩⟩
theorem call23(l:Nat)(a:Value)(H:Hp)(n:Nat):(cal (l+1)).call 23 [a] H n=C23_0 (cal l) KK a H n:=by kernel_rfl
theorem flat23:fX P 23=false:=by kernel_rfl
theorem list_call(l:Nat){H:Hp}{n len:Nat}{v:Value}{xs:List Int}(h:ListR H n v len xs)(hlen:len≤1000) :
  ∃ u H' n',(∀ k:Value→Hp→Nat→Option ρ,aY P (cal (l+1)) 23 [v] H n k=k u H' n')∧n≤n'∧Keep n H H'∧ListR H' n' u len xs:=by
 obtain⟨u,H',n',e,h1,h2,h3⟩:=list_spec (cal l) KK h hlen
 refine⟨u,H',n',fun k=>?_,h1,h2,h3⟩
 unfold aY
 rw[flat23,call23,e]
 rfl
theorem und121:P.underlying 119=some (.array 8 3):=by kernel_rfl
theorem xq:eZ P 119=some true:=by kernel_rfl
theorem rY:szT P 119=some 8:=by kernel_rfl
theorem Fv:iV P 119=some (.agg ⟨ints (List.replicate 8 0)⟩):=by kernel_rfl
theorem qkx:fw P 119 []=some (.agg ⟨ints (List.replicate 8 0)⟩):=by kernel_rfl
theorem slice121(b:Nat):IZ P 119 (.pointer (some ⟨b,0,none⟩)) none none=some (.slice (some ⟨b,0,none⟩) 8 8):=by kernel_rfl
noncomputable def valR(r:Res):Option Value:=match r with
 | some (v,_,_)=>some v
 | none=>none
theorem valR_some{r:Res}{v:Value}(h:valR r=some v):∃ H n,r=some (v,H,n):=by
 unfold valR at h
 split at h
 ·cases h; exact⟨_,_,rfl⟩
 ·cases h
theorem bare_run(c:Cal):valR (C101_0 c KK .nil 0)=some (.agg ⟨ints (List.replicate 8 (-1))⟩):=by kernel_rfl
theorem flat101:fX P 101=true:=by kernel_rfl
theorem call101(l:Nat)(H:Hp)(n:Nat):(cal (l+1)).call 101 [] H n=C101_0 (cal l) KK H n:=by kernel_rfl
theorem bare_call(l:Nat)(H:Hp)(n:Nat)(k:Value→Hp→Nat→Option ρ):aY P (cal (l+1)) 101 [] H n k=k (.agg ⟨ints (List.replicate 8 (-1))⟩) H n:=by
 obtain⟨H',n',e⟩:=valR_some (bare_run (cal l))
 refine gz flat101 rfl ((call101 ..).trans e) ?_
 simp only[bx,mz,wQ]
def nK(js ks:List Int)(nj np nk p:Nat)(kind:Int):Prop:=0≤kind∧kind<nk∧fitD js ks nj np p kind.toNat=true
theorem takes_spec(l:Nat){H:Hp}{n g np nj nk p:Nat}{f:Nat→Value}{js ks:List Int}{x y z:Value}(hf:cj H g 859 115 f)(hs:SiteF f x y z js nj)(hz:lenV P 33 z=some (.int .i64 nk))(hn:∀ p kd,p<np→kd<nk→sW f js ks nj np p kd)(hks:pj ks nk)(hnp:np≤8)(hnk:nk≤3)(hp:p<np)(kind:Int) :
  ∃ r,XW (cal (l+3)) KK (.pointer (some ⟨g,0,none⟩)) (.int .i64 p) (.int .i64 kind) H n=some (.bool r,H,n)∧(r=true↔nK js ks nj np nk p kind):=by
 unfold XW B102_0
 have lz:az P H 33 ⟨g,0+0+2,none⟩=some z:=by
  have:=hf.load (P:=P) (k:=2) agg33 (by omega)
  rw[hs.z] at this; exact this
 rw[aJ OV]
 unfold nK
 cases c1:decide (0≤kind) with
 | false=>
  simp only[fV,iY,ew,aj]
  exact⟨false,rfl,⟨fun h=>(by cases h),fun h=>absurd h.1 (of_decide_eq_false c1)⟩⟩
 | true=>
  have h0:=of_decide_eq_true c1
  simp only[eW,lk,aj,oK,Wk,aQ,lz,hz,aJ dq,dY]
  cases c2:decide (kind<(nk:Int)) with
  | false=>
   simp only[fV,iY,ew,aj]
   exact⟨false,rfl,⟨fun h=>(by cases h),fun h=>absurd h.2.1 (of_decide_eq_false c2)⟩⟩
  | true=>
   have h1:=of_decide_eq_true c2
   obtain⟨kd,rfl⟩:∃ kd:Nat,kind=kd:=⟨kind.toNat,by omega⟩
   have hkd:kd<nk:=by omega
   obtain⟨B,hB,ln⟩:=OK hf (hn p kd hp hkd) (by omega) (by omega)
   simp only[eW,lk,aj,qck,at115 _ _ (show p<8 by omega),at114 _ _ (show kd<3 by omega),aQ,ln,fit_call l (JV ..) hB.1 (sX hks hkd hnp hp),dY]
   refine⟨_,rfl,?_⟩
   have e:fitD js ks nj np p (kd:Int).toNat=fitD js ks nj np p kd:=by rw[Int.toNat_natCast]
   rw[e]
   unfold fitD
   exact⟨fun h=>⟨h0,h1,h⟩,fun h=>h.2.2⟩
theorem call102(l:Nat)(a b c:Value)(H:Hp)(n:Nat):(cal (l+1)).call 102 [a,b,c] H n=XW (cal l) KK a b c H n:=by kernel_rfl
theorem takes_call(l:Nat){H:Hp}{n g np nj nk p:Nat}{f:Nat→Value}{js ks:List Int}{x y z:Value}(hf:cj H g 859 115 f)(hs:SiteF f x y z js nj)(hz:lenV P 33 z=some (.int .i64 nk))(hn:∀ p kd,p<np→kd<nk→sW f js ks nj np p kd)(hks:pj ks nk)(hnp:np≤8)(hnk:nk≤3)(hp:p<np)(kind:Int) :
  ∃ r:Bool,(r=true↔nK js ks nj np nk p kind)∧∀ k:Value→Hp→Nat→Option ρ,aY P (cal (l+4)) 102 [.pointer (some ⟨g,0,none⟩),.int .i64 p,.int .i64 kind] H n k=k (.bool r) H n:=by
 obtain⟨r,e,h⟩:=takes_spec l (n:=n) hf hs hz hn hks hnp hnk hp kind
 refine⟨r,h,fun k=>?_⟩
 unfold aY
 have:(fX P 102 && bK [.pointer (some ⟨g,0,none⟩),.int .i64 p,.int .i64 kind])=false:=by rw[Bool.and_eq_false_iff]; exact .inr rfl
 rw[this,call102,e]
 rfl
theorem results65_eq:cw=[.tmp 4,.cell 5 119,.tmp 6]:=by kernel_rfl
theorem res65{H:Hp}{b:Nat}{v:Value}(p e:Value)(h:az P H 119 ⟨b,0,none⟩=some v):resV P (Tr.set (Tr.set (Tr.set Tr.nil 6 (some e)) 5 (some (.pointer (some ⟨b,0,none⟩)))) 4 (some p)) H cw=some [p,v,e]:=by
 rw[results65_eq]
 simp [resV,Tr.get_set,h]
theorem index121{L:List Int}(hL:L.length=8){i:Nat}(hi:i<8):BJ P 119 (.agg ⟨ints L⟩) (.int .i64 i)=some (.int .i64 (L.getD i 0)):=by
 unfold BJ
 have a3:eZ P 3=some false:=agg3
 simp only[und121,Jk hi,sz3,AV,a3]
 rw[Nat.mul_one]
 exact gX (getD_some (by omega))
def ez(ls:List Int)(np:Nat):List Int:=ls++List.replicate (8-np) (-1)
theorem CX{ls:List Int}{np:Nat}(h:ls.length=np)(hnp:np≤8):(ez ls np).length=8:=by unfold ez; simp [h]; omega
theorem MJ{ls:List Int}{np p:Nat}(h:ls.length=np)(hp:p<np):(ez ls np).getD p 0=ls.getD p 0:=by
 unfold ez
 rw[List.getD_eq_getElem?_getD,List.getElem?_append_left (by omega),← List.getD_eq_getElem?_getD]
theorem HJ{ls:List Int}{np p:Nat}(h:ls.length=np)(hp:np≤p)(hp8:p<8):(ez ls np).getD p 0=-1:=by
 unfold ez
 rw[List.getD_eq_getElem?_getD,List.getElem?_append_right (by omega),List.getElem?_replicate,if_pos (by omega)]
 rfl
def zq(js ks ls:List Int)(nj np nk:Nat):Prop:=∀ p,p<np→ls.getD p 0=-1∨nK js ks nj np nk p (ls.getD p 0)
theorem splice_ints:∀ {L X:List Int},L.length≤X.length→gJ.over (ints X) (ints L)=some (ints (L++X.drop L.length))
 | [],X,_=>by cases X <;> simp [ints,gJ.over]
 | a::L,[],h=>by simp at h
 | a::L,x::X,h=>by
  have ih:=splice_ints (L:=L) (X:=X) (by simpa using h)
  simp only[ints,List.map_cons,gJ.over] at ih ⊢
  rw[ih]
  simp
theorem copy_row{H:Hp}{n b np:Nat}{w:Value}{ls X:List Int}{e:TypeId}(hw:ListR H n w np ls)(h1:0<np)(h8:np≤8)(hX:X.length=8)(hg:H.get b=some (.cells (ints X) e false none)) :
  SZ P (bare H n) 44 (.slice (some ⟨b,0,none⟩) 8 8) w=some (.int .i64 np,bare (H.set b (some (.cells (ints (ls++X.drop np)) e false none))) n):=by
 obtain⟨hl,_,hw⟩:=hw
 rcases hw with⟨_,h0⟩ | ⟨rb,ro,cap,rfl,hr,hc⟩
 ·omega
 have hmin':Nat.min np 8=np:=Nat.min_eq_left h8
 have hld:AW H ⟨rb,ro,none⟩ (np * 1)=some (ints ls):=WK hc (dk _) (by rw[bj,hl,Nat.mul_one])
 have hsp:gJ (ints X) 0 (ints ls)=some (ints (ls++X.drop ls.length)):=by
  unfold gJ
  exact splice_ints (by omega)
 have hst:storeN H ⟨b,0,none⟩ (ints ls)=some (H.set b (some (.cells (ints (ls++X.drop np)) e false none))):=by
  unfold storeN
  simp only[hg,fj,if_true,hsp,hl]
 unfold SZ
 simp only[sl44,sz3,bare,hmin',hld,hst]
 rfl
theorem openLaid_loop(l k:Nat){H:Hp}{n g np nj nk b5 b9:Nat}{f:Nat→Value}{js ks ls:List Int}{x y z:Value}(hf:cj H g 859 115 f)(hs:SiteF f x y z js nj)(hz:lenV P 33 z=some (.int .i64 nk))(hn:∀ p kd,p<np→kd<nk→sW f js ks nj np p kd)(hks:pj ks nk)(hnp:np≤8)(hnk:nk≤3)
  (hls:ls.length=np) (h5:∃ w,H.get b5=some (.cells w 119 false none)∧w.length=8) (h9:H.get b9=some (.cells (ints (ez ls np)) 119 false none)) (hne:b5≠b9):∀(m i:Nat),i≤8→8-i≤m →
  ((∃ p,i≤p∧p<np∧¬ (ls.getD p 0=-1∨nK js ks nj np nk p (ls.getD p 0)))∧∃ H',S65_1 (cal (l+4)) k m (.pointer (some ⟨b5,0,none⟩)) (.pointer (some ⟨g,0,none⟩)) (.pointer (some ⟨b9,0,none⟩)) (.agg ⟨ints (ez ls np)⟩) (.int .i64 i) H n=some (.tuple ⟨[.pointer none,.agg ⟨ints (List.replicate 8 0)⟩,.int .i64 2]⟩,H',n)∧∀ b,b≠b5→H'.get b=H.get b) ∨
  ((∀ p,i≤p→p<np→ls.getD p 0=-1∨nK js ks nj np nk p (ls.getD p 0))∧∃ H',S65_1 (cal (l+4)) k m (.pointer (some ⟨b5,0,none⟩)) (.pointer (some ⟨g,0,none⟩)) (.pointer (some ⟨b9,0,none⟩)) (.agg ⟨ints (ez ls np)⟩) (.int .i64 i) H n=some (.tuple ⟨[.pointer (some ⟨g,0,none⟩),.agg ⟨ints (ez ls np)⟩,.int .i64 0]⟩,H',n)∧∀ b,b≠b5→H'.get b=H.get b):=by
 obtain⟨w5,h5,hw5⟩:=h5
 have body:∀(b1:Value→Value→Value→Value→Value→Hp→Nat→Res) (m i:Nat),i≤8 →
   (i<8→((∃ p,i+1≤p∧p<np∧¬ (ls.getD p 0=-1∨nK js ks nj np nk p (ls.getD p 0)))∧∃ H',b1 (.pointer (some ⟨b5,0,none⟩)) (.pointer (some ⟨g,0,none⟩)) (.pointer (some ⟨b9,0,none⟩)) (.agg ⟨ints (ez ls np)⟩) (.int .i64 ((i+1:Nat):Int)) H n=some (.tuple ⟨[.pointer none,.agg ⟨ints (List.replicate 8 0)⟩,.int .i64 2]⟩,H',n)∧∀ b,b≠b5→H'.get b=H.get b) ∨
    ((∀ p,i+1≤p→p<np→ls.getD p 0=-1∨nK js ks nj np nk p (ls.getD p 0))∧∃ H',b1 (.pointer (some ⟨b5,0,none⟩)) (.pointer (some ⟨g,0,none⟩)) (.pointer (some ⟨b9,0,none⟩)) (.agg ⟨ints (ez ls np)⟩) (.int .i64 ((i+1:Nat):Int)) H n=some (.tuple ⟨[.pointer (some ⟨g,0,none⟩),.agg ⟨ints (ez ls np)⟩,.int .i64 0]⟩,H',n)∧∀ b,b≠b5→H'.get b=H.get b)) →
   ((∃ p,i≤p∧p<np∧¬ (ls.getD p 0=-1∨nK js ks nj np nk p (ls.getD p 0)))∧∃ H',C65_1 (cal (l+4)) k m b1 (.pointer (some ⟨b5,0,none⟩)) (.pointer (some ⟨g,0,none⟩)) (.pointer (some ⟨b9,0,none⟩)) (.agg ⟨ints (ez ls np)⟩) (.int .i64 i) H n=some (.tuple ⟨[.pointer none,.agg ⟨ints (List.replicate 8 0)⟩,.int .i64 2]⟩,H',n)∧∀ b,b≠b5→H'.get b=H.get b) ∨
   ((∀ p,i≤p→p<np→ls.getD p 0=-1∨nK js ks nj np nk p (ls.getD p 0))∧∃ H',C65_1 (cal (l+4)) k m b1 (.pointer (some ⟨b5,0,none⟩)) (.pointer (some ⟨g,0,none⟩)) (.pointer (some ⟨b9,0,none⟩)) (.agg ⟨ints (ez ls np)⟩) (.int .i64 i) H n=some (.tuple ⟨[.pointer (some ⟨g,0,none⟩),.agg ⟨ints (ez ls np)⟩,.int .i64 0]⟩,H',n)∧∀ b,b≠b5→H'.get b=H.get b):=by
  intro b1 m i hi ih
  unfold C65_1 B65_1
  rw[aJ dq,jx]
  have l8:=CX hls hnp
  by_cases hlt:i<8
  ·rw[if_pos (by omega),index121 l8 hlt,aj,aJ ix]
   have hI:I64 ((i:Int)+1):=by unfold I64; omega
   have hcast:((i:Int)+1)=((i+1:Nat):Int):=by omega
   have go:(i<np→ls.getD i 0=-1∨nK js ks nj np nk i (ls.getD i 0))→∀ r:Res,r=b1 (.pointer (some ⟨b5,0,none⟩)) (.pointer (some ⟨g,0,none⟩)) (.pointer (some ⟨b9,0,none⟩)) (.agg ⟨ints (ez ls np)⟩) (.int .i64 ((i+1:Nat):Int)) H n →
     ((∃ p,i≤p∧p<np∧¬ (ls.getD p 0=-1∨nK js ks nj np nk p (ls.getD p 0)))∧∃ H',r=some (.tuple ⟨[.pointer none,.agg ⟨ints (List.replicate 8 0)⟩,.int .i64 2]⟩,H',n)∧∀ b,b≠b5→H'.get b=H.get b) ∨
     ((∀ p,i≤p→p<np→ls.getD p 0=-1∨nK js ks nj np nk p (ls.getD p 0))∧∃ H',r=some (.tuple ⟨[.pointer (some ⟨g,0,none⟩),.agg ⟨ints (ez ls np)⟩,.int .i64 0]⟩,H',n)∧∀ b,b≠b5→H'.get b=H.get b):=by
    rintro hok r rfl
    rcases ih hlt with⟨⟨p,q1,q2,q3⟩,q4⟩ | ⟨q1,q2⟩
    ·exact .inl ⟨⟨p,by omega,q2,q3⟩,q4⟩
    ·refine .inr ⟨fun p p1 p2=>?_,q2⟩
     rcases Nat.eq_or_lt_of_le p1 with z | z
     ·subst z; exact hok p2
     ·exact q1 p z p2
   cases c1:decide ((ez ls np).getD i 0=-1) with
   | true=>
    simp only[Bool.not_true,fV,iY,ew,aj,eV,aJ (bW hI),hcast]
    refine go (fun hp=>.inl ?_) _ rfl
    rw[← MJ hls hp]; exact of_decide_eq_true c1
   | false=>
    have hip:i<np:=by
     rcases Nat.lt_or_ge i np with q | q
     ·exact q
     ·exact absurd (HJ hls q hlt) (of_decide_eq_false c1)
    have hv:=MJ hls hip
    obtain⟨r,hr,hc⟩:=takes_call (ρ:=Value × Hp × Nat) l (n:=n) hf hs hz hn hks hnp hnk hip ((ez ls np).getD i 0)
    rw[hv] at hr c1
    simp only[Bool.not_false,eW,hc]
    cases r with
    | true=>
     simp only[eW,rX,aj,dY,eV,aJ (bW hI),hcast]
     exact go (fun _=>.inr (hr.1 rfl)) _ rfl
    | false=>
     simp only[eW,uY,aj,dY,fQ]
     have hst:=mw (vs:=ints (List.replicate 8 0)) h5 (by rw[hw5]; rfl) (fj _)
     rw[qkx,aj,pZ rY rfl,hst,aj,res65 _ _ (cK (t:=119) (s:=8) (L:=ints (List.replicate 8 0)) (e:=119) (vec:=none) (by rw[Tr.get_set,if_pos rfl]) xq rY rfl)]
     refine .inl ⟨⟨i,Nat.le_refl _,hip,?_⟩,_,rfl,fun b hb=>by rw[Tr.get_set,if_neg hb]⟩
     rintro(h | h)
     ·exact of_decide_eq_false c1 h
     ·exact absurd (hr.2 h) (by simp)
  ·have lens:(ints (ez ls np)).length=8:=by rw[bj,l8]
   have hst:=mw (vs:=ints (ez ls np)) h5 (by rw[hw5,lens]) (fj _)
   rw[if_neg (by omega),aQ,aj,cK h9 xq rY lens,aj,pZ rY lens,hst,aj,
    res65 _ _ (cK (t:=119) (s:=8) (L:=ints (ez ls np)) (e:=119) (vec:=none) (by rw[Tr.get_set,if_pos rfl]) xq rY lens)]
   exact .inr ⟨fun p p1 p2=>by omega,_,rfl,fun b hb=>by rw[Tr.get_set,if_neg hb]⟩
 intro m
 induction m with
 | zero=>intro i h1 h2; exact body _ 0 i h1 (fun h=>by omega)
 | succ m ih=>intro i h1 h2; exact body _ (m+1) i h1 (fun h=>ih (i+1) (by omega) (by omega))
open Classical in
noncomputable def eY(np nj nk nl:Nat)(ps js ks ls:List Int):Int:=if ij np nj nk ps js ks≠0 then ij np nj nk ps js ks else if nl=np∧zq js ks ls nj np nk then 0 else 2
def NotLaid(r:Res)(n:Nat)(H:Hp)(e:Int):Prop:=∃ H' n',r=some (.tuple ⟨[.pointer none,.agg ⟨ints (List.replicate 8 0)⟩,.int .i64 e]⟩,H',n')∧n≤n'∧Keep n H H'
def IsLaid(r:Res)(n:Nat)(H:Hp)(v:Value)(np nj nk:Nat)(js ks ls:List Int):Prop:=∃(g:Nat) (x y z:Value) (f:Nat→Value) (H':Hp) (n':Nat),r=some (.tuple ⟨[.pointer (some ⟨g,0,none⟩),.agg ⟨ints (ez ls np)⟩,.int .i64 0]⟩,H',n')∧n≤n'∧Keep n H H'∧n≤g∧g<n' ∧
 v=.agg ⟨[x,y,z]⟩∧cj H' g 859 115 f∧SiteF f x y z js nj∧∀ p kd,p<np→kd<nk→sW f js ks nj np p kd
theorem Gq(l:Nat){np nj nk nl:Nat}{ps js ks ls:List Int}{H:Hp}{n:Nat}{v w:Value}(hg:iZ H n v np nj nk ps js ks)(hw:ListR H n w nl ls)(hnp:np≤1000)(hnj:nj≤1000)(hnk:nk≤1000) :
  (eY np nj nk nl ps js ks ls≠0→NotLaid (C65_0 (cal (l+6)) KK v w H n) n H (eY np nj nk nl ps js ks ls)) ∧
  (eY np nj nk nl ps js ks ls=0→IsLaid (C65_0 (cal (l+6)) KK v w H n) n H v np nj nk js ks ls∧nl=np∧zq js ks ls nj np nk∧ij np nj nk ps js ks=0):=by
 have hg0:=hg
 obtain⟨x,y,z,rfl,h1,h2,h3⟩:=hg
 unfold C65_0 B65_0
 generalize hS:S65_1 (cal (l+6)) KK KK=S
 rw[dv,fK Fv]
 simp only[bv,ptr]
 have hk:Keep n H ((H.set n (some (.cells [x,y,z] 35 false none))).set (n+1) (some (.cells (ints (List.replicate 8 0)) 119 false none))):=((Keep.refl n H).set (Nat.le_refl _) _).set (by omega) _
 have hb:aZ ((H.set n (some (.cells [x,y,z] 35 false none))).set (n+1) (some (.cells (ints (List.replicate 8 0)) 119 false none))) n 0 [x,y,z]:=aZ.new.set (by omega)
 have hr:((H.set n (some (.cells [x,y,z] 35 false none))).set (n+1) (some (.cells (ints (List.replicate 8 0)) 119 false none))).get (n+1)=some (.cells (ints (List.replicate 8 0)) 119 false none):=by rw[Tr.get_set,if_pos rfl]
 generalize (H.set n (some (.cells [x,y,z] 35 false none))).set (n+1) (some (.cells (ints (List.replicate 8 0)) 119 false none))=H1 at hk hb hr ⊢
 have lg:az P H1 35 ⟨n,0,none⟩=some (.agg ⟨[x,y,z]⟩):=bY (o:=0) (k:=0) hb QK sz35 (by simp) (by simp [h1.hole.1,h2.hole.1,h3.hole.1])
 obtain⟨o1,o2⟩:=open_spec l (hg0.keep hk (show n≤n+1+1 by omega)) hnp hnj hnk
 rw[aQ,aj,lg,aj,open_call]
 have bad:∀(H2:Hp) (n2:Nat) (e:Int),n+1+1≤n2→Keep (n+1+1) H1 H2→NotLaid (aq (bV P 119 (.pointer (some ⟨n+1,0,none⟩)) (.agg ⟨ints (List.replicate 8 0)⟩) H2) fun H_p=>
   aq (resV P (Tr.set (Tr.set (Tr.set Tr.nil 6 (some (.int .i64 e))) 5 (some (.pointer (some ⟨n+1,0,none⟩)))) 4 (some (Value.pointer none))) H_p cw) fun v_r=>some (oneV v_r,H_p,n2)) n H e:=by
  intro H2 n2 e hn hk2
  have hr2:=(hk2 (n+1) (by omega)).trans hr
  rw[pZ rY rfl,mw hr2 rfl (fj _),aj,res65 _ _ (cK (t:=119) (s:=8) (L:=ints (List.replicate 8 0)) (e:=119) (vec:=none) (by rw[Tr.get_set,if_pos rfl]) xq rY rfl)]
  exact⟨_,_,rfl,by omega,(hk.trans hk2 (by omega)).set (by omega) _⟩
 by_cases he:ij np nj nk ps js ks=0
 ·have good:=JQ he
  obtain⟨g,x',y',z',f,H2,n2,e1,e2,e3,e4,e5,e6,e7,e8,e9⟩:=o2 he
  simp only[Value.agg.injEq,Array.mk.injEq,List.cons.injEq,and_true] at e6
  obtain⟨rfl,rfl,rfl⟩:=e6
  have t0:tupV (.tuple ⟨[.pointer (some ⟨g,0,none⟩),.int .i64 0]⟩) 0=some (.pointer (some ⟨g,0,none⟩)):=rfl
  have t1:tupV (.tuple ⟨[.pointer (some ⟨g,0,none⟩),.int .i64 0]⟩) 1=some (.int .i64 0):=rfl
  have d0:decide ((0:Int)=0)=true:=rfl
  have lx:az P H2 31 ⟨g,0+0+0,none⟩=some x:=by
   have:=e7.load (P:=P) (k:=0) Bq (by omega)
   rw[e8.x] at this; exact this
  have hlx:lenV P 31 x=some (.int .i64 np):=h1.len_eq Bv
  have hlz:lenV P 33 z=some (.int .i64 nk):=h3.len_eq und33
  have kk:Keep n H H2:=hk.trans e3 (by omega)
  have hw2:=hw.keep kk (show n≤n2 by omega)
  rw[e1,aj,t0,aj,t1,aj,aJ ix,d0,Bool.not_true,eV,hw.len_eq,aj,lk,aj,oK,aj,qJ,aj,aQ,aj,lx,aj,hlx,aj,aJ ix]
  unfold eY
  rw[if_neg (fun h=>h he)]
  by_cases hl:nl=np
  ·subst hl
   have dl:decide ((nl:Int)=(nl:Int))=true:=decide_eq_true rfl
   have l8:=CX hw.1 good.np8
   have lens:(ints (ez ls nl)).length=8:=by rw[bj,l8]
   rw[dl,Bool.not_true,eV,bare_call (l+5)]
   obtain⟨H3,k1,k2,k3⟩:=qx (P:=P) (ρ:=Value × Hp × Nat) (H:=H2) (n:=n2) (L:=ints (List.replicate 8 (-1))) Fv rfl rY rfl (fj _)
   rw[k3,slice121,aj]
   have hw3:=hw2.keep k1 (show n2≤n2+1 by omega)
   unfold stK
   rw[copy_row hw3 (by have:=good.np1; omega) good.np8 rfl k2,aj]
   dsimp only [bare]
   have hrow:(H3.set n2 (some (.cells (ints (ls++(List.replicate 8 (-1)).drop nl)) 119 false none))).get n2=some (.cells (ints (ez ls nl)) 119 false none):=by
    rw[Tr.get_set,if_pos rfl,List.drop_replicate]; rfl
   have kk3:Keep n2 H2 (H3.set n2 (some (.cells (ints (ls++(List.replicate 8 (-1)).drop nl)) 119 false none))):=k1.set (Nat.le_refl _) _
   generalize H3.set n2 (some (.cells (ints (ls++(List.replicate 8 (-1)).drop nl)) 119 false none))=H4 at hrow kk3 ⊢
   rw[aQ,aj,cK hrow xq rY lens,aj,← hS]
   have hf4:=e7.keep kk3 e5
   have hr4:H4.get (n+1)=some (.cells (ints (List.replicate 8 0)) 119 false none):=by rw[kk3 _ (by omega),e3 _ (by omega)]; exact hr
   rcases openLaid_loop (l+2) KK (n:=n2+1) hf4 e8 hlz e9 good.kinds good.np8 good.nk3 hw.1 ⟨_,hr4,rfl⟩ hrow (by omega) KK 0 (by omega) (by unfold KK; omega) with⟨⟨p,q1,q2,q3⟩,H5,q4,q5⟩ | ⟨q1,H5,q4,q5⟩
   ·have hno:¬ (nl=nl∧zq js ks ls nj nl nk):=fun h=>q3 (h.2 p q2)
    rw[if_neg hno]
    refine⟨fun _=>⟨H5,n2+1,q4,by omega,fun b hb=>?_⟩,fun h=>by omega⟩
    rw[q5 b (by omega),kk3 b (by omega),kk b hb]
   ·have hyes:nl=nl∧zq js ks ls nj nl nk:=⟨rfl,fun p hp=>q1 p (Nat.zero_le _) hp⟩
    rw[if_pos hyes]
    refine⟨fun h=>absurd rfl h,fun _=>⟨⟨g,x,y,z,f,H5,n2+1,q4,by omega,fun b hb=>?_,by omega,by omega,rfl,?_,e8,e9⟩,rfl,hyes.2,he⟩⟩
    ·rw[q5 b (by omega),kk3 b (by omega),kk b hb]
    ·obtain⟨c,a1,a2,a3⟩:=hf4
     exact⟨c,by rw[q5 g (by omega)]; exact a1,a2,a3⟩
  ·have dl:decide ((nl:Int)=(np:Int))=false:=decide_eq_false (by omega)
   have hno:¬ (nl=np∧zq js ks ls nj np nk):=fun h=>hl h.1
   rw[dl,Bool.not_false,fQ,if_neg hno,qkx,aj]
   exact⟨fun _=>bad H2 n2 2 e2 e3,fun h=>by omega⟩
 ·obtain⟨H2,n2,e1,e2,e3⟩:=o1 he
  have t0:tupV (.tuple ⟨[.pointer none,.int .i64 (ij np nj nk ps js ks)]⟩) 0=some (.pointer none):=rfl
  have t1:tupV (.tuple ⟨[.pointer none,.int .i64 (ij np nj nk ps js ks)]⟩) 1=some (.int .i64 (ij np nj nk ps js ks)):=rfl
  unfold eY
  rw[if_pos he,e1,aj,t0,aj,t1,aj,aJ ix,decide_eq_false he,Bool.not_false,fQ,qkx,aj]
  exact⟨fun _=>bad H2 n2 _ e2 e3,fun h=>absurd h he⟩
theorem flat65:fX P 65=false:=by kernel_rfl
theorem call65(l:Nat)(a b:Value)(H:Hp)(n:Nat):(cal (l+1)).call 65 [a,b] H n=C65_0 (cal l) KK a b H n:=by kernel_rfl
theorem Gv(l:Nat)(v w:Value)(H:Hp)(n:Nat)(k:Value→Hp→Nat→Option ρ):aY P (cal (l+7)) 65 [v,w] H n k=aq (C65_0 (cal (l+6)) KK v w H n) fun r=>k r.1 r.2.1 r.2.2:=by
 unfold aY
 rw[flat65,call65]
 rfl
end Go.Proofs.Ytndkmmelelchcaa.spec
end
section
namespace Go.Ev
open Go
variable {P:Program} {ρ:Type}
theorem splice_one{a:Int}:∀ {X:List Int} {o:Nat},o<X.length→gJ (ints X) o [.int .i64 a]=some (ints (X.set o a))
 | [],_,h=>by simp at h
 | x::X,0,_=>by
  unfold gJ
  cases X <;> simp [ints,gJ.over]
 | x::X,o+1,h=>by
  have ih:=splice_one (a:=a) (X:=X) (o:=o) (by simpa using h)
  unfold gJ
  simp only[ints,List.map_cons,List.set_cons_succ] at ih ⊢
  rw[ih]
theorem Pj{a:Int}{X:List Int}{o g:Nat}{H:Hp}{e:TypeId}{vec:Option Nat}(h:H.get g=some (.cells (ints X) e false vec))(ho:o<X.length) :
  storeN H ⟨g,o,none⟩ [.int .i64 a]=some (H.set g (some (.cells (ints (X.set o a)) e false vec))):=by
 unfold storeN
 simp only[h,splice_one ho]
 rfl
end Go.Ev
end
section
namespace Go.Proofs.Ytndkmmelelchcaa.spec
open Go Go.Ev Go.Proofs.Ytndkmmelelchcaa.nestFits Go.Proofs.Ytndkmmelelchcaa.G
set_option maxRecDepth 100000
variable {ρ:Type}
theorem res103(H:Hp)(b:Nat):resV P (Tr.set Tr.nil 4 (some (.pointer (some ⟨b,0,none⟩)))) H gW=(match az P H 109 ⟨b,0,none⟩ with
 | none=>none
 | some v=>some [v]):=by kernel_rfl
def Mild(X:List Int):Prop:=∀ k:Nat,-1000000≤X.getD k 0∧X.getD k 0≤1000000
structure PlusTo (X Y Z:List Int) (i:Nat):Prop where
 len:Z.length=16
 below:∀ p,p<i→Z.getD (p * 2) 0=X.getD (p * 2) 0+Y.getD (p * 2) 0∧Z.getD (p * 2+1) 0=X.getD (p * 2+1) 0+Y.getD (p * 2+1) 0
 above:∀ p,i≤p→Z.getD (p * 2) 0=X.getD (p * 2) 0∧Z.getD (p * 2+1) 0=X.getD (p * 2+1) 0
theorem Fw{H:Hp}{g o:Nat}{X:List Int}{e:TypeId}{ro:Bool}{vec:Option Nat}(h:H.get g=some (.cells (ints X) e ro vec))(ho:o<X.length):az P H 3 ⟨g,o,none⟩=some (.int .i64 (X.getD o 0)):=by
 have:=bq (P:=P) (t:=3) (o:=0) (k:=o) (cY h) agg3 (gX (getD_some ho))
 rw[Nat.zero_add] at this
 exact this
theorem plus_loop(c:Cal)(k:Nat){X Y:List Int}(hY:Y.length=16)(mX:Mild X)(mY:Mild Y)(b2 b4:Nat)(hne:b2≠b4):∀(m i:Nat) (Z:List Int) (H:Hp) (n:Nat),b2<n→b4<n→H.get b2=some (.cells (ints Z) 109 false none)→(∃ w,H.get b4=some (.cells w 109 false none)∧w.length=16)→PlusTo X Y Z i→i≤8→8-i≤m →
  ∃ Z' H' n',XY c k m (.pointer (some ⟨b2,0,none⟩)) (.pointer (some ⟨b4,0,none⟩)) (.agg ⟨ints Y⟩) (.int .i64 i) H n=some (.agg ⟨ints Z'⟩,H',n')∧PlusTo X Y Z' 8:=by
 have body:∀(b1:Value→Value→Value→Value→Hp→Nat→Res) (m i:Nat) (Z:List Int) (H:Hp) (n:Nat),b2<n→b4<n→H.get b2=some (.cells (ints Z) 109 false none)→(∃ w,H.get b4=some (.cells w 109 false none)∧w.length=16)→PlusTo X Y Z i→i≤8 →
   (∀ Z2 H2 n2,b2<n2→b4<n2→H2.get b2=some (.cells (ints Z2) 109 false none)→(∃ w,H2.get b4=some (.cells w 109 false none)∧w.length=16)→PlusTo X Y Z2 (i+1)→i<8 →
    ∃ Z' H' n',b1 (.pointer (some ⟨b2,0,none⟩)) (.pointer (some ⟨b4,0,none⟩)) (.agg ⟨ints Y⟩) (.int .i64 ((i+1:Nat):Int)) H2 n2=some (.agg ⟨ints Z'⟩,H',n')∧PlusTo X Y Z' 8) →
   ∃ Z' H' n',XX c k m b1 (.pointer (some ⟨b2,0,none⟩)) (.pointer (some ⟨b4,0,none⟩)) (.agg ⟨ints Y⟩) (.int .i64 i) H n=some (.agg ⟨ints Z'⟩,H',n')∧PlusTo X Y Z' 8:=by
  intro b1 m i Z H n hb2 hb4 hg2 hg4 hZ hi ih
  have lZ:=hZ.len
  unfold XX B103_1
  rw[aJ dq,jx]
  by_cases hlt:i<8
  ·obtain⟨g1,g2⟩:=Hw (xs:=Y) (i:=i) (s:=2) (by omega)
   obtain⟨H1,k1,k2,k3⟩:=qx (P:=P) (ρ:=Value × Hp × Nat) (H:=H) (n:=n) zero53 rfl sz53 g1 g2
   rw[if_pos (by omega),WV hY hlt,aj,k3]
   rw[Mq (show i * 2+2≤Y.length by omega)] at k2
   have q2:H1.get b2=some (.cells (ints Z) 109 false none):=(k1 b2 hb2).trans hg2
   obtain⟨a1,a2⟩:=hZ.above i (Nat.le_refl _)
   have z0:az P H1 3 ⟨b2,0+i * 2+0,none⟩=some (.int .i64 (X.getD (i * 2) 0)):=by rw[show 0+i * 2+0=i * 2 by omega,Fw q2 (by omega),a1]
   have y0:az P H1 3 ⟨n,0+0,none⟩=some (.int .i64 (Y.getD (i * 2) 0)):=bq (cY k2) agg3 rfl
   obtain⟨m1,m2⟩:=mX (i * 2)
   obtain⟨m3,m4⟩:=mY (i * 2)
   obtain⟨m5,m6⟩:=mX (i * 2+1)
   obtain⟨m7,m8⟩:=mY (i * 2+1)
   have hI0:I64 (X.getD (i * 2) 0+Y.getD (i * 2) 0):=by unfold I64; omega
   have hI1:I64 (X.getD (i * 2+1) 0+Y.getD (i * 2+1) 0):=by unfold I64; omega
   have hI:I64 ((i:Int)+1):=by unfold I64; omega
   have hcast:((i:Int)+1)=((i+1:Nat):Int):=by omega
   have s0:=Pj (a:=X.getD (i * 2) 0+Y.getD (i * 2) 0) (o:=0+i * 2+0) q2 (by omega)
   have q3:(H1.set b2 (some (.cells (ints (Z.set (0+i * 2+0) (X.getD (i * 2) 0+Y.getD (i * 2) 0))) 109 false none))).get b2=some (.cells (ints (Z.set (0+i * 2+0) (X.getD (i * 2) 0+Y.getD (i * 2) 0))) 109 false none):=by rw[Tr.get_set,if_pos rfl]
   have q4:∀ b,b≠b2→(H1.set b2 (some (.cells (ints (Z.set (0+i * 2+0) (X.getD (i * 2) 0+Y.getD (i * 2) 0))) 109 false none))).get b=H1.get b:=fun b hb=>by rw[Tr.get_set,if_neg hb]
   generalize H1.set b2 (some (.cells (ints (Z.set (0+i * 2+0) (X.getD (i * 2) 0+Y.getD (i * 2) 0))) 109 false none))=H2 at s0 q3 q4
   have z1:az P H2 3 ⟨b2,0+i * 2+1,none⟩=some (.int .i64 (X.getD (i * 2+1) 0)):=by
    rw[Fw q3 (by simp; omega),List.getD_eq_getElem?_getD,List.getElem?_set,if_neg (by omega),← List.getD_eq_getElem?_getD,show 0+i * 2+1=i * 2+1 by omega,a2]
   have y1:az P H2 3 ⟨n,0+1,none⟩=some (.int .i64 (Y.getD (i * 2+1) 0)):=bq (cY ((q4 n (by omega)).trans k2)) agg3 rfl
   have s1:=Pj (a:=X.getD (i * 2+1) 0+Y.getD (i * 2+1) 0) (o:=0+i * 2+1) q3 (by simp; omega)
   simp only[Rj b2 0 hlt,aj,Sw,WQ,aQ,z0,y0,aJ (bW hI0),oZ sz3 (show uj (.int .i64 _)=true from rfl),s0,z1,y1,aJ (bW hI1),s1,aJ (bW hI),hcast]
   obtain⟨w,w1,w2⟩:=hg4
   refine ih _ _ (n+1) (by omega) (by omega) (by rw[Tr.get_set,if_pos rfl]) ⟨w,by rw[Tr.get_set,if_neg (Ne.symm hne),q4 _ (Ne.symm hne),k1 b4 hb4]; exact w1,w2⟩ ?_ hlt
   have e0:0+i * 2+0=i * 2:=by omega
   have e1:0+i * 2+1=i * 2+1:=by omega
   rw[e0,e1]
   refine⟨by rw[EK]; exact lZ,fun p hp=>?_,fun p hp=>?_⟩
   ·obtain⟨t1,t2⟩:=Fj (q:=p) lZ hlt (X.getD (i * 2) 0+Y.getD (i * 2) 0) (X.getD (i * 2+1) 0+Y.getD (i * 2+1) 0)
    rw[t1,t2]
    by_cases e:p=i
    ·subst e; rw[if_pos rfl,if_pos rfl]; exact⟨rfl,rfl⟩
    ·rw[if_neg e,if_neg e]; exact hZ.below p (by omega)
   ·obtain⟨t1,t2⟩:=Fj (q:=p) lZ hlt (X.getD (i * 2) 0+Y.getD (i * 2) 0) (X.getD (i * 2+1) 0+Y.getD (i * 2+1) 0)
    rw[t1,t2,if_neg (by omega),if_neg (by omega)]
    exact hZ.above p (by omega)
  ·have hi':i=8:=by omega
   subst hi'
   obtain⟨w,w1,w2⟩:=hg4
   have lens:(ints Z).length=16:=by rw[bj,lZ]
   rw[if_neg (by omega),aQ,aj,cK hg2 yK Bw lens,aj,pZ Bw lens,mw w1 (by rw[lens,w2]) (fj _),aj,res103,
    cK (t:=109) (s:=16) (L:=ints Z) (e:=109) (vec:=none) (by rw[Tr.get_set,if_pos rfl]) yK Bw lens]
   exact⟨Z,_,_,rfl,hZ⟩
 intro m
 induction m with
 | zero=>
  intro i Z H n h1 h2 h3 h4 h5 h6 h7
  exact body _ 0 i Z H n h1 h2 h3 h4 h5 h6 (fun _ _ _ _ _ _ _ _ h=>by omega)
 | succ m ih=>
  intro i Z H n h1 h2 h3 h4 h5 h6 h7
  exact body _ (m+1) i Z H n h1 h2 h3 h4 h5 h6 (fun Z2 H2 n2 q1 q2 q3 q4 q5 q6=>ih (i+1) Z2 H2 n2 q1 q2 q3 q4 q5 (by omega) (by omega))
theorem plus_spec(c:Cal){X Y:List Int}(hX:X.length=16)(hY:Y.length=16)(mX:Mild X)(mY:Mild Y) :
  ∃ Z H' n',XZ c KK (.agg ⟨ints X⟩) (.agg ⟨ints Y⟩) .nil 0=some (.agg ⟨ints Z⟩,H',n')∧PlusTo X Y Z 8:=by
 unfold XZ B103_0
 generalize hS:XY c KK KK=S
 rw[dv,dv,fK qcv]
 simp only[bv,ptr]
 have g0:((((Tr.nil:Hp).set 0 (some (.cells (ints X) 109 false none))).set (0+1) (some (.cells (ints Y) 109 false none))).set (0+1+1) (some (.cells (ints (List.replicate 16 0)) 109 false none))).get 0=some (.cells (ints X) 109 false none):=by rw[Tr.get_set,if_neg (by omega),Tr.get_set,if_neg (by omega),Tr.get_set,if_pos rfl]
 have g1:((((Tr.nil:Hp).set 0 (some (.cells (ints X) 109 false none))).set (0+1) (some (.cells (ints Y) 109 false none))).set (0+1+1) (some (.cells (ints (List.replicate 16 0)) 109 false none))).get (0+1)=some (.cells (ints Y) 109 false none):=by rw[Tr.get_set,if_neg (by omega),Tr.get_set,if_pos rfl]
 have g2:((((Tr.nil:Hp).set 0 (some (.cells (ints X) 109 false none))).set (0+1) (some (.cells (ints Y) 109 false none))).set (0+1+1) (some (.cells (ints (List.replicate 16 0)) 109 false none))).get (0+1+1)=some (.cells (ints (List.replicate 16 0)) 109 false none):=by rw[Tr.get_set,if_pos rfl]
 generalize (((Tr.nil:Hp).set 0 (some (.cells (ints X) 109 false none))).set (0+1) (some (.cells (ints Y) 109 false none))).set (0+1+1) (some (.cells (ints (List.replicate 16 0)) 109 false none))=H1 at g0 g1 g2 ⊢
 rw[aQ,aj,cK g1 yK Bw (by rw[bj,hY]),aj,← hS]
 exact plus_loop c KK hY mX mY 0 (0+1+1) (by omega) KK 0 X H1 (0+1+1+1) (by omega) (by omega) g0 ⟨_,g2,rfl⟩ ⟨hX,fun p hp=>by omega,fun p _=>⟨rfl,rfl⟩⟩ (by omega) (by unfold KK; omega)
theorem flat103:fX P 103=true:=by kernel_rfl
theorem call103(l:Nat)(a b:Value)(H:Hp)(n:Nat):(cal (l+1)).call 103 [a,b] H n=XZ (cal l) KK a b H n:=
 (show(cal (l+1)).call 103 [a,b] H n=IX ent103 (cal l) [a,b] H n by kernel_rfl).trans (IY ..)
theorem plus_call(l:Nat){X Y:List Int}(hX:X.length=16)(hY:Y.length=16)(mX:Mild X)(mY:Mild Y):∃ Z,PlusTo X Y Z 8∧∀(H:Hp) (n:Nat) (k:Value→Hp→Nat→Option ρ),
  aY P (cal (l+1)) 103 [.agg ⟨ints X⟩,.agg ⟨ints Y⟩] H n k=k (.agg ⟨ints Z⟩) H n:=by
 obtain⟨Z,H',n',e,hZ⟩:=plus_spec (cal l) hX hY mX mY
 refine⟨Z,hZ,fun H n k=>gz flat103 ?_ ((call103 ..).trans e) ?_⟩
 ·simp only[bK,bx,mz,wQ,Bool.and_self]
 ·simp only[bx,mz,wQ]
noncomputable def code66:Code:=cW 66
noncomputable def zv:List ResultVar:=eX 66
noncomputable def sY:Code:=asgOf (cL (cR (cL (cR (cR code66)))))
noncomputable def sZ:Code:=bodOf (cL (cR (cL (cR (cR code66)))))
noncomputable def K66(c:Cal)(k:Nat):KC (Value × Hp × Nat):=ay P c (aw P c k) none 66 (cR (cR (cR code66))) .leaf (av P zv) X0 (av P zv)
noncomputable def T66(v0 v1 v3 v4 v5 v9 v10:Value):Tm:=((((((((Tr.nil:Tm).set 0 (some v0)).set 1 (some v1)).set 3 (some v3)).set 4 (some v4)).set 5 (some v5)).set 8 (some v0)).set 9 (some v9)).set 10 (some v10)
theorem pre66(c:Cal)(k:Nat)(v0 v1:Value)(H:Hp)(n:Nat):aK P c A (k+1) 66 [v0,v1] H n =
  (boxK 119 v1 H n fun v3 H n=>dj P 109 H n fun v4 H n=>dj P 109 H n fun v5 H n=>aq (aW v3) fun a=>aq (az P H 119 a) fun v9=>aY P c 74 [v0,v9] H n fun v10 H n=>
   yY P c none 66 v10 #[11,12] sY sZ (K66 c k) (upX 0 (K66 c k) X0) (av P zv) (T66 v0 v1 v3 v4 v5 v9 v10) H n []):=by
 rw[bX (fn:=Go.Proofs.Try.f66) (c:=code66) (rs:=zv) (by kernel_rfl) (by kernel_rfl) (by kernel_rfl) (by kernel_rfl)]
 kernel_rfl
theorem post66(c:Cal)(k:Nat)(v0 v1 v3 v4 v5 v9 v10:Value)(H:Hp)(n:Nat)(D:List Nat):K66 c k (T66 v0 v1 v3 v4 v5 v9 v10) H n D =
  (aq (aW v5) fun a=>aq (az P H 109 a) fun v17=>aq (bV P 109 v4 v17 H) fun H=>getK (rV H D) fun H=>aq (resV P ((Tr.nil:Tm).set 4 (some v4)) H zv) fun vs=>some (oneV vs,H,n)):=by
 kernel_rfl
theorem call66(l:Nat)(a b:Value)(H:Hp)(n:Nat):(cal (l+1)).call 66 [a,b] H n=aK P (cal l) A (KK+1) 66 [a,b] H n:=by kernel_rfl
theorem asg66_eq(l lp:Nat)(v0 v1 v3 v4 v5 v9 v10 p q:Value)(H:Hp)(n:Nat) :
  (cal (l+1)).body lp 66 sY { T:=((T66 v0 v1 v3 v4 v5 v9 v10).set 11 (some p)).set 12 (some q),H,n,D:=[] } =
   (dj P 111 H n fun v7 H n=>aq (bV P 111 v7 q H) fun H=>some (.norm,{ T:=(((T66 v0 v1 v3 v4 v5 v9 v10).set 11 (some p)).set 12 (some q)).set 7 (some v7),H,n,D:=[] })):=by kernel_rfl
theorem bod66_eq(l lp:Nat)(v0 v1 v3 v4 v5 v9 v10 p q v7:Value)(H:Hp)(n:Nat) :
  (cal (l+1)).body lp 66 sZ { T:=(((T66 v0 v1 v3 v4 v5 v9 v10).set 11 (some p)).set 12 (some q)).set 7 (some v7),H,n,D:=[] } =
   (aq (aW v5) fun a=>aq (az P H 109 a) fun v13=>aq (ax P 111 v7 2) fun v14=>aq (aW v14) fun a=>aq (az P H 109 a) fun v15=>aY P (cal l) 103 [v13,v15] H n fun v16 H n=>aq (bV P 109 v5 v16 H) fun H=>
    some (.norm,{ T:=(((((((T66 v0 v1 v3 v4 v5 v9 v10).set 11 (some p)).set 12 (some q)).set 7 (some v7)).set 13 (some v13)).set 14 (some v14)).set 15 (some v15)).set 16 (some v16),H,n,D:=[] })):=by kernel_rfl
theorem res66(H:Hp)(b:Nat):resV P ((Tr.nil:Tm).set 4 (some (.pointer (some ⟨b,0,none⟩)))) H zv=(match az P H 109 ⟨b,0,none⟩ with
 | none=>none
 | some v=>some [v]):=by kernel_rfl
theorem ntm66:ntm P 66=18:=by kernel_rfl
theorem flat74:fX P 74=false:=by kernel_rfl
theorem call74(l:Nat)(a b:Value)(H:Hp)(n:Nat):(cal (l+1)).call 74 [a,b] H n=C74_0 (cal l) KK a b H n:=by kernel_rfl
theorem call104(l:Nat)(a b c:Value)(H:Hp)(n:Nat):(cal (l+1)).call 104 [a,b,c] H n=KQ (cal l) KK a b c H n:=by kernel_rfl
theorem MQ(l:Nat)(g:Nat){L:List Int}(H:Hp)(n:Nat)(k:Value→Hp→Nat→Option ρ):aY P (cal (l+1)) 74 [.pointer (some ⟨g,0,none⟩),.agg ⟨ints L⟩] H n k =
  k (.func (.func 104) ⟨[]⟩ ⟨[.pointer (some ⟨n+1,0,none⟩),.pointer (some ⟨n,0,none⟩)]⟩) ((H.set n (some (.cells [.pointer (some ⟨g,0,none⟩)] 103 false none))).set (n+1) (some (.cells (ints L) 119 false none))) (n+2):=by
 unfold aY
 rw[flat74,call74]
 rfl
theorem range66(c:Cal)(a b:Value)(K:KC (Value × Hp × Nat))(X:XC (Value × Hp × Nat))(Kr:KC (Value × Hp × Nat))(T:Tm)(H:Hp)(n:Nat) :
  yY P c none 66 (.func (.func 104) ⟨[]⟩ ⟨[a,b]⟩) #[11,12] sY sZ K X Kr T H n [] =
   aY P c 104 [.func (.yield (n+1)) #[] #[],a,b] ((H.set n (some .deferred)).set (n+1) (some (.loop .ready none 66 T (ntm P 66) #[11,12] sY sZ n))) (n+2) fun _ H n'=>fin K X Kr (qZ (n+1) { T:=T,H,n:=n',D:=[n] }):=rfl
theorem yield66(L:Nat){H:Hp}{n lb b5 d:Nat}{v0 v1 v3 v4 v9 v10 q0:Value}{X S B:List Int}{y:Int}(hl:H.get lb=some (.loop .ready none 66 (T66 v0 v1 v3 v4 (.pointer (some ⟨b5,0,none⟩)) v9 v10) (ntm P 66) #[11,12] sY sZ d))
  (h5:H.get b5=some (.cells (ints X) 109 false none)) (hX:X.length=16) (hS:S.length=16) (hB:B.length=16) (mX:Mild X) (mB:Mild B) (n5:b5≠lb) (hln:lb<n) (h5n:b5<n) :
  ∃ Z H',PlusTo X B Z 8∧(∀ k:Value→Hp→Nat→Option ρ,jy P (cal (L+2)) (.func (.yield lb) #[] #[]) [q0,.agg ⟨ints (bJ y S B)⟩] H n k=k (.bool true) H' (n+1))∧H'.get lb=H.get lb ∧
   H'.get b5=some (.cells (ints Z) 109 false none)∧∀ b,b<n→b≠lb→b≠b5→H'.get b=H.get b:=by
 obtain⟨Z,hZ,hplus⟩:=plus_call (ρ:=Ex × St) L hX hB mX mB
 have lens:(ints (bJ y S B)).length=33:=by rw[bj,eK hS hB]
 have hpar:vw (T66 v0 v1 v3 v4 (.pointer (some ⟨b5,0,none⟩)) v9 v10) (ntm P 66) (#[11,12]:Array Tmp).toList [q0,.agg ⟨ints (bJ y S B)⟩]=some (((T66 v0 v1 v3 v4 (.pointer (some ⟨b5,0,none⟩)) v9 v10).set 11 (some q0)).set 12 (some (.agg ⟨ints (bJ y S B)⟩))):=by
  rw[ntm66]; rfl
 generalize hT:T66 v0 v1 v3 v4 (.pointer (some ⟨b5,0,none⟩)) v9 v10=T at hl hpar
 obtain⟨H1,k1,k2,k3⟩:=qx (P:=P) (ρ:=Ex × St) (H:=H) (n:=n) (L:=ints (bJ y S B)) OY (by show(ints (bJ 0 mZ mZ)).length=33; rw[bj,eK nz nz]) Dk lens (fj _)
 have hasg:(cal (L+2)).body lb 66 sY { T:=(T.set 11 (some q0)).set 12 (some (.agg ⟨ints (bJ y S B)⟩)),H,n,D:=[] }=some (.norm,{ T:=((T.set 11 (some q0)).set 12 (some (.agg ⟨ints (bJ y S B)⟩))).set 7 (some (.pointer (some ⟨n,0,none⟩))),H:=H1,n:=n+1,D:=[] }):=by
  rw[← hT,asg66_eq,k3]
 have hl1:=(k1 lb hln).trans hl
 have h51:=(k1 b5 h5n).trans h5
 have hrdy:BZ H1 lb=true:=by unfold BZ; rw[hl1]
 have hpen:rq H1 lb=none:=by unfold rq; rw[hl1]
 have hbusy:qv H1 lb .busy none=some (H1.set lb (some (.loop .busy none 66 T (ntm P 66) #[11,12] sY sZ d))):=by unfold qv; rw[hl1]
 have g5:(H1.set lb (some (.loop .busy none 66 T (ntm P 66) #[11,12] sY sZ d))).get b5=some (.cells (ints X) 109 false none):=by rw[Tr.get_set,if_neg n5]; exact h51
 have g7:(H1.set lb (some (.loop .busy none 66 T (ntm P 66) #[11,12] sY sZ d))).get n=some (.cells (ints (bJ y S B)) 111 false none):=by rw[Tr.get_set,if_neg (by omega)]; exact k2
 have gl:(H1.set lb (some (.loop .busy none 66 T (ntm P 66) #[11,12] sY sZ d))).get lb=some (.loop .busy none 66 T (ntm P 66) #[11,12] sY sZ d):=by rw[Tr.get_set,if_pos rfl]
 have ho:∀ b,b≠lb→(H1.set lb (some (.loop .busy none 66 T (ntm P 66) #[11,12] sY sZ d))).get b=H1.get b:=fun b hb=>by rw[Tr.get_set,if_neg hb]
 generalize H1.set lb (some (.loop .busy none 66 T (ntm P 66) #[11,12] sY sZ d))=H2 at hbusy g5 g7 gl ho
 have hnb:az P H2 109 ⟨n,0+17,none⟩=some (.agg ⟨ints B⟩):=by
  have:=bY (P:=P) (k:=17) (cY g7) yK Bw (by rw[lens]; omega) (dk _)
  have e:((ints (bJ y S B)).drop 17).take 16=ints B:=by
   rw[Bj]
   congr 1
   unfold bJ
   rw[List.drop_succ_cons,List.drop_left' hS,← hB,List.take_length]
  rw[e] at this
  exact this
 have lX:(ints X).length=16:=by rw[bj,hX]
 have lZ:(ints Z).length=16:=by rw[bj,hZ.len]
 have hst:=mw (vs:=ints Z) g5 (by rw[lX,lZ]) (fj _)
 have q5:(H2.set b5 (some (.cells (ints Z) 109 false none))).get b5=some (.cells (ints Z) 109 false none):=by rw[Tr.get_set,if_pos rfl]
 have ql:(H2.set b5 (some (.cells (ints Z) 109 false none))).get lb=some (.loop .busy none 66 T (ntm P 66) #[11,12] sY sZ d):=by rw[Tr.get_set,if_neg (Ne.symm n5)]; exact gl
 have qo:∀ b,b≠lb→b≠b5→(H2.set b5 (some (.cells (ints Z) 109 false none))).get b=H1.get b:=fun b hb hb5=>by rw[Tr.get_set,if_neg hb5]; exact ho b hb
 have hbody:∃ T',(cal (L+2)).body lb 66 sZ { T:=((T.set 11 (some q0)).set 12 (some (.agg ⟨ints (bJ y S B)⟩))).set 7 (some (.pointer (some ⟨n,0,none⟩))),H:=H2,n:=n+1,D:=[] }=some (.norm,{ T:=T',H:=H2.set b5 (some (.cells (ints Z) 109 false none)),n:=n+1,D:=[] }):=by
  rw[← hT,bod66_eq (L+1),aQ,aj,cK g5 yK Bw lX,aj,fa113_2,aj,aQ,aj,hnb,aj,hplus,pZ Bw lZ,hst,aj]
  exact⟨_,rfl⟩
 generalize H2.set b5 (some (.cells (ints Z) 109 false none))=H3 at q5 ql qo hbody
 obtain⟨T',hbody⟩:=hbody
 have hend:qv H3 lb .ready none=some (H3.set lb (some (.loop .ready none 66 T (ntm P 66) #[11,12] sY sZ d))):=by unfold qv; rw[ql]
 refine⟨Z,H3.set lb (some (.loop .ready none 66 T (ntm P 66) #[11,12] sY sZ d)),hZ,fun k=>?_,by rw[Tr.get_set,if_pos rfl,hl],by rw[Tr.get_set,if_neg n5]; exact q5,fun b hbn hb hb5=>by rw[Tr.get_set,if_neg hb,qo b hb hb5]; exact k1 b hbn⟩
 show stK (uv (fun | some l=>(cal (L+2)).body l | none=>fun _ _ _=>none) P lb [q0,.agg ⟨ints (bJ y S B)⟩] (bare H n)) k=_
 have hy:uv (fun | some l=>(cal (L+2)).body l | none=>fun _ _ _=>none) P lb [q0,.agg ⟨ints (bJ y S B)⟩] (bare H n)=some (.bool true,{ bare H n with H:=H3.set lb (some (.loop .ready none 66 T (ntm P 66) #[11,12] sY sZ d)),n:=n+1 }):=by
  unfold uv
  have hb:Nat.beq (ntm P 66) (ntm P 66)=true:=Nat.beq_refl _
  have hx:RW .norm=some none:=rfl
  simp only[bare,hl,hb,hpar,hasg,hrdy,hpen,hbusy,hbody,hx,Option.isNone_none,if_true,hend]
 rw[hy]
 rfl
def rZ(L:List Int)(np nk:Nat):Prop:=∀ i,i<8→L.getD i 0=-1∨(i<np∧∃ kd:Nat,kd<nk∧L.getD i 0=kd)
theorem iter104_loop(c:Cal)(k:Nat)(yv:Value)(sb g np nj nk:Nat)(js ks L:List Int)(hL:L.length=8)(hK:rZ L np nk)(hnp:np≤8)(hnk:nk≤3)(Inv:Nat→Hp→Nat→Prop)
  (hR:∀ i H n,Inv i H n→az P H 103 ⟨sb,0,none⟩=some (.pointer (some ⟨g,0,none⟩))∧∀ p kd,p<np→kd<nk→∃ B,kK (ks.getD (kd * 5) 0) (shP js ks nj np p kd) B 8∧az P H 111 ⟨g,0+67+p * 99+kd * 33,none⟩=some (.agg ⟨ints (bJ (ks.getD (kd * 5) 0) (shP js ks nj np p kd) B)⟩))
  (hY:∀(i:Nat) (H:Hp) (n kd:Nat) (B:List Int),Inv i H n→i<np→kd<nk→L.getD i 0=kd→kK (ks.getD (kd * 5) 0) (shP js ks nj np i kd) B 8 →
   ∃ H' n',(∀ k:Value→Hp→Nat→Res,jy P c yv [.int .i64 i,.agg ⟨ints (bJ (ks.getD (kd * 5) 0) (shP js ks nj np i kd) B)⟩] H n k=k (.bool true) H' n')∧Inv (i+1) H' n')
  (hSkip:∀(i:Nat) (H:Hp) (n:Nat),Inv i H n→L.getD i 0=-1→Inv (i+1) H n):∀(m i:Nat) (H:Hp) (n:Nat),Inv i H n→i≤8→8-i≤m →
  ∃ H' n',S104_1 c k m yv (.pointer (some ⟨sb,0,none⟩)) (.agg ⟨ints L⟩) (.int .i64 i) H n=some (.tuple ⟨[]⟩,H',n')∧Inv 8 H' n':=by
 have body:∀(b1:Value→Value→Value→Value→Hp→Nat→Res) (m i:Nat) (H:Hp) (n:Nat),Inv i H n→i≤8 →
   (∀ H' n',Inv (i+1) H' n'→i<8→∃ H2 n2,b1 yv (.pointer (some ⟨sb,0,none⟩)) (.agg ⟨ints L⟩) (.int .i64 ((i+1:Nat):Int)) H' n'=some (.tuple ⟨[]⟩,H2,n2)∧Inv 8 H2 n2) →
   ∃ H' n',XK c k m b1 yv (.pointer (some ⟨sb,0,none⟩)) (.agg ⟨ints L⟩) (.int .i64 i) H n=some (.tuple ⟨[]⟩,H',n')∧Inv 8 H' n':=by
  intro b1 m i H n hI hi ih
  unfold XK B104_1
  rw[aJ dq,jx]
  by_cases hlt:i<8
  ·have hI1:I64 ((i:Int)+1):=by unfold I64; omega
   have hcast:((i:Int)+1)=((i+1:Nat):Int):=by omega
   rw[if_pos (by omega),index121 hL hlt,aj,aJ ix]
   rcases hK i hlt with h | ⟨hip,kd,hkd,h⟩
   ·have hd:decide (L.getD i 0=-1)=true:=decide_eq_true h
    simp only[hd,Bool.not_true,fV,iY,ew,aj,eV,aJ (bW hI1),hcast]
    exact ih H n (hSkip i H n hI h) hlt
   ·have hd:decide (L.getD i 0=-1)=false:=decide_eq_false (by omega)
    obtain⟨r1,r2⟩:=hR _ _ _ hI
    obtain⟨B,hB,hn⟩:=r2 i kd hip hkd
    obtain⟨H1,n1,e1,e2⟩:=hY i H n kd B hI hip hkd h hB
    rw[hd,h]
    simp only[Bool.not_false,eW,aQ,aj,r1,lk,qck,at115 _ _ hlt,at114 _ _ (show kd<3 by omega),hn,e1,rX,dY,eV,aJ (bW hI1),hcast]
    exact ih H1 n1 e2 hlt
  ·rw[if_neg (by omega)]
   have hi':i=8:=by omega
   subst hi'
   exact⟨H,n,rfl,hI⟩
 intro m
 induction m with
 | zero=>intro i H n h1 h2 h3; exact body _ 0 i H n h1 h2 (fun _ _ _ h=>by omega)
 | succ m ih=>intro i H n h1 h2 h3; exact body _ (m+1) i H n h1 h2 (fun H' n' q1 q2=>ih (i+1) H' n' q1 (by omega) (by omega))
noncomputable def bsum(js ks L:List Int)(nj np i e q:Nat):Int:=ak (fun p=>if L.getD p 0=-1 then 0 else ext (ks.getD ((L.getD p 0).toNat * 5) 0) (shP js ks nj np p (L.getD p 0).toNat) e q) i
theorem qkj{y:Int}{S:List Int}(hS:fZ S)(hy:0≤y∧y≤1000){e q:Nat}(he:e<2):-10000≤ext y S e q∧ext y S e q≤10000:=by
 obtain⟨a1,a2⟩:=hS (q * 2+e)
 obtain⟨b1,b2⟩:=hS (q * 2+(1-e))
 obtain⟨c1,c2⟩:=My hS (1-e)
 unfold ext
 match e,he with
 | 0,_=>unfold lim; simp only at *; omega
 | 1,_=>unfold lim; simp only at *; omega
theorem sumTo_mild{f:Nat→Int}{c:Int}(hc:0≤c):∀ {i:Nat},(∀ k,k<i→-c≤f k∧f k≤c)→-(c * i)≤ak f i∧ak f i≤c * i
 | 0,_=>by simp [ak]
 | i+1,h=>by
  obtain⟨h1,h2⟩:=sumTo_mild hc (i:=i) (fun k hk=>h k (by omega))
  obtain⟨g1,g2⟩:=h i (by omega)
  simp only[ak]
  have:c * ((i+1:Nat):Int)=c * i+c:=by rw[Int.natCast_add,Int.mul_add]; simp
  omega
theorem bsum_mild{js ks L:List Int}{nj np nk i e q:Nat}(hks:pj ks nk)(hnp:np≤8)(hK:rZ L np nk)(hi:i≤8)(he:e<2):-1000000≤bsum js ks L nj np i e q∧bsum js ks L nj np i e q≤1000000:=by
 have h:=sumTo_mild (f:=fun p=>if L.getD p 0=-1 then 0 else ext (ks.getD ((L.getD p 0).toNat * 5) 0) (shP js ks nj np p (L.getD p 0).toNat) e q) (c:=10000) (by omega) (i:=i) (fun p hp=>by
  split
  ·omega
  ·rename_i hne
   rcases hK p (by omega) with h | ⟨hip,kd,hkd,h⟩
   ·exact absurd h hne
   ·rw[h,Int.toNat_natCast]
    obtain⟨y1,_,_⟩:=hks kd hkd
    exact qkj (sX hks hkd hnp hip) y1 he)
 unfold bsum
 omega
def RowIs(X:List Int)(js ks L:List Int)(nj np i:Nat):Prop:=X.length=16∧∀ q,q<8→X.getD (q * 2) 0=bsum js ks L nj np i 0 q∧X.getD (q * 2+1) 0=bsum js ks L nj np i 1 q
theorem row_mild{X:List Int}(hl:X.length=16)(h:∀ q,q<8→(-1000000≤X.getD (q * 2) 0∧X.getD (q * 2) 0≤1000000)∧(-1000000≤X.getD (q * 2+1) 0∧X.getD (q * 2+1) 0≤1000000)):Mild X:=by
 intro k
 by_cases hk:k<16
 ·obtain⟨h1,h2⟩:=h (k / 2) (by omega)
  rcases Nat.mod_two_eq_zero_or_one k with z | z
  ·rw[show k / 2 * 2=k by omega] at h1; exact h1
  ·rw[show k / 2 * 2+1=k by omega] at h2; exact h2
 ·rw[List.getD_eq_getElem?_getD,List.getElem?_eq_none (by omega)]
  simp
theorem bounds_spec(l:Nat){H:Hp}{n g np nj nk:Nat}{f:Nat→Value}{js ks L:List Int}(hgn:g<n)(hf:cj H g 859 115 f)(hn:∀ p kd,p<np→kd<nk→sW f js ks nj np p kd)(hks:pj ks nk)(hnp:np≤8)(hnk:nk≤3)(hL:L.length=8)(hK:rZ L np nk) :
  ∃ X,RowIs X js ks L nj np 8∧Ret ((cal (l+4)).call 66 [.pointer (some ⟨g,0,none⟩),.agg ⟨ints L⟩] H n) n H (.agg ⟨ints X⟩):=by
 have lens:(ints L).length=8:=by rw[bj,hL]
 rw[call66,pre66]
 simp only[dv,fK qcv,bv,ptr]
 generalize hH0:((H.set n (some (.cells (ints L) 119 false none))).set (n+1) (some (.cells (ints (List.replicate 16 0)) 109 false none))).set (n+1+1) (some (.cells (ints (List.replicate 16 0)) 109 false none))=H0
 have k0:Keep n H H0:=fun b hb=>by rw[← hH0,Tr.get_set,if_neg (by omega),Tr.get_set,if_neg (by omega),Tr.get_set,if_neg (by omega)]
 have p0:H0.get n=some (.cells (ints L) 119 false none):=by rw[← hH0,Tr.get_set,if_neg (by omega),Tr.get_set,if_neg (by omega),Tr.get_set,if_pos rfl]
 have p1:H0.get (n+1)=some (.cells (ints (List.replicate 16 0)) 109 false none):=by rw[← hH0,Tr.get_set,if_neg (by omega),Tr.get_set,if_pos rfl]
 have p2:H0.get (n+1+1)=some (.cells (ints (List.replicate 16 0)) 109 false none):=by rw[← hH0,Tr.get_set,if_pos rfl]
 clear hH0
 rw[aQ,aj,cK p0 xq rY lens,aj,MQ (l+2),range66]
 generalize hH1:(H0.set (n+1+1+1) (some (.cells [.pointer (some ⟨g,0,none⟩)] 103 false none))).set (n+1+1+1+1) (some (.cells (ints L) 119 false none))=H1
 have k1:∀ b,b<n+1+1+1→H1.get b=H0.get b:=fun b hb=>by rw[← hH1,Tr.get_set,if_neg (by omega),Tr.get_set,if_neg (by omega)]
 have q3:H1.get (n+1+1+1)=some (.cells [.pointer (some ⟨g,0,none⟩)] 103 false none):=by rw[← hH1,Tr.get_set,if_neg (by omega),Tr.get_set,if_pos rfl]
 have q4:H1.get (n+1+1+1+1)=some (.cells (ints L) 119 false none):=by rw[← hH1,Tr.get_set,if_pos rfl]
 clear hH1
 generalize hT:T66 (.pointer (some ⟨g,0,none⟩)) (.agg ⟨ints L⟩) (.pointer (some ⟨n,0,none⟩)) (.pointer (some ⟨n+1,0,none⟩)) (.pointer (some ⟨n+1+1,0,none⟩)) (.agg ⟨ints L⟩) (.func (.func 104) ⟨[]⟩ ⟨[.pointer (some ⟨n+1+1+1+1,0,none⟩),.pointer (some ⟨n+1+1+1,0,none⟩)]⟩)=T
 have hc104:∀(a b c:Value) (H:Hp) (n:Nat) (k:Value→Hp→Nat→Res),bx b=false→aY P (cal (l+3)) 104 [a,b,c] H n k=aq (KQ (cal (l+2)) KK a b c H n) fun r=>k r.1 r.2.1 r.2.2:=by
  intro a b c H n k hb
  unfold aY
  have:(fX P 104 && bK [a,b,c])=false:=by simp [bK,hb]
  rw[this,call104]
 rw[hc104 _ _ _ _ _ _ rfl]
 generalize hH2:(H1.set (n+1+1+1+2) (some .deferred)).set (n+1+1+1+2+1) (some (.loop .ready none 66 T (ntm P 66) #[11,12] sY sZ (n+1+1+1+2)))=H2
 have r1:∀ b,b<n+1+1+1+2→H2.get b=H1.get b:=fun b hb=>by rw[← hH2,Tr.get_set,if_neg (by omega),Tr.get_set,if_neg (by omega)]
 have r2:H2.get (n+1+1+1+2)=some .deferred:=by rw[← hH2,Tr.get_set,if_neg (by omega),Tr.get_set,if_pos rfl]
 have r3:H2.get (n+1+1+1+2+1)=some (.loop .ready none 66 T (ntm P 66) #[11,12] sY sZ (n+1+1+1+2)):=by rw[← hH2,Tr.get_set,if_pos rfl]
 clear hH2
 have hg2:H2.get g=H.get g:=by rw[r1 _ (by omega),k1 _ (by omega),k0 _ hgn]
 have l104:az P H2 119 ⟨n+1+1+1+1,0,none⟩=some (.agg ⟨ints L⟩):=cK (by rw[r1 _ (by omega)]; exact q4) xq rY lens
 have base:RowIs (List.replicate 16 0) js ks L nj np 0:=⟨rfl,fun q hq=>by
  have z:∀ k:Nat,(List.replicate 16 (0:Int)).getD k 0=0:=by
   intro k
   rw[List.getD_eq_getElem?_getD,List.getElem?_replicate]
   split <;> rfl
  rw[z,z]; exact⟨rfl,rfl⟩⟩
 obtain⟨H3,n3,e3,i0,i1,X,i2,i3,i4⟩:=iter104_loop (cal (l+2)) KK (.func (.yield (n+1+1+1+2+1)) #[] #[]) (n+1+1+1) g np nj nk js ks L hL hK hnp hnk
  (fun i Hc nc=>n+1+1+1+2+2≤nc∧Hc.get (n+1+1+1+2+1)=some (.loop .ready none 66 T (ntm P 66) #[11,12] sY sZ (n+1+1+1+2))∧∃ X,Hc.get (n+1+1)=some (.cells (ints X) 109 false none)∧(i≤8→RowIs X js ks L nj np i)∧∀ b,b<n+1+1+1+2+2→b≠n+1+1+1+2+1→b≠n+1+1→Hc.get b=H2.get b)
  (fun i Hc nc ⟨_,_,X,_,_,h⟩=>by
   refine⟨bw (o:=0) (k:=0) (cY (by rw[h _ (by omega) (by omega) (by omega),r1 _ (by omega)]; exact q3)) WX rfl rfl rfl,fun p kd hp hkd=>?_⟩
   have cg:cj Hc g 859 115 f:=by
    obtain⟨c,e1,e2,e3⟩:=hf
    exact⟨c,by rw[h _ (by omega) (by omega) (by omega),hg2]; exact e1,e2,e3⟩
   exact OK cg (hn p kd hp hkd) (by omega) (by omega))
  (fun i Hc nc kd B ⟨h1,h2,X,h3,h4,h5⟩ hip hkd hLi hB=>by
   have hX:=h4 (by omega)
   obtain⟨y1,_,_⟩:=hks kd hkd
   have hsb:=sX (js:=js) (nj:=nj) hks hkd hnp hip
   have mX:Mild X:=row_mild hX.1 fun q hq=>by
    obtain⟨a,b⟩:=hX.2 q hq
    rw[a,b]; exact⟨bsum_mild hks hnp hK (by omega) (by omega),bsum_mild hks hnp hK (by omega) (by omega)⟩
   have mB:Mild B:=row_mild hB.1 fun q hq=>by
    obtain⟨a,b⟩:=hB.2 q hq
    have e0:=qkj hsb y1 (e:=0) (q:=q) (by omega)
    have e1:=qkj hsb y1 (e:=1) (q:=q) (by omega)
    rw[a,b]; omega
   rw[← hT] at h2
   obtain⟨Z,H',z1,z2,z3,z4,z5⟩:=yield66 (ρ:=Value × Hp × Nat) l (n:=nc) (q0:=.int .i64 i) (y:=ks.getD (kd * 5) 0) h2 h3 hX.1 (JV ..) hB.1 mX mB (by omega) (by omega) (by omega)
   refine⟨H',nc+1,z2,by omega,by rw[z3,h2,hT],Z,z4,fun _=>⟨z1.len,fun q hq=>?_⟩,fun b hb hb1 hb2=>(z5 b (by omega) hb1 hb2).trans (h5 b hb hb1 hb2)⟩
   obtain⟨a1,a2⟩:=z1.below q hq
   obtain⟨b1,b2⟩:=hX.2 q hq
   obtain⟨c1,c2⟩:=hB.2 q hq
   have hne:¬ L.getD i 0=-1:=by omega
   rw[a1,a2,b1,b2,c1,c2]
   unfold bsum
   simp only[ak]
   rw[if_neg hne,if_neg hne,hLi,Int.toNat_natCast]
   exact⟨rfl,rfl⟩)
  (fun i Hc nc ⟨h1,h2,X,h3,h4,h5⟩ hLi=>⟨h1,h2,X,h3,fun h8=>⟨(h4 (by omega)).1,fun q hq=>by
   obtain⟨b1,b2⟩:=(h4 (by omega)).2 q hq
   rw[b1,b2]
   unfold bsum
   simp only[ak]
   rw[if_pos hLi,if_pos hLi]
   omega⟩,h5⟩)
  KK 0 H2 (n+1+1+1+2+2) ⟨Nat.le_refl _,r3,List.replicate 16 0,by rw[r1 _ (by omega),k1 _ (by omega)]; exact p2,fun _=>base,fun _ _ _ _=>rfl⟩ (by omega) (by unfold KK; omega)
 have e3':KQ (cal (l+2)) KK (.func (.yield (n+1+1+1+2+1)) #[] #[]) (.pointer (some ⟨n+1+1+1+1,0,none⟩)) (.pointer (some ⟨n+1+1+1,0,none⟩)) H2 (n+1+1+1+2+2)=some (.tuple ⟨[]⟩,H3,n3):=by
  unfold KQ B104_0
  rw[aQ,aj,l104,aj]
  exact e3
 rw[e3',aj]
 have hout:qZ (n+1+1+1+2+1) { T:=T,H:=H3,n:=n3,D:=[n+1+1+1+2] }=some (.norm,{ T:=T,H:=H3.set (n+1+1+1+2+1) (some (.loop .exhausted none 66 T (ntm P 66) #[11,12] sY sZ (n+1+1+1+2))),n:=n3,D:=[n+1+1+1+2] }):=by
  unfold qZ
  simp only[i1]
 rw[hout]
 show ∃ X,RowIs X js ks L nj np 8∧Ret (K66 (cal (l+3)) KK T (H3.set (n+1+1+1+2+1) (some (.loop .exhausted none 66 T (ntm P 66) #[11,12] sY sZ (n+1+1+1+2)))) n3 [n+1+1+1+2]) n H (.agg ⟨ints X⟩)
 have hRow:=i3 (by omega)
 have lX:(ints X).length=16:=by rw[bj,hRow.1]
 generalize hH4:H3.set (n+1+1+1+2+1) (some (.loop .exhausted none 66 T (ntm P 66) #[11,12] sY sZ (n+1+1+1+2)))=H4
 have o1:∀ b,b<n+1+1+1+2+2→b≠n+1+1+1+2+1→b≠n+1+1→H4.get b=H2.get b:=fun b hb hb1 hb2=>by rw[← hH4,Tr.get_set,if_neg hb1]; exact i4 b hb hb1 hb2
 have o2:H4.get (n+1+1)=some (.cells (ints X) 109 false none):=by rw[← hH4,Tr.get_set,if_neg (by omega)]; exact i2
 clear hH4 hout
 have o3:H4.get (n+1)=some (.cells (ints (List.replicate 16 0)) 109 false none):=by rw[o1 _ (by omega) (by omega) (by omega),r1 _ (by omega),k1 _ (by omega)]; exact p1
 have o4:H4.get (n+1+1+1+2)=some .deferred:=by rw[o1 _ (by omega) (by omega) (by omega)]; exact r2
 refine⟨X,hRow,?_⟩
 rw[← hT,post66,aQ,aj,cK o2 yK Bw lX,aj,pZ Bw lX,mw o3 (by rw[lX]; rfl) (fj _),aj]
 generalize hH6:H4.set (n+1) (some (.cells (ints X) 109 false none))=H6
 have u1:H6.get (n+1)=some (.cells (ints X) 109 false none):=by rw[← hH6,Tr.get_set,if_pos rfl]
 have u2:∀ b,b≠n+1→H6.get b=H4.get b:=fun b hb=>by rw[← hH6,Tr.get_set,if_neg hb]
 clear hH6
 have ht:rV H6 [n+1+1+1+2]=some (H6.set (n+1+1+1+2) none):=by
  have:H6.get (n+1+1+1+2)=some .deferred:=by rw[u2 _ (by omega)]; exact o4
  unfold rV
  simp only[this]
  rfl
 rw[ht]
 show Ret (aq (resV P ((Tr.nil:Tm).set 4 (some (.pointer (some ⟨n+1,0,none⟩)))) (H6.set (n+1+1+1+2) none) zv) fun vs=>some (oneV vs,H6.set (n+1+1+1+2) none,n3)) n H _
 rw[res66,cK (t:=109) (s:=16) (L:=ints X) (e:=109) (vec:=none) (by rw[Tr.get_set,if_neg (by omega)]; exact u1) yK Bw lX]
 refine⟨_,_,rfl,by omega,fun b hb=>?_⟩
 rw[Tr.get_set,if_neg (by omega),u2 _ (by omega),o1 _ (by omega) (by omega) (by omega),r1 _ (by omega),k1 _ (by omega),k0 _ hb]
theorem range_in(c:Cal)(f g:FuncId)(first cap:List Value)(params:Array Tmp)(asg bod:Code)(K:KC ρ)(X:XC ρ)(Kr:KC ρ)(T:Tm)(H:Hp)(n:Nat)(D:List Nat) :
  yY P c none f (.func (.func g) ⟨first⟩ ⟨cap⟩) params asg bod K X Kr T H n D =
   aY P c g (first++(.func (.yield (n+1)) #[] #[])::cap) ((H.set n (some .deferred)).set (n+1) (some (.loop .ready none f T (ntm P f) params asg bod n))) (n+2) fun _ H n'=>fin K X Kr (qZ (n+1) { T:=T,H,n:=n',D:=n::D }):=rfl
theorem range_out{lb f N d:Nat}{T0 T:Tm}{params:Array Tmp}{asg bod:Code}{H:Hp}{n:Nat}{D:List Nat}{K:KC ρ}{X:XC ρ}{Kr:KC ρ}(h:H.get lb=some (.loop .ready none f T0 N params asg bod d)) :
  fin K X Kr (qZ lb { T:=T,H,n,D })=K T (H.set lb (some (.loop .exhausted none f T0 N params asg bod d))) n D:=by
 unfold qZ
 simp only[h]
 rfl
theorem yield_any{L lb f n1 n3 d:Nat}{T0 T1 T2 T3:Tm}{params:Array Tmp}{asg bod:Code}{args:List Value}{H H1 H3:Hp}{n:Nat}{D3:List Nat}{ex:Ex}{j:Option Code}
  (hl:H.get lb=some (.loop .ready none f T0 (ntm P f) params asg bod d)) (hpar:vw T0 (ntm P f) params.toList args=some T1)
  (hasg:(cal L).body lb f asg { T:=T1,H,n,D:=[] }=some (.norm,{ T:=T2,H:=H1,n:=n1,D:=[] })) (hl1:H1.get lb=H.get lb)
  (hbod:(cal L).body lb f bod { T:=T2,H:=H1.set lb (some (.loop .busy none f T0 (ntm P f) params asg bod d)),n:=n1,D:=[] }=some (ex,{ T:=T3,H:=H3,n:=n3,D:=D3 }))
  (hl3:H3.get lb=some (.loop .busy none f T0 (ntm P f) params asg bod d)) (hx:RW ex=some j) (k:Value→Hp→Nat→Option ρ) :
  jy P (cal L) (.func (.yield lb) #[] #[]) args H n k=k (.bool j.isNone) (H3.set lb (some (.loop (if j.isNone then .ready else .done) j f T0 (ntm P f) params asg bod d))) n3:=by
 rw[hl] at hl1
 have hrdy:BZ H1 lb=true:=by unfold BZ; rw[hl1]
 have hpen:rq H1 lb=none:=by unfold rq; rw[hl1]
 have hbusy:qv H1 lb .busy none=some (H1.set lb (some (.loop .busy none f T0 (ntm P f) params asg bod d))):=by unfold qv; rw[hl1]
 have hend:qv H3 lb (if j.isNone then .ready else .done) j=some (H3.set lb (some (.loop (if j.isNone then .ready else .done) j f T0 (ntm P f) params asg bod d))):=by unfold qv; rw[hl3]
 show stK (uv (fun | some l=>(cal L).body l | none=>fun _ _ _=>none) P lb args (bare H n)) k=_
 have hy:uv (fun | some l=>(cal L).body l | none=>fun _ _ _=>none) P lb args (bare H n)=some (.bool j.isNone,{ bare H n with H:=H3.set lb (some (.loop (if j.isNone then .ready else .done) j f T0 (ntm P f) params asg bod d)),n:=n3 }):=by
  unfold uv
  have hb:Nat.beq (ntm P f) (ntm P f)=true:=Nat.beq_refl _
  simp only[bare,hl,hb,hpar,hasg,hrdy,hpen,hbusy,hbod,hx,hend]
 rw[hy]
 rfl
end Go.Proofs.Ytndkmmelelchcaa.spec
end
section
namespace Go.Ev
open Go
variable {P:Program} {t:TypeId} {x y:Operand} {a b:Int} {ρ:Type}
end Go.Ev
end
section
namespace Go.Ev
open Go
variable {P:Program} {t:TypeId} {x y:Operand} {a:Int} {ρ:Type}
end Go.Ev
end
section
namespace Go.Ev
open Go
variable {P:Program} {t t2 e e2:TypeId} {ρ:Type}
end Go.Ev
end
section
namespace Go.Ev
open Go
variable {P:Program}
theorem gK{α β:Type}(f:α→Sem β):∀ m:Sem α,cV P (m >>= f)=match cV P m with
  | some a=>cV P (f a)
  | none=>none
 | .pure _=>rfl
 | .load ..=>rfl
 | .store ..=>rfl
 | .new ..=>rfl
 | .shape ..=>rfl
 | .freeze ..=>rfl
 | .frozen ..=>rfl
 | .getObj ..=>rfl
 | .setObj ..=>rfl
 | .choose ..=>rfl
 | .sys ..=>rfl
 | .program k=>gK f (k P)
 | .mark _ k=>gK f k
 | .halt _=>rfl
theorem BK{α:Type}(a:α):cV P (pure a)=some a:=rfl
theorem sp_program:cV P program=some P:=rfl
theorem MV{t:TypeId}{d:TypeDesc}(e:P.underlying t=some d):cV P (underlying t)=some d:=by
 unfold underlying
 rw[gK,sp_program]
 show cV P (match P.underlying t with | some d => pure d | none => stuck "no such type") = some d
 rw[e]
 rfl
theorem sp_isAgg{t:TypeId}{b:Bool}(e:eZ P t=some b):cV P (isAgg t)=some b:=by
 unfold eZ at e
 unfold isAgg
 rw[gK]
 split at e
 ·rename_i fs h; cases e; rw[MV h]; rfl
 ·rename_i x y h; cases e; rw[MV h]; rfl
 ·rename_i d h1 h2 h
  cases e
  rw[MV h]
  cases d <;> first | rfl | exact absurd rfl (h1 _) | exact absurd rfl (h2 _ _)
 ·cases e
theorem sp_part{t:TypeId}{cs:List Value}{i:Nat}{v:Value}(e:eZ P t=some false)(h:cs[i]?=some v):cV P (part t ⟨cs⟩ i)=some v:=by
 unfold part
 rw[gK,sp_isAgg e]
 simp [h,BK]
theorem sp_equal_int{d:Nat}{t:TypeId}{k k':IntKind}{a b:Int}(h:P.underlying t=some (.int k')):cV P (Op.equalIn (d+1) t (.int k a) (.int k b))=some (a == b):=by
 unfold Op.equalIn
 rw[gK,MV h]
 simp [BK]
theorem sp_equal_struct(d:Nat)(t:TypeId)(xs ys:Array Value){fs:Array Field}(ht:P.underlying t=some (.struct fs))(hp:P.stoodInHeld t=false) :
  cV P (Op.equalIn (d+1) t (.agg xs) (.agg ys))=cV P (Op.eqFields d xs ys fs.toList):=by
 unfold Op.equalIn
 rw[gK,MV ht]
 simp only[gK,sp_program,hp,Bool.false_eq_true,if_false]
 rw[← Array.forIn_toList]
 generalize fs.toList=fs
 clear ht
 induction fs with
 | nil=>rfl
 | cons f fs ih=>
  by_cases hn : f.name ≠ "_"
  ·simp only[List.forIn_cons,Op.eqFields,gK,hn,ne_eq,not_false_eq_true,if_true]
   cases cV P (part f.type xs f.offset) with
   | none=>rfl
   | some a=>
    simp only
    cases cV P (part f.type ys f.offset) with
    | none=>rfl
    | some b=>
     simp only
     cases cV P (Op.equalIn d f.type a b) with
     | none=>rfl
     | some r=>
      cases r
      ·simp [BK]
      ·simp only[Bool.not_true,Bool.false_eq_true,if_false,BK]
       exact ih
  ·simp only[List.forIn_cons,Op.eqFields,gK,hn,if_false,BK]
   exact ih
theorem sp_eqFields{xs ys:List Value}(d:Nat):∀ {fs:List Field} {i:Nat} {l l':List Value} {r:Bool},yW P fs i=true→xs.drop i=l→ys.drop i=l'→fs.length=l.length→mJ l l'=some r →
  cV P (Op.eqFields (d+1) ⟨xs⟩ ⟨ys⟩ fs)=some r
 | [],i,l,l',r,_,_,_,hl,he=>by
  cases l with
  | cons z zs=>simp at hl
  | nil=>cases l' with
   | nil=>simp [mJ] at he; simp [Op.eqFields,he,BK]
   | cons z zs=>simp [mJ] at he
 | f::fs,i,l,l',r,hf,hx,hy,hlen,he=>by
  simp only[yW] at hf
  split at hf
  ·rename_i k hn hu ha
   simp only[Bool.and_eq_true,bne_iff_ne,ne_eq,Nat.beq_eq] at hn
   obtain⟨hn,rfl⟩:=hn
   match l,l',he with
   | [],_,_=>simp at hlen
   | .int k1 a::l,.int k2 b::l',he=>
    have gx:xs[f.offset]?=some (.int k1 a):=by
     have:=congrArg (fun z=>z[0]?) hx; simpa using this
    have gy:ys[f.offset]?=some (.int k2 b):=by
     have:=congrArg (fun z=>z[0]?) hy; simpa using this
    have px:=sp_part ha gx
    have py:=sp_part ha gy
    have dx:xs.drop (f.offset+1)=l:=by rw[← List.drop_drop,hx]; rfl
    have dy:ys.drop (f.offset+1)=l':=by rw[← List.drop_drop,hy]; rfl
    simp only[mJ] at he
    split at he
    ·rename_i h1 h2
     have h1:=of_decide_eq_true h1
     have h2:=of_decide_eq_true h2
     subst h1; subst h2
     have ih:=sp_eqFields d hf dx dy (by simpa using hlen) he
     simp only[Op.eqFields,hn,ne_eq,not_false_eq_true,if_true,gK,px,py,sp_equal_int hu,beq_self_eq_true,Bool.not_true,Bool.false_eq_true,if_false,ih]
    ·rename_i h1 h2
     have h1:=of_decide_eq_true h1
     have h2:=of_decide_eq_false h2
     cases he
     subst h1
     simp only[Op.eqFields,hn,ne_eq,not_false_eq_true,if_true,gK,px,py,sp_equal_int hu,beq_eq_false_iff_ne.2 h2,Bool.not_false,BK]
    ·cases he
  ·cases hf
theorem sp_check{xs:List Value}(em:Bool)(d:Nat):∀ {fs:List Field} {i:Nat},yW P fs i=true→i+fs.length≤xs.length →
  cV P (forIn (m:=Sem) fs PUnit.unit fun f _=>do
   if f.name ≠ "_" then do
    Instr.checkKey em (d+1) f.type (← part f.type ⟨xs⟩ f.offset)
    pure (ForInStep.yield PUnit.unit)
   else pure (ForInStep.yield PUnit.unit))=some PUnit.unit
 | [],i,_,_=>rfl
 | f::fs,i,hf,hl=>by
  simp only[yW] at hf
  split at hf
  ·rename_i k hn hu ha
   simp only[Bool.and_eq_true,bne_iff_ne,ne_eq,Nat.beq_eq] at hn
   obtain⟨hn,rfl⟩:=hn
   simp only[List.length_cons] at hl
   have hlt:f.offset<xs.length:=by omega
   have px:=sp_part (P:=P) (cs:=xs) ha (List.getElem?_eq_getElem hlt)
   have hc:cV P (Instr.checkKey em (d+1) f.type xs[f.offset])=some ():=by
    unfold Instr.checkKey
    rw[gK,MV hu]
    rfl
   have ih:=sp_check (xs:=xs) em d hf (by omega)
   simp only[List.forIn_cons,gK,hn,ne_eq,not_false_eq_true,if_true,px,hc,BK]
   exact ih
  ·cases hf
theorem sp_checkKey{k:TypeId}{n:Nat}{x:List Value}(hn:GX P k=some n)(hl:x.length=n)(em:Bool):cV P (Instr.checkKey em 10000 k (.agg ⟨x⟩))=some ():=by
 obtain⟨fs,hu,hp,hf,hl'⟩:=Ty hn
 rw[show(10000:Nat)=9998+1+1 from rfl,Instr.checkKey]
 rw[gK,MV hu]
 show cV P (forIn (m:=Sem) fs PUnit.unit _ >>= _)=_
 rw[← Array.forIn_toList,gK]
 have:=sp_check (P:=P) (xs:=x) em 9998 hf (by omega)
 rw[this]
 rfl
theorem sp_asking{k:TypeId}{fs:Array Field}{x:List Value}(hu:P.underlying k=some (.struct fs))(hp:P.stoodInHeld k=false)(hf:yW P fs.toList 0=true)(hl:fs.toList.length=x.length) :
  ∀ {es:List MapEntry} {i:Nat} {r:Option (Nat × Value)},nw x es i=some r→cV P (Instr.findAsking k (.agg ⟨x⟩) es i)=some r
 | [],i,r,e=>by simp [nw] at e; simp [Instr.findAsking,← e,BK]
 | e0::es,i,r,e=>by
  simp only[nw] at e
  split at e
  ·rename_i l hk
   have run:∀ {b:Bool},mJ x l=some b→cV P (Op.equal k (.agg ⟨x⟩) e0.key)=some b:=by
    intro b hb
    rw[hk,Op.equal,show Op.maxDepth=9998+1+1 from rfl,sp_equal_struct (9998+1) k _ _ hu hp]
    exact sp_eqFields 9998 hf rfl rfl hl hb
   split at e
   ·rename_i hb
    cases e
    rw[Instr.findAsking,gK,run hb]
    rfl
   ·rename_i hb
    rw[Instr.findAsking,gK,run hb]
    exact sp_asking hu hp hf hl e
   ·cases e
  ·cases e
theorem sp_findKey{k:TypeId}{n:Nat}{x:List Value}{es:List MapEntry}{r:Option (Nat × Value)}(hn:GX P k=some n)(hl:x.length=n)(e:nw x es 0=some r):cV P (Instr.findKey k (.agg ⟨x⟩) es)=some r:=by
 obtain⟨fs,hu,hp,hf,hl'⟩:=Ty hn
 unfold Instr.findKey
 rw[gK,MV hu]
 cases es with
 | nil=>
  simp [nw] at e
  rw[← e]
  rfl
 | cons e0 es=>exact sp_asking hu hp hf (by omega) e
abbrev MapL:=List (List Int × Int)
def keyV(k:List Int):Value:=.agg ⟨k.map (.int .i64)⟩
def entE(x:List Int × Int)(i:Nat):MapEntry:={ key:=keyV x.1,val:=.int .i64 x.2,born:=i }
def mK:MapL→Nat→List MapEntry
 | [],_=>[]
 | x::l,i=>entE x i::mK l (i+1)
def xw(k:List Int):MapL→Nat→Option (Nat × Int)
 | [],_=>none
 | x::l,i=>if x.1=k then some (i,x.2) else xw k l (i+1)
def getF:MapL→List Int→Int
 | [],_=>0
 | x::l,k=>if x.1=k then x.2 else getF l k
def putL(k:List Int)(v:Int):MapL→MapL
 | []=>[(k,v)]
 | x::l=>if x.1=k then(k,v)::l else x::putL k v l
theorem qkv(k:List Int)(v:Int)(q:List Int):∀ l:MapL,getF (putL k v l) q=if q=k then v else getF l q
 | []=>by
  simp only[putL,getF]
  by_cases h:q=k
  ·rw[if_pos h,if_pos h.symm]
  ·rw[if_neg h,if_neg (fun e=>h e.symm)]
 | x::l=>by
  simp only[putL]
  by_cases c:x.1=k
  ·rw[if_pos c]
   simp only[getF]
   by_cases h:q=k
   ·rw[if_pos h,if_pos h.symm]
   ·rw[if_neg h,if_neg (fun e=>h e.symm),if_neg (fun e=>h (e.symm.trans c))]
  ·rw[if_neg c]
   simp only[getF]
   rw[qkv k v q l]
   by_cases h:x.1=q
   ·rw[if_pos h,if_pos h,if_neg (fun e=>c (h.trans e))]
   ·rw[if_neg h,if_neg h]
theorem keys_eq:∀ {k k':List Int},k.length=k'.length→mJ (k.map (.int .i64)) (k'.map (.int .i64))=some (decide (k=k'))
 | [],[],_=>rfl
 | a::k,b::k',h=>by
  have ih:=keys_eq (k:=k) (k':=k') (by simpa using h)
  simp only[List.map_cons,mJ,decide_true]
  by_cases c:a=b
  ·rw[decide_eq_true c]
   simp only
   rw[ih]
   simp [c]
  ·rw[decide_eq_false c]
   simp [c]
theorem JW{n:Nat}{k:List Int}(hk:k.length=n):∀ {l:MapL} {i:Nat},(∀ x ∈ l,x.1.length=n)→nw (k.map (.int .i64)) (mK l i) i=some ((xw k l i).map fun p=>(p.1,.int .i64 p.2))
 | [],i,_=>rfl
 | x::l,i,h=>by
  have hx:=h x (List.mem_cons_self ..)
  simp only[mK,nw,entE,keyV,xw]
  rw[keys_eq (by omega)]
  by_cases c:x.1=k
  ·rw[decide_eq_true c.symm,if_pos c]
   rfl
  ·rw[decide_eq_false (fun e=>c e.symm),if_neg c]
   exact JW hk (l:=l) (i:=i+1) fun y hy=>h y (List.mem_cons_of_mem _ hy)
theorem MW{k:List Int}:∀ {l:MapL} {i j:Nat} {u:Int},xw k l i=some (j,u)→u=getF l k∧i≤j∧j<i+l.length
 | [],i,j,u,h=>by cases h
 | x::l,i,j,u,h=>by
  simp only[xw] at h
  simp only[getF,List.length_cons]
  by_cases c:x.1=k
  ·rw[if_pos c] at h ⊢
   cases h
   exact⟨rfl,Nat.le_refl _,by omega⟩
  ·rw[if_neg c] at h ⊢
   obtain⟨h1,h2,h3⟩:=MW h
   exact⟨h1,by omega,by omega⟩
theorem Uw{k:List Int}:∀ {l:MapL} {i:Nat},xw k l i=none→getF l k=0
 | [],i,h=>rfl
 | x::l,i,h=>by
  simp only[xw] at h
  simp only[getF]
  by_cases c:x.1=k
  ·rw[if_pos c] at h; cases h
  ·rw[if_neg c] at h ⊢
   exact Uw h
theorem Pq{k:List Int}{v:Int}:∀ {l:MapL} {i j:Nat} {u:Int},xw k l i=some (j,u) →
  (mK l i).modify (j-i) (fun e=>{ key:=keyV k,val:=.int .i64 v,born:=e.born })=mK (putL k v l) i∧(mK l i).modify (j-i) (fun e=>{ key:=e.key,val:=.int .i64 v,born:=e.born })=mK (putL k v l) i ∧
   (mK l i).modify (j-i) (fun e=>{ key:=keyV k,val:=e.val,born:=e.born })=mK l i∧(mK l i)[j-i]?=some (entE (k,u) j)∧(putL k v l).length=l.length
 | [],i,j,u,h=>by cases h
 | x::l,i,j,u,h=>by
  simp only[xw] at h
  simp only[putL]
  by_cases c:x.1=k
  ·rw[if_pos c] at h ⊢
   cases h
   obtain⟨xk,xv⟩:=x
   have c:xk=k:=c
   subst c
   simp only[Nat.sub_self,mK]
   exact⟨rfl,rfl,rfl,rfl,rfl⟩
  ·rw[if_neg c] at h ⊢
   have hj:=MW h
   obtain⟨h1,h2,h3,h4,h5⟩:=Pq (v:=v) h
   have e:j-i=(j-(i+1))+1:=by omega
   rw[e]
   simp only[mK,List.modify_succ_cons,List.getElem?_cons_succ,h1,h2,h3,h4,List.length_cons,h5]
   exact⟨trivial,trivial,trivial,trivial,trivial⟩
theorem put_new{k:List Int}{v:Int}:∀ {l:MapL} {i:Nat},xw k l i=none→mK l i++[{ key:=keyV k,val:=.int .i64 v,born:=i+l.length }]=mK (putL k v l) i∧(putL k v l).length=l.length+1∧xw k (putL k v l) i=some (i+l.length,v)
 | [],i,_=>by
  refine⟨rfl,rfl,?_⟩
  simp only[putL,xw,if_true]
  rfl
 | x::l,i,h=>by
  simp only[xw] at h
  by_cases c:x.1=k
  ·rw[if_pos c] at h; cases h
  ·rw[if_neg c] at h
   obtain⟨h1,h2,h3⟩:=put_new (v:=v) h
   have e:i+(x::l).length=i+1+l.length:=by simp only[List.length_cons]; omega
   refine⟨?_,?_,?_⟩
   ·simp only[putL,if_neg c,mK,List.cons_append]
    rw[e,h1]
   ·simp only[putL,if_neg c,List.length_cons,h2]
   ·simp only[putL,if_neg c,xw]
    rw[e,h3]
theorem Ux{n:Nat}{k:List Int}{v:Int}(hk:k.length=n):∀ {l:MapL},(∀ x ∈ l,x.1.length=n)→∀ x ∈ putL k v l,x.1.length=n
 | [],_,x,hx=>by
  simp only[putL,List.mem_singleton] at hx
  rw[hx]; exact hk
 | y::l,h,x,hx=>by
  simp only[putL] at hx
  by_cases c:y.1=k
  ·rw[if_pos c] at hx
   rcases List.mem_cons.1 hx with e | e
   ·rw[e]; exact hk
   ·exact h x (List.mem_cons_of_mem _ e)
  ·rw[if_neg c] at hx
   rcases List.mem_cons.1 hx with e | e
   ·rw[e]; exact h y (List.mem_cons_self ..)
   ·exact Ux hk (fun z hz=>h z (List.mem_cons_of_mem _ hz)) x e
theorem same_bits(k:List Int):Instr.sameBits 10000 (keyV k) (keyV k)=true:=by
 have each:∀ v:Int,Instr.sameBits 9999 (.int .i64 v) (.int .i64 v)=true:=fun v=>by
  show Instr.sameBits (9998+1) (.int .i64 v) (.int .i64 v)=true
  unfold Instr.sameBits
  simp
 show Instr.sameBits (9999+1) (keyV k) (keyV k)=true
 unfold keyV
 rw[Instr.sameBits]
 simp only[beq_self_eq_true,Bool.true_and]
 rw[List.all_eq_true]
 intro p hp
 have:∀ {l:List Value} {p:Value × Value},p ∈ l.zip l→p.1=p.2∧p.1 ∈ l:=fun {l} {p} h=>by
  induction l with
  | nil=>cases h
  | cons a l ih=>
   rw[List.zip_cons_cons] at h
   rcases List.mem_cons.1 h with e | e
   ·rw[e]; exact⟨rfl,List.mem_cons_self ..⟩
   ·exact⟨(ih e).1,List.mem_cons_of_mem _ (ih e).2⟩
 obtain⟨h1,h2⟩:=this hp
 obtain⟨v,_,hv⟩:=List.mem_map.1 h2
 rw[← h1,← hv]
 exact each v
theorem sp_stays(k:List Int):cV P (Instr.keyThatStays (keyV k) (keyV k))=some (keyV k):=by
 unfold Instr.keyThatStays
 rw[if_pos (same_bits k)]
 rfl
structure MapAt (H:Hp) (r n:Nat) (l:MapL):Prop where
 block:H.get r=some (.map (mK l 0) l.length)
 keys:∀ x ∈ l,x.1.length=n
theorem Uy(k:List Int):bx (keyV k)=true:=by
 have:∀ k:List Int,bK (k.map (.int .i64))=true:=fun k=>by
  induction k with
  | nil=>rfl
  | cons a k ih=>exact ih
 exact this k
section
variable {t key elem:TypeId} {n:Nat} {H:Hp} {r:Nat} {l:MapL} {k:List Int}
theorem map_get(ht:SK P t=some (key,elem))(hf:GX P key=some n)(hz:iV P elem=some (.int .i64 0))(h:MapAt H r n l)(hk:k.length=n):kw P H t (.map (some r)) (keyV k) false=some (.int .i64 (getF l k)):=by
 unfold kw Zx
 rw[ht]
 simp only[h.block,Uy]
 unfold qaw NK
 show(match (match GX P key with | some n=>(match Nat.beq (k.map (Value.int .i64)).length n with | true=>nw (k.map (.int .i64)) (mK l 0) 0 | false=>none) | none=>none) with | some r=>Tj P elem false r | none=>_)=_
 rw[hf]
 have:Nat.beq (k.map (Value.int .i64)).length n=true:=by rw[List.length_map,hk]; exact Nat.beq_refl n
 simp only[this,JW hk h.keys]
 cases c:xw k l 0 with
 | none=>
  rw[Uw c]
  show Tj P elem false none=_
  unfold Tj
  rw[hz]
  rfl
 | some p=>
  obtain⟨j,u⟩:=p
  rw[← (MW c).1]
  rfl
theorem map_put{v:Int}(ht:SK P t=some (key,elem))(hf:GX P key=some n)(h:MapAt H r n l)(hk:k.length=n) :
  ∃ H',Aw P t (.map (some r)) (keyV k) (.int .i64 v) H=some H'∧MapAt H' r n (putL k v l)∧∀ b,b≠r→H'.get b=H.get b:=by
 have hq:=sp_findKey (P:=P) (x:=k.map (.int .i64)) (es:=mK l 0) hf (by rw[List.length_map,hk]) (JW hk h.keys)
 have hc:=sp_checkKey (P:=P) (x:=k.map (.int .i64)) hf (by rw[List.length_map,hk]) false
 have key':cV P (updS key (mK l 0) l.length (keyV k) (.int .i64 v))=some (mK (putL k v l) 0,(putL k v l).length):=by
  unfold updS
  rw[gK,show keyV k=.agg ⟨k.map (.int .i64)⟩ from rfl,hc]
  simp only
  rw[gK,hq]
  cases c:xw k l 0 with
  | none=>
   obtain⟨h1,h2,_⟩:=put_new (v:=v) c
   rw[← h1,h2,Nat.zero_add]
   rfl
  | some p=>
   obtain⟨j,u⟩:=p
   obtain⟨h1,_,_,h4,h5⟩:=Pq (v:=v) c
   rw[Nat.sub_zero] at h1 h4
   simp only[Option.map_some]
   rw[gK,h4]
   simp only[Option.map_some,Option.getD_some]
   have hst:cV P (Instr.keyThatStays (entE (k,u) j).key (.agg ⟨k.map (.int .i64)⟩))=some (keyV k):=sp_stays k
   rw[hst]
   rw[← h1,h5]
   rfl
 refine⟨H.set r (some (.map (mK (putL k v l) 0) (putL k v l).length)),?_,⟨?_,Ux hk h.keys⟩,?_⟩
 ·unfold Aw
  rw[ht]
  simp only[h.block]
  rw[show(bx (keyV k) && bx (.int .i64 v))=true by rw[Uy]; rfl]
  simp only[key']
 ·rw[Tr.get_set,if_pos rfl]
 ·intro b hb
  rw[Tr.get_set,if_neg hb]
theorem map_entry(ht:SK P t=some (key,elem))(hf:GX P key=some n)(hz:cV P (zeroValue elem)=some (.int .i64 0))(h:MapAt H r n l)(hk:k.length=n) :
  ∃(j:Nat) (l':MapL) (H':Hp),BY P t (.map (some r)) (keyV k) H=some (.tuple ⟨[.int .i64 (getF l k),.int .i64 j]⟩,H')∧MapAt H' r n l'∧(∀ q,getF l' q=getF l q)∧xw k l' 0=some (j,getF l k)∧∀ b,b≠r→H'.get b=H.get b:=by
 have hq:=sp_findKey (P:=P) (x:=k.map (.int .i64)) (es:=mK l 0) hf (by rw[List.length_map,hk]) (JW hk h.keys)
 have hc:=sp_checkKey (P:=P) (x:=k.map (.int .i64)) hf (by rw[List.length_map,hk]) false
 cases c:xw k l 0 with
 | none=>
  obtain⟨h1,h2,h3⟩:=put_new (v:=0) c
  rw[Nat.zero_add] at h1 h3
  have e:cV P (entS key elem (mK l 0) l.length (keyV k))=some (.tuple #[.int .i64 0,goInt l.length],mK (putL k 0 l) 0,(putL k 0 l).length):=by
   unfold entS
   rw[gK,show keyV k=.agg ⟨k.map (.int .i64)⟩ from rfl,hc]
   simp only
   rw[gK,hq,c]
   simp only[Option.map_none]
   rw[gK,hz,← h1,h2]
   rfl
  refine⟨l.length,putL k 0 l,H.set r (some (.map (mK (putL k 0 l) 0) (putL k 0 l).length)),?_,⟨?_,Ux hk h.keys⟩,fun q=>?_,?_,fun b hb=>?_⟩
  ·unfold BY
   rw[ht]
   simp only[h.block,Uy,e]
   rw[Uw c]
   rfl
  ·rw[Tr.get_set,if_pos rfl]
  ·rw[qkv]
   split
   ·rename_i hqk; rw[hqk,Uw c]
   ·rfl
  ·rw[h3,Uw c]
  ·rw[Tr.get_set,if_neg hb]
 | some p=>
  obtain⟨j,u⟩:=p
  obtain⟨_,_,h3,h4,_⟩:=Pq (v:=0) c
  rw[Nat.sub_zero] at h3 h4
  have hu:=(MW c).1
  have e:cV P (entS key elem (mK l 0) l.length (keyV k))=some (.tuple #[.int .i64 u,goInt j],mK l 0,l.length):=by
   unfold entS
   rw[gK,show keyV k=.agg ⟨k.map (.int .i64)⟩ from rfl,hc]
   simp only
   rw[gK,hq,c]
   simp only[Option.map_some]
   rw[gK,h4]
   simp only[Option.map_some,Option.getD_some]
   have hst:cV P (Instr.keyThatStays (entE (k,u) j).key (.agg ⟨k.map (.int .i64)⟩))=some (keyV k):=sp_stays k
   rw[hst]
   show some (_,(mK l 0).modify j (fun e=>{ key:=keyV k,val:=e.val,born:=e.born }),_)=_
   rw[h3]
   rfl
  refine⟨j,l,H.set r (some (.map (mK l 0) l.length)),?_,⟨?_,h.keys⟩,fun q=>rfl,by rw[c,hu],fun b hb=>?_⟩
  ·unfold BY
   rw[ht]
   simp only[h.block,Uy,e]
   rw[← hu]
   rfl
  ·rw[Tr.get_set,if_pos rfl]
  ·rw[Tr.get_set,if_neg hb]
theorem born_at:∀ {l:MapL} {i j:Nat},i≤j→j<i+l.length→(mK l i).findIdx? (fun e=>(e.born:Int) == (j:Int))=some (j-i)
 | [],i,j,h1,h2=>by simp at h2; omega
 | x::l,i,j,h1,h2=>by
  simp only[mK,List.findIdx?_cons]
  by_cases c:i=j
  ·subst c
   simp [entE]
  ·have:((entE x i).born:Int)≠(j:Int):=fun e=>c (by have:(i:Int)=j:=e; omega)
   rw[beq_eq_false_iff_ne.2 this]
   simp only[List.length_cons] at h2
   rw[born_at (l:=l) (i:=i+1) (j:=j) (by omega) (by omega)]
   simp only[Option.map_some]
   congr 1
   simp only[Bool.false_eq_true,if_false]
   congr 1
   omega
theorem map_store{j:Nat}{u v:Int}(h:MapAt H r n l)(hk:k.length=n)(hj:xw k l 0=some (j,u)) :
  ∃ H',Ly (.map (some r)) (.int .i64 j) (.int .i64 v) H=some H'∧MapAt H' r n (putL k v l)∧∀ b,b≠r→H'.get b=H.get b:=by
 obtain⟨_,h1,_,_,h5⟩:=Pq (v:=v) hj
 have hb:=MW hj
 have e:=born_at (l:=l) (i:=0) (j:=j) (by omega) (by omega)
 rw[Nat.sub_zero] at e h1
 refine⟨H.set r (some (.map (mK (putL k v l) 0) (putL k v l).length)),?_,⟨?_,Ux hk h.keys⟩,fun b hb=>?_⟩
 ·unfold Ly
  simp only[h.block]
  rw[show bx (.int .i64 v)=true from rfl]
  simp only[e]
  rw[← h1,h5]
 ·rw[Tr.get_set,if_pos rfl]
 ·rw[Tr.get_set,if_neg hb]
end
end Go.Ev
end
section
namespace Go.Proofs.Ytndkmmelelchcaa.spec
open Go Go.Ev Go.Proofs.Ytndkmmelelchcaa.nestFits Go.Proofs.Ytndkmmelelchcaa.G
set_option maxRecDepth 100000
theorem cQ(f g:Nat→Int):∀ n:Nat,ak (fun i=>f i+g i) n=ak f n+ak g n
 | 0=>rfl
 | n+1=>by
  simp only[ak]
  rw[cQ f g n]
  omega
theorem jW(n:Nat):ak (fun _=>0) n=0:=by
 rw[nJ (i:=0) (by omega) (fun _ _ _=>rfl)]
 rfl
theorem Pv(f:Nat→Int):∀ n:Nat,ak (fun i=>- f i) n=- ak f n
 | 0=>rfl
 | n+1=>by
  simp only[ak]
  rw[Pv f n]
  omega
theorem DJ(f:Nat→Nat→Int)(m:Nat):∀ n:Nat,ak (fun u=>ak (f u) m) n=ak (fun v=>ak (fun u=>f u v) n) m
 | 0=>by
  simp only[ak]
  exact(jW m).symm
 | n+1=>by
  simp only[ak]
  rw[DJ f m n,cQ]
theorem wW{f:Nat→Int}{s:Nat}:∀ {n:Nat},s<n→(∀ i,i<n→i≠s→f i=0)→ak f n=f s
 | 0,h,_=>by omega
 | n+1,h,hz=>by
  simp only[ak]
  by_cases e:s=n
  ·subst e
   rw[nJ (i:=0) (by omega) (fun i _ hi=>hz i (by omega) (by omega))]
   show(0:Int)+f s=f s
   omega
  ·rw[wW (s:=s) (by omega) (fun i hi h2=>hz i (by omega) h2),hz n (by omega) (fun q=>e q.symm)]
   omega
structure Flow (N s t:Nat) (f:Nat→Nat→Int):Prop where
 anti:∀ u v,u<N→v<N→f u v=- f v u
 keep:∀ u,u<N→u≠s→u≠t→ak (f u) N=0
noncomputable def over(N:Nat)(R:Nat→Bool)(f:Nat→Nat→Int):Int:=ak (fun u=>ak (fun v=>if R u=true∧R v=false then f u v else 0) N) N
theorem inside_zero{N:Nat}{R:Nat→Bool}{f:Nat→Nat→Int}(h:∀ u v,u<N→v<N→f u v=- f v u):ak (fun u=>ak (fun v=>if R u=true∧R v=true then f u v else 0) N) N=0:=by
 have e:ak (fun u=>ak (fun v=>if R u=true∧R v=true then f u v else 0) N) N=- ak (fun u=>ak (fun v=>if R u=true∧R v=true then f u v else 0) N) N:=by
  refine(DJ (fun u v=>if R u=true∧R v=true then f u v else 0) N N).trans ?_
  rw[← Pv]
  refine bz fun v hv=>?_
  rw[← Pv]
  refine bz fun u hu=>?_
  show(if R u=true∧R v=true then f u v else 0)=- (if R v=true∧R u=true then f v u else 0)
  by_cases c:R u=true∧R v=true
  ·rw[if_pos c,if_pos ⟨c.2,c.1⟩,h u v hu hv]
  ·rw[if_neg c,if_neg (fun q=>c ⟨q.2,q.1⟩)]
   rfl
 omega
theorem Flow.worth{N s t:Nat}{R:Nat→Bool}{f:Nat→Nat→Int}(h:Flow N s t f)(hs:s<N)(Rs:R s=true)(Rt:R t=false):ak (f s) N=over N R f:=by
 have e:ak (fun u=>if R u=true then ak (f u) N else 0) N=ak (f s) N:=by
  rw[wW (s:=s) hs fun u hu hus=>?_,if_pos Rs]
  by_cases c:R u=true
  ·rw[if_pos c]
   exact h.keep u hu hus (fun q=>by rw[q,Rt] at c; cases c)
  ·rw[if_neg c]
 have z:=inside_zero (R:=R) h.anti
 rw[← e]
 unfold over
 have split:ak (fun u=>if R u=true then ak (f u) N else 0) N =
   ak (fun u=>ak (fun v=>if R u=true∧R v=true then f u v else 0) N) N+ak (fun u=>ak (fun v=>if R u=true∧R v=false then f u v else 0) N) N:=by
  rw[← cQ]
  refine bz fun u _=>?_
  show(if R u=true then ak (f u) N else 0)=ak (fun v=>if R u=true∧R v=true then f u v else 0) N+ak (fun v=>if R u=true∧R v=false then f u v else 0) N
  rw[← cQ]
  by_cases c:R u=true
  ·rw[if_pos c]
   refine bz fun v _=>?_
   cases d:R v with
   | true=>rw[if_pos ⟨c,rfl⟩,if_neg (fun q=>by cases q.2)]; omega
   | false=>rw[if_neg (fun q=>by cases q.2),if_pos ⟨c,rfl⟩]; omega
  ·rw[if_neg c]
   have:ak (fun _=>(0:Int)) N=ak (fun v=>(if R u=true∧R v=true then f u v else 0)+(if R u=true∧R v=false then f u v else 0)) N:=bz fun v _=>by
    rw[if_neg (fun q=>c q.1),if_neg (fun q=>c q.1)]
    rfl
   rw[← this,jW]
 rw[split,z]
 omega
abbrev Net:=Nat→Nat→Int
def uK(n:Net)(u v:Nat)(x:Int):Net:=fun a b=>if a=u∧b=v then n a b-x else if a=v∧b=u then n a b+x else n a b
def seeN(seen:Nat→Bool)(u:Nat):Nat→Bool:=fun a=>if a=u then true else seen a
structure Went where
 sent:Int
 seen:Nat→Bool
 net:Net
def xx(rec:Nat→Int→(Nat→Bool)→Net→Went)(N node:Nat)(young:Int):Nat→(Nat→Bool)→Net→Went
 | 0,seen,n=>⟨0,seen,n⟩
 | k+1,seen,n=>
  if n node (N-(k+1))=0∨seen (N-(k+1))=true then xx rec N node young k seen n
  else if 0<(rec (N-(k+1)) (min young (n node (N-(k+1)))) seen n).sent then⟨(rec (N-(k+1)) (min young (n node (N-(k+1)))) seen n).sent,(rec (N-(k+1)) (min young (n node (N-(k+1)))) seen n).seen,uK (rec (N-(k+1)) (min young (n node (N-(k+1)))) seen n).net node (N-(k+1)) (rec (N-(k+1)) (min young (n node (N-(k+1)))) seen n).sent⟩
  else xx rec N node young k (rec (N-(k+1)) (min young (n node (N-(k+1)))) seen n).seen (rec (N-(k+1)) (min young (n node (N-(k+1)))) seen n).net
def dQ(N t:Nat):Nat→Nat→Int→(Nat→Bool)→Net→Went
 | 0,_,_,seen,n=>⟨0,seen,n⟩
 | d+1,node,young,seen,n=>if node=t then⟨young,seen,n⟩ else xx (dQ N t d) N node young N (seeN seen node) n
def uz(N:Nat)(seen:Nat→Bool):Nat:=((List.range N).filter fun u=>!seen u).length
theorem MX{N u:Nat}{seen:Nat→Bool}(hu:u<N)(h:seen u=false):uz N (seeN seen u)<uz N seen:=by
 unfold uz
 have sub:((List.range N).filter fun a=>!seeN seen u a)=((List.range N).filter fun a=>!seen a).filter fun a=>!(a == u):=by
  rw[List.filter_filter]
  refine List.filter_congr fun a _=>?_
  unfold seeN
  by_cases e:a=u
  ·simp [e]
  ·simp [e]
 rw[sub]
 refine List.length_filter_lt_length_iff_exists.2 ⟨u,List.mem_filter.2 ⟨List.mem_range.2 hu,by simp [h]⟩,by simp⟩
theorem Xj{N:Nat}{seen seen':Nat→Bool}(h:∀ u,seen u=true→seen' u=true):uz N seen'≤uz N seen:=by
 unfold uz
 refine List.Sublist.length_le ?_
 have:((List.range N).filter fun u=>!seen' u)=((List.range N).filter fun u=>!seen u).filter fun u=>!seen' u:=by
  rw[List.filter_filter]
  refine List.filter_congr fun a _=>?_
  cases c:seen a with
  | true=>rw[h a c]; rfl
  | false=>simp
 rw[this]
 exact List.filter_sublist
structure Shut (N t:Nat) (node:Nat) (seen:Nat→Bool) (n:Net) (r:Went):Prop where
 net:r.net=n
 more:∀ u,seen u=true→r.seen u=true
 own:r.seen node=true
 shut:∀ u,r.seen u=true→seen u=false→u≠t∧∀ v,v<N→n u v≠0→r.seen v=true
theorem By{N t:Nat}:∀ {d node:Nat} {young:Int} {seen:Nat→Bool} {n:Net},uz N seen<d→node<N→(node≠t→seen node=false)→0<young→(∀ u v,0≤n u v)→(dQ N t d node young seen n).sent≤0→Shut N t node seen n (dQ N t d node young seen n)
 | 0,node,young,seen,n,hd,hn,hs,hy,h0,_=>by omega
 | d+1,node,young,seen,n,hd,hn,hs,hy,h0,hle=>by
  unfold dQ at hle ⊢
  by_cases e:node=t
  ·rw[if_pos e] at hle
   have:young≤0:=hle
   omega
  ·rw[if_neg e] at hle ⊢
   have us:=MX hn (hs e)
   have go:∀(k:Nat) (seen1:Nat→Bool),k≤N→(∀ u,seeN seen node u=true→seen1 u=true)→(∀ u,seen1 u=true→seeN seen node u=false→u≠t∧∀ v,v<N→n u v≠0→seen1 v=true)→(∀ v,v<N-k→n node v≠0→seen1 v=true) →
     (xx (dQ N t d) N node young k seen1 n).sent≤0→Shut N t node seen n (xx (dQ N t d) N node young k seen1 n):=by
    intro k
    induction k with
    | zero=>
     intro seen1 _ h1 h2 h3 _
     refine⟨rfl,fun u hu=>h1 u (by unfold seeN; split <;> simp_all),h1 node (by unfold seeN; simp),fun u hu hu0=>?_⟩
     by_cases q:u=node
     ·subst q
      exact⟨e,fun v hv hz=>h3 v (by omega) hz⟩
     ·exact h2 u hu (by unfold seeN; rw[if_neg q]; exact hu0)
    | succ k ih=>
     intro seen1 hk h1 h2 h3 hle
     unfold xx at hle ⊢
     by_cases c:n node (N-(k+1))=0∨seen1 (N-(k+1))=true
     ·rw[if_pos c] at hle ⊢
      refine ih seen1 (by omega) h1 h2 (fun v hv hz=>?_) hle
      by_cases q:v=N-(k+1)
      ·subst q
       rcases c with c | c
       ·exact absurd c hz
       ·exact c
      ·exact h3 v (by omega) hz
     ·rw[if_neg c] at hle ⊢
      have c1:n node (N-(k+1))≠0:=fun q=>c (.inl q)
      have c2:seen1 (N-(k+1))=false:=by
       cases q:seen1 (N-(k+1)) with
       | true=>exact absurd (.inr q) c
       | false=>rfl
      by_cases s:0<(dQ N t d (N-(k+1)) (min young (n node (N-(k+1)))) seen1 n).sent
      ·rw[if_pos s] at hle
       have:(dQ N t d (N-(k+1)) (min young (n node (N-(k+1)))) seen1 n).sent≤0:=hle
       omega
      ·rw[if_neg s] at hle ⊢
       have ul:=Xj (N:=N) h1
       have hpos:=h0 node (N-(k+1))
       have r:=By (N:=N) (t:=t) (d:=d) (node:=N-(k+1)) (young:=min young (n node (N-(k+1)))) (seen:=seen1) (n:=n) (by omega) (by omega) (fun _=>c2) (by omega) h0 (by omega)
       rw[r.net] at hle ⊢
       refine ih _ (by omega) (fun u hu=>r.more u (h1 u hu)) (fun u hu hu0=>?_) (fun v hv hz=>?_) hle
       ·cases q:seen1 u with
        | true=>
         obtain⟨a,b⟩:=h2 u q hu0
         exact⟨a,fun v hv hz=>r.more v (b v hv hz)⟩
        | false=>exact r.shut u hu q
       ·by_cases q:v=N-(k+1)
        ·subst q; exact r.own
        ·exact r.more v (h3 v (by omega) hz)
   refine go N (seeN seen node) (Nat.le_refl _) (fun _ h=>h) (fun u h1 h2=>by rw[h1] at h2; cases h2) (fun v hv=>by omega) hle
structure Sends (N t node:Nat) (young:Int) (seen:Nat→Bool) (n:Net) (r:Went):Prop where
 pos:0<r.sent
 le:r.sent≤young
 ge:∀ u v,0≤r.net u v
 anti:∀ u v,n u v-r.net u v=-(n v u-r.net v u)
 same:∀ u,seen u=true→∀ v,r.net u v=n u v∧r.net v u=n v u
 keep:∀ u,u<N→ak (fun v=>n u v-r.net u v) N=(if u=node then r.sent else 0)-(if u=t then r.sent else 0)
 up:∀ v,n t v≤r.net t v
theorem move_sum{N u w:Nat}{x:Int}{m:Net}(hu:u<N)(hw:w<N)(h:u≠w)(a:Nat):ak (fun v=>m a v-uK m u w x a v) N=(if a=u then x else 0)-(if a=w then x else 0):=by
 by_cases c1:a=u
 ·subst c1
  rw[if_pos rfl,if_neg h,wW (s:=w) hw fun i _ hi=>by
   unfold uK
   rw[if_neg (fun q=>hi q.2),if_neg (fun q=>h q.1)]
   omega]
  unfold uK
  rw[if_pos ⟨rfl,rfl⟩]
  omega
 ·by_cases c2:a=w
  ·subst c2
   rw[if_neg c1,if_pos rfl,wW (s:=u) hu fun i _ hi=>by
    unfold uK
    rw[if_neg (fun q=>c1 q.1),if_neg (fun q=>hi q.2)]
    omega]
   unfold uK
   rw[if_neg (fun q=>c1 q.1),if_pos ⟨rfl,rfl⟩]
   omega
  ·rw[if_neg c1,if_neg c2]
   have:ak (fun v=>m a v-uK m u w x a v) N=ak (fun _=>0) N:=bz fun v _=>by
    unfold uK
    rw[if_neg (fun q=>c1 q.1),if_neg (fun q=>c2 q.1)]
    omega
   rw[this,jW]
   rfl
theorem Cj{N t:Nat}:∀ {d node:Nat} {young:Int} {seen:Nat→Bool} {n:Net},uz N seen<d→node<N→(node≠t→seen node=false)→0<young→(∀ u v,0≤n u v)→0<(dQ N t d node young seen n).sent→Sends N t node young seen n (dQ N t d node young seen n)
 | 0,node,young,seen,n,hd,hn,hs,hy,h0,_=>by omega
 | d+1,node,young,seen,n,hd,hn,hs,hy,h0,hlt=>by
  unfold dQ at hlt ⊢
  by_cases e:node=t
  ·rw[if_pos e]
   refine⟨hy,Int.le_refl _,h0,fun u v=>by show n u v-n u v=-(n v u-n v u); omega,fun u _ v=>⟨rfl,rfl⟩,fun u _=>?_,fun v=>Int.le_refl _⟩
   have:ak (fun v=>n u v-n u v) N=ak (fun _=>0) N:=bz fun v _=>by omega
   show ak (fun v=>n u v-n u v) N=_
   rw[this,jW,e]
   omega
  ·rw[if_neg e] at hlt ⊢
   have us:=MX hn (hs e)
   have go:∀(k:Nat) (seen1:Nat→Bool),k≤N→(∀ u,seeN seen node u=true→seen1 u=true)→0<(xx (dQ N t d) N node young k seen1 n).sent→Sends N t node young seen n (xx (dQ N t d) N node young k seen1 n):=by
    intro k
    induction k with
    | zero=>
     intro seen1 _ _ hlt
     have:(0:Int)<0:=hlt
     omega
    | succ k ih=>
     intro seen1 hk h1 hlt
     unfold xx at hlt ⊢
     by_cases c:n node (N-(k+1))=0∨seen1 (N-(k+1))=true
     ·rw[if_pos c] at hlt ⊢
      exact ih seen1 (by omega) h1 hlt
     ·rw[if_neg c] at hlt ⊢
      have c1:n node (N-(k+1))≠0:=fun q=>c (.inl q)
      have c2:seen1 (N-(k+1))=false:=by
       cases q:seen1 (N-(k+1)) with
       | true=>exact absurd (.inr q) c
       | false=>rfl
      have ul:=Xj (N:=N) h1
      have hpos:=h0 node (N-(k+1))
      have hown:seen1 node=true:=h1 node (by unfold seeN; simp)
      have hne:node≠N-(k+1):=fun q=>by rw[← q,hown] at c2; cases c2
      by_cases s:0<(dQ N t d (N-(k+1)) (min young (n node (N-(k+1)))) seen1 n).sent
      ·rw[if_pos s]
       have r:=Cj (N:=N) (t:=t) (d:=d) (node:=N-(k+1)) (young:=min young (n node (N-(k+1)))) (seen:=seen1) (n:=n) (by omega) (by omega) (fun _=>c2) (by omega) h0 s
       generalize dQ N t d (N-(k+1)) (min young (n node (N-(k+1)))) seen1 n=w at r s
       have hw:N-(k+1)<N:=by omega
       generalize N-(k+1)=w1 at *
       have rle:=r.le
       have hm:∀ u v,uK w.net node w1 w.sent u v=if u=node∧v=w1 then w.net u v-w.sent else if u=w1∧v=node then w.net u v+w.sent else w.net u v:=fun _ _=>rfl
       refine⟨s,by show w.sent≤young; omega,fun u v=>?_,fun u v=>?_,fun u hu v=>?_,fun u hu=>?_,fun v=>?_⟩
       ·show 0≤uK w.net node w1 w.sent u v
        have g:=r.ge u v
        rw[hm]
        by_cases q1:u=node∧v=w1
        ·obtain⟨rfl,rfl⟩:=q1
         rw[if_pos ⟨rfl,rfl⟩,(r.same u hown v).1]
         omega
        ·rw[if_neg q1]
         split <;> omega
       ·show n u v-uK w.net node w1 w.sent u v=-(n v u-uK w.net node w1 w.sent v u)
        have g:=r.anti u v
        rw[hm,hm]
        by_cases q1:u=node∧v=w1
        ·have z:¬ (v=node∧u=w1):=fun q=>hne (q.1.symm.trans q1.2)
         rw[if_pos q1,if_neg z,if_pos ⟨q1.2,q1.1⟩]
         omega
        ·rw[if_neg q1]
         by_cases q2:u=w1∧v=node
         ·rw[if_pos q2,if_pos ⟨q2.2,q2.1⟩]
          omega
         ·rw[if_neg q2,if_neg (fun q=>q2 ⟨q.2,q.1⟩),if_neg (fun q=>q1 ⟨q.2,q.1⟩)]
          exact g
       ·show uK w.net node w1 w.sent u v=n u v∧uK w.net node w1 w.sent v u=n v u
        have hu1:seen1 u=true:=h1 u (by unfold seeN; split <;> simp_all)
        have n1:u≠node:=fun q=>by rw[q,hs e] at hu; cases hu
        have n2:u≠w1:=fun q=>by rw[q,c2] at hu1; cases hu1
        rw[hm,hm,if_neg (fun q=>n1 q.1),if_neg (fun q=>n2 q.1),if_neg (fun q=>n2 q.2),if_neg (fun q=>n1 q.2)]
        exact r.same u hu1 v
       ·show ak (fun v=>n u v-uK w.net node w1 w.sent u v) N=(if u=node then w.sent else 0)-(if u=t then w.sent else 0)
        have k1:=r.keep u hu
        have k2:=move_sum (x:=w.sent) (m:=w.net) hn hw hne u
        have:ak (fun v=>n u v-uK w.net node w1 w.sent u v) N=ak (fun v=>(n u v-w.net u v)+(w.net u v-uK w.net node w1 w.sent u v)) N:=bz fun v _=>by omega
        rw[this,cQ,k1,k2]
        omega
       ·show n t v≤uK w.net node w1 w.sent t v
        have g:=r.up v
        rw[hm,if_neg (fun q=>e q.1.symm)]
        split <;> omega
      ·rw[if_neg s] at hlt ⊢
       have r:=By (N:=N) (t:=t) (d:=d) (node:=N-(k+1)) (young:=min young (n node (N-(k+1)))) (seen:=seen1) (n:=n) (by omega) (by omega) (fun _=>c2) (by omega) h0 (by omega)
       rw[r.net] at hlt ⊢
       exact ih _ (by omega) (fun u hu=>r.more u (h1 u hu)) hlt
   exact go N (seeN seen node) (Nat.le_refl _) (fun _ h=>h) hlt
theorem DQ(N:Nat)(seen:Nat→Bool):uz N seen<N+1:=by
 unfold uz
 have:=List.length_filter_le (fun u=>!seen u) (List.range N)
 rw[List.length_range] at this
 omega
theorem Flow.add{N s t:Nat}{f g:Nat→Nat→Int}(hf:Flow N s t f)(hg:Flow N s t g):Flow N s t (fun u v=>f u v+g u v):=by
 refine⟨fun u v hu hv=>?_,fun u hu h1 h2=>?_⟩
 ·have:=hf.anti u v hu hv
  have:=hg.anti u v hu hv
  show f u v+g u v=- (f v u+g v u)
  omega
 ·show ak (fun v=>f u v+g u v) N=0
  rw[cQ,hf.keep u hu h1 h2,hg.keep u hu h1 h2]
  rfl
theorem Sends.flow{N t node:Nat}{young:Int}{seen:Nat→Bool}{n:Net}{r:Went}(h:Sends N t node young seen n r):Flow N node t (fun u v=>n u v-r.net u v):=
 ⟨fun u v _ _=>h.anti u v,fun u hu h1 h2=>by
  have:=h.keep u hu
  rw[if_neg h1,if_neg h2] at this
  exact this⟩
def Bz(N t s:Nat)(y:Int):Nat→Net→Int × Net
 | 0,n=>(0,n)
 | k+1,n=>if(dQ N t (N+1) s y (fun _=>false) n).sent≤0 then(0,n) else((dQ N t (N+1) s y (fun _=>false) n).sent+(Bz N t s y k (dQ N t (N+1) s y (fun _=>false) n).net).1,(Bz N t s y k (dQ N t (N+1) s y (fun _=>false) n).net).2)
structure Filled (N s t:Nat) (n:Net) (x:Int) (m:Net):Prop where
 ge:∀ u v,0≤m u v
 flow:Flow N s t (fun u v=>n u v-m u v)
 worth:ak (fun v=>n s v-m s v) N=x
 cut:∃ R:Nat→Bool,R s=true∧R t=false∧∀ u v,u<N→v<N→R u=true→R v=false→m u v=0
 up:∀ v,n t v≤m t v
theorem Xq{N s t:Nat}{y:Int}(hs:s<N)(hst:s≠t)(hy:0<y):∀ {k:Nat} {n:Net},(∀ u v,0≤n u v)→ak (fun v=>n s v) N<k→Filled N s t n (Bz N t s y k n).1 (Bz N t s y k n).2
 | 0,n,h0,hk=>by
  exfalso
  have:ak (fun _=>0) N≤ak (fun v=>n s v) N:=iJ fun v _=>h0 s v
  rw[jW] at this
  omega
 | k+1,n,h0,hk=>by
  unfold Bz
  by_cases c:(dQ N t (N+1) s y (fun _=>false) n).sent≤0
  ·rw[if_pos c]
   have r:=By (N:=N) (t:=t) (d:=N+1) (node:=s) (young:=y) (seen:=fun _=>false) (n:=n) (DQ N _) hs (fun _=>rfl) hy h0 c
   generalize dQ N t (N+1) s y (fun _=>false) n=w at r
   refine⟨h0,⟨fun u v _ _=>by show n u v-n u v=-(n v u-n v u); omega,fun u _ _ _=>?_⟩,?_,⟨w.seen,r.own,?_,fun u v hu hv h1 h2=>?_⟩,fun v=>Int.le_refl _⟩
   ·have:ak (fun v=>n u v-n u v) N=ak (fun _=>0) N:=bz fun v _=>by omega
    show ak (fun v=>n u v-n u v) N=0
    rw[this,jW]
   ·have:ak (fun v=>n s v-n s v) N=ak (fun _=>0) N:=bz fun v _=>by omega
    show ak (fun v=>n s v-n s v) N=0
    rw[this,jW]
   ·cases q:w.seen t with
    | false=>rfl
    | true=>exact absurd rfl (r.shut t q rfl).1
   ·refine Classical.byContradiction fun hz=>?_
    have:=(r.shut u h1 rfl).2 v hv hz
    rw[h2] at this
    cases this
  ·rw[if_neg c]
   have r:=Cj (N:=N) (t:=t) (d:=N+1) (node:=s) (young:=y) (seen:=fun _=>false) (n:=n) (DQ N _) hs (fun _=>rfl) hy h0 (by omega)
   generalize dQ N t (N+1) s y (fun _=>false) n=w at r
   have pos:=r.pos
   have ks:=r.keep s hs
   rw[if_pos rfl,if_neg hst] at ks
   have e:ak (fun v=>n s v) N=ak (fun v=>n s v-w.net s v) N+ak (fun v=>w.net s v) N:=by
    rw[← cQ]
    exact bz fun v _=>by omega
   have q:=Xq hs hst hy (k:=k) (n:=w.net) r.ge (by omega)
   generalize Bz N t s y k w.net=z at q
   refine⟨q.ge,?_,?_,q.cut,fun v=>Int.le_trans (r.up v) (q.up v)⟩
   ·have:=r.flow.add q.flow
    have same:(fun u v=>(n u v-w.net u v)+(w.net u v-z.2 u v))=(fun u v=>n u v-z.2 u v):=by
     funext u v
     omega
    rw[same] at this
    exact this
   ·have:ak (fun v=>n s v-z.2 s v) N=ak (fun v=>(n s v-w.net s v)+(w.net s v-z.2 s v)) N:=bz fun v _=>by omega
    show ak (fun v=>n s v-z.2 s v) N=w.sent+z.1
    rw[this,cQ,ks,q.worth]
    omega
end Go.Proofs.Ytndkmmelelchcaa.spec
end
section
namespace Go.Proofs.Ytndkmmelelchcaa.spec
open Go Go.Ev Go.Proofs.Ytndkmmelelchcaa.nestFits Go.Proofs.Ytndkmmelelchcaa.G
set_option maxRecDepth 100000
variable {ρ:Type}
theorem Sz{js ks ls:List Int}{nj np nk:Nat}(hl:ls.length=np)(hok:zq js ks ls nj np nk):rZ (ez ls np) np nk:=by
 intro i hi
 rcases Nat.lt_or_ge i np with h | h
 ·rw[MJ hl h]
  rcases hok i h with q | ⟨q1,q2,_⟩
  ·exact .inl q
  ·exact .inr ⟨h,(ls.getD i 0).toNat,by omega,by omega⟩
 ·exact .inl (HJ hl h hi)
theorem limit_loads{H:Hp}{n g np p:Nat}{f:Nat→Value}{x y z:Value}{ps js X:List Int}{nj b:Nat}(hf:cj H g 859 115 f)(hs:SiteF f x y z js nj)(hx:dV H n 2 x np ps)(hp:p<np)(hnp:np≤8)(hb:H.get b=some (.cells (ints X) 109 false none))(hX:X.length=16) :
  az P H 31 ⟨g,0+0+0,none⟩=some x∧az P H 3 ⟨b,0+p * 2+0,none⟩=some (.int .i64 (X.getD (p * 2) 0))∧az P H 3 ⟨b,0+p * 2+1,none⟩=some (.int .i64 (X.getD (p * 2+1) 0)) ∧
   ∃ rb o,aV P 31 x (.int .i64 p)=some (.pointer (some ⟨rb,o,none⟩))∧az P H 3 ⟨rb,o+0,none⟩=some (.int .i64 (ps.getD (p * 2) 0))∧az P H 3 ⟨rb,o+1,none⟩=some (.int .i64 (ps.getD (p * 2+1) 0)):=by
 refine⟨?_,?_,?_,?_⟩
 ·have:=hf.load (P:=P) (k:=0) Bq (by omega)
  rw[hs.x] at this; exact this
 ·rw[show 0+p * 2+0=p * 2 by omega]; exact Fw hb (by omega)
 ·rw[show 0+p * 2+1=p * 2+1 by omega]; exact Fw hb (by omega)
 ·obtain⟨rb,o,hix,_,hc⟩:=hx.at_ Bv sz90 hp
  have hl:p * 2+2≤ps.length:=by rw[hx.1]; omega
  refine⟨rb,o+p * 2,hix,?_,?_⟩
  ·rw[show o+p * 2+0=o+(p * 2) by omega]; exact bq hc agg3 (gX (getD_some (by omega)))
  ·rw[show o+p * 2+1=o+(p * 2+1) by omega]; exact bq hc agg3 (gX (getD_some (by omega)))
theorem call68(l:Nat)(a b c:Value)(H:Hp)(n:Nat):(cal (l+1)).call 68 [a,b,c] H n=C68_0 (cal l) KK a b c H n:=by kernel_rfl
theorem call69(l:Nat)(a b c:Value)(H:Hp)(n:Nat):(cal (l+1)).call 69 [a,b,c] H n=C69_0 (cal l) KK a b c H n:=by kernel_rfl
theorem missed_call(l:Nat){H:Hp}{n g np p:Nat}{f:Nat→Value}{x y z:Value}{ps js X:List Int}{nj:Nat}(hgn:g<n)(hf:cj H g 859 115 f)(hs:SiteF f x y z js nj)(hx:dV H n 2 x np ps)(hp:p<np)(hnp:np≤8)(hX:X.length=16) :
  ∃ H' n',(∀ k:Value→Hp→Nat→Option ρ,aY P (cal (l+1)) 68 [.pointer (some ⟨g,0,none⟩),.agg ⟨ints X⟩,.int .i64 p] H n k=k (.bool (decide (X.getD (p * 2) 0<ps.getD (p * 2) 0))) H' n')∧n≤n'∧Keep n H H':=by
 have hk:Keep n H (H.set n (some (.cells (ints X) 109 false none))):=(Keep.refl n H).set (Nat.le_refl _) _
 have hb:(H.set n (some (.cells (ints X) 109 false none))).get n=some (.cells (ints X) 109 false none):=by rw[Tr.get_set,if_pos rfl]
 refine⟨H.set n (some (.cells (ints X) 109 false none)),n+1,fun k=>?_,by omega,hk⟩
 unfold aY
 have:(fX P 68 && bK [.pointer (some ⟨g,0,none⟩),.agg ⟨ints X⟩,.int .i64 p])=false:=by rw[Bool.and_eq_false_iff]; exact .inr rfl
 rw[this,call68]
 unfold C68_0 B68_0
 rw[dv]
 simp only[bv,ptr]
 obtain⟨a1,a2,a3,rb,o,a4,a5,a6⟩:=limit_loads (hf.keep hk hgn) hs ((hx.keep hk (Nat.le_refl _)).up (show n≤n+1 by omega)) hp hnp hb hX
 rw[Rj n 0 (by omega),aj,Sw,aj,aQ,aj,a2,aj,lk,aj,oK,aj,qJ,aj,aQ,aj,a1,aj,a4,aj,fa90_0,aj,aQ,aj,a5,aj,aJ dq]
 rfl
theorem over_call(l:Nat){H:Hp}{n g np p:Nat}{f:Nat→Value}{x y z:Value}{ps js X:List Int}{nj:Nat}(hgn:g<n)(hf:cj H g 859 115 f)(hs:SiteF f x y z js nj)(hx:dV H n 2 x np ps)(hp:p<np)(hnp:np≤8)(hX:X.length=16) :
  ∃ H' n',(∀ k:Value→Hp→Nat→Option ρ,aY P (cal (l+1)) 69 [.pointer (some ⟨g,0,none⟩),.agg ⟨ints X⟩,.int .i64 p] H n k=k (.bool (decide (ps.getD (p * 2+1) 0<X.getD (p * 2+1) 0))) H' n')∧n≤n'∧Keep n H H':=by
 have hk:Keep n H (H.set n (some (.cells (ints X) 109 false none))):=(Keep.refl n H).set (Nat.le_refl _) _
 have hb:(H.set n (some (.cells (ints X) 109 false none))).get n=some (.cells (ints X) 109 false none):=by rw[Tr.get_set,if_pos rfl]
 refine⟨H.set n (some (.cells (ints X) 109 false none)),n+1,fun k=>?_,by omega,hk⟩
 unfold aY
 have:(fX P 69 && bK [.pointer (some ⟨g,0,none⟩),.agg ⟨ints X⟩,.int .i64 p])=false:=by rw[Bool.and_eq_false_iff]; exact .inr rfl
 rw[this,call69]
 unfold C69_0 B69_0
 rw[dv]
 simp only[bv,ptr]
 obtain⟨a1,a2,a3,rb,o,a4,a5,a6⟩:=limit_loads (hf.keep hk hgn) hs ((hx.keep hk (Nat.le_refl _)).up (show n≤n+1 by omega)) hp hnp hb hX
 rw[Rj n 0 (by omega),aj,WQ,aj,aQ,aj,a3,aj,lk,aj,oK,aj,qJ,aj,aQ,aj,a1,aj,a4,aj,fa90_1,aj,aQ,aj,a6,aj,aJ vx]
 rfl
theorem bounds_call(l:Nat){H:Hp}{n g np nj nk:Nat}{f:Nat→Value}{js ks L:List Int}(hgn:g<n)(hf:cj H g 859 115 f)(hn:∀ p kd,p<np→kd<nk→sW f js ks nj np p kd)(hks:pj ks nk)(hnp:np≤8)(hnk:nk≤3)(hL:L.length=8)(hK:rZ L np nk) :
  ∃ X H' n',RowIs X js ks L nj np 8∧(∀ k:Value→Hp→Nat→Option ρ,aY P (cal (l+4)) 66 [.pointer (some ⟨g,0,none⟩),.agg ⟨ints L⟩] H n k=k (.agg ⟨ints X⟩) H' n')∧n≤n'∧Keep n H H':=by
 obtain⟨X,hX,H',n',e,h1,h2⟩:=bounds_spec l hgn hf hn hks hnp hnk hL hK
 refine⟨X,H',n',hX,fun k=>?_,h1,h2⟩
 unfold aY
 have:(fX P 66 && bK [.pointer (some ⟨g,0,none⟩),.agg ⟨ints L⟩])=false:=by rw[Bool.and_eq_false_iff]; exact .inr rfl
 rw[this,e]
 rfl
theorem push_int{H:Hp}{base n len:Nat}{u:Value}{xs:List Int}(h:VecAt H base n 1 3 u len xs)(hb:base≤n)(hlen:len≤1000)(i:Int) :
  ∃ u' H',(∀ k:Value→Hp→Nat→Option ρ,(rowK P 44 1 [(0,.int .i64 i)] H n fun v H n=>stK (kv P (bare H n) 44 44 u v) k)=k u' H' (n+1+1))∧VecAt H' base (n+1+1) 1 3 u' (len+1) (xs++[i]) ∧
   (∀ b,b<n→¬ dJ u b→H'.get b=H.get b)∧∀ b,dJ u' b→n≤b:=by
 have hrow:aZ (H.set n (some (.cells [.int .i64 i] 3 false none))) n 0 (ints [i]):=aZ.new
 have hkn:∀ b,b<n→(H.set n (some (.cells [.int .i64 i] 3 false none))).get b=H.get b:=fun b hb=>by rw[Tr.get_set,if_neg (by omega)]
 have hv:=h.same (H':=H.set n (some (.cells [.int .i64 i] 3 false none))) (show n≤n+1 by omega) fun b hb _=>hkn b hb
 obtain⟨H',ea,ev,eo⟩:=Dx (P:=P) (t:=44) (t2:=44) (cap2:=1) hv sl44 sl44 sz3 by3 zero3 rfl hrow rfl (by omega) (by omega) (by omega) (by omega)
 refine⟨_,H',fun k=>?_,ev,fun b hb hn=>(eo b (by omega) hn).trans (hkn b hb),fun b hb=>by rw[CW hb]; omega⟩
 unfold rowK
 rw[row44,aj]
 unfold newK stK
 dsimp only
 rw[ea,aj]
 rfl
def lV(q:Nat→Bool)(i:Nat):List Int:=((List.range i).filter q).map fun(p:Nat)=>(p:Int)
theorem Fx(q:Nat→Bool)(i:Nat):lV q (i+1)=lV q i++if q i=true then[(i:Int)] else[]:=by
 unfold lV
 rw[List.range_succ,List.filter_append,List.map_append]
 congr 1
 simp only[List.filter_cons,List.filter_nil]
 split <;> rfl
theorem tW(q:Nat→Bool)(i:Nat)(hi:i≤1000):(lV q i).length≤i∧∀ x ∈ lV q i,I64 x:=by
 refine⟨?_,fun x hx=>?_⟩
 ·unfold lV
  rw[List.length_map]
  exact Nat.le_trans (List.length_filter_le ..) (by simp)
 ·unfold lV at hx
  obtain⟨p,h1,rfl⟩:=List.mem_map.1 hx
  have:=List.mem_range.1 (List.mem_filter.1 h1).1
  unfold I64; omega
def DV(X ps:List Int)(p:Nat):Bool:=decide (X.getD (p * 2) 0<ps.getD (p * 2) 0)
def DW(X ps:List Int)(p:Nat):Bool:=decide (ps.getD (p * 2+1) 0<X.getD (p * 2+1) 0)
structure FL (H:Hp) (base n g b9:Nat) (f:Nat→Value) (X:List Int) (u4 u5:Value) (q4 q5:List Int):Prop where
 site:cj H g 859 115 f
 row:H.get b9=some (.cells (ints X) 109 false none)
 gl:g<base
 bl:b9<base
 bn:base≤n
 v4:VecAt H base n 1 3 u4 q4.length q4
 v5:VecAt H base n 1 3 u5 q5.length q5
 off:∀ k,dJ u4 k→¬ dJ u5 k
theorem FL.keep{H H':Hp}{base n m g b9:Nat}{f:Nat→Value}{X:List Int}{u4 u5:Value}{q4 q5:List Int}(h:FL H base n g b9 f X u4 u5 q4 q5)(hk:Keep n H H')(hm:n≤m):FL H' base m g b9 f X u4 u5 q4 q5:=by
 obtain⟨h1,h2,h3,h4,h5,h6,h7,h8⟩:=h
 exact⟨h1.keep hk (by omega),(hk b9 (by omega)).trans h2,h3,h4,by omega,h6.same hm fun b hb _=>hk b hb,h7.same hm fun b hb _=>hk b hb,h8⟩
theorem FL.push4{H H':Hp}{base n m g b9:Nat}{f:Nat→Value}{X:List Int}{u4 u5 u:Value}{q4 q5:List Int}{i:Int}(h:FL H base n g b9 f X u4 u5 q4 q5)(hv:VecAt H' base m 1 3 u (q4.length+1) (q4++[i]))(hm:n≤m)(ho:∀ b,b<n→¬ dJ u4 b→H'.get b=H.get b)(hf:∀ b,dJ u b→n≤b) :
  FL H' base m g b9 f X u u5 (q4++[i]) q5:=by
 obtain⟨h1,h2,h3,h4,h5,h6,h7,h8⟩:=h
 have low:∀ b,b<base→¬ dJ u4 b:=fun b hb q=>by have:=(h6.low q).1; omega
 obtain⟨c,e1,e2,e3⟩:=h1
 refine⟨⟨c,by rw[ho g (by omega) (low g h3)]; exact e1,e2,e3⟩,by rw[ho b9 (by omega) (low b9 h4)]; exact h2,h3,h4,by omega,by rw[List.length_append]; exact hv,h7.same hm fun b hb hblk=>ho b hb fun q=>h8 b q hblk,fun k q1 q2=>?_⟩
 have:=hf k q1
 have:=(h7.low q2).2
 omega
theorem FL.push5{H H':Hp}{base n m g b9:Nat}{f:Nat→Value}{X:List Int}{u4 u5 u:Value}{q4 q5:List Int}{i:Int}(h:FL H base n g b9 f X u4 u5 q4 q5)(hv:VecAt H' base m 1 3 u (q5.length+1) (q5++[i]))(hm:n≤m)(ho:∀ b,b<n→¬ dJ u5 b→H'.get b=H.get b)(hf:∀ b,dJ u b→n≤b) :
  FL H' base m g b9 f X u4 u q4 (q5++[i]):=by
 obtain⟨h1,h2,h3,h4,h5,h6,h7,h8⟩:=h
 have low:∀ b,b<base→¬ dJ u5 b:=fun b hb q=>by have:=(h7.low q).1; omega
 obtain⟨c,e1,e2,e3⟩:=h1
 refine⟨⟨c,by rw[ho g (by omega) (low g h3)]; exact e1,e2,e3⟩,by rw[ho b9 (by omega) (low b9 h4)]; exact h2,h3,h4,by omega,h6.same hm fun b hb hblk=>ho b hb fun q=>h8 b hblk q,by rw[List.length_append]; exact hv,fun k q1 q2=>?_⟩
 have:=hf k q2
 have:=(h6.low q1).2
 omega
def HQ(r:Res)(n:Nat)(H:Hp)(X ps:List Int)(np:Nat):Prop:=∃(u4 u5:Value) (H':Hp) (n':Nat),r=some (.tuple ⟨[u4,u5,.int .i64 0]⟩,H',n')∧n≤n'∧Keep n H H' ∧
 ListR H' n' u4 (lV (DV X ps) np).length (lV (DV X ps) np)∧ListR H' n' u5 (lV (DW X ps) np).length (lV (DW X ps) np)
theorem faults_loop(l k:Nat){H0:Hp}{n0 base g b9 np nj:Nat}{f:Nat→Value}{x y z:Value}{ps js X:List Int}(hs:SiteF f x y z js nj)(hx:dV H0 n0 2 x np ps)(hnp:np≤8)(hX:X.length=16)(h0:n0≤base):∀(m i:Nat) (u4 u5:Value) (H:Hp) (n:Nat),Keep n0 H0 H →
  FL H base n g b9 f X u4 u5 (lV (DV X ps) i) (lV (DW X ps) i)→i≤np→np-i≤m →
  HQ (S24_1 (cal (l+1)) k m u4 u5 (.pointer (some ⟨g,0,none⟩)) (.pointer (some ⟨b9,0,none⟩)) (.int .i64 np) (.int .i64 i) H n) n0 H0 X ps np:=by
 have body:∀(b1:Value→Value→Value→Value→Value→Value→Hp→Nat→Res) (m i:Nat) (u4 u5:Value) (H:Hp) (n:Nat),Keep n0 H0 H→FL H base n g b9 f X u4 u5 (lV (DV X ps) i) (lV (DW X ps) i)→i≤np →
   (∀(u4 u5:Value) (H:Hp) (n:Nat),Keep n0 H0 H→FL H base n g b9 f X u4 u5 (lV (DV X ps) (i+1)) (lV (DW X ps) (i+1))→i<np→HQ (b1 u4 u5 (.pointer (some ⟨g,0,none⟩)) (.pointer (some ⟨b9,0,none⟩)) (.int .i64 np) (.int .i64 ((i+1:Nat):Int)) H n) n0 H0 X ps np) →
   HQ (C24_1 (cal (l+1)) k m b1 u4 u5 (.pointer (some ⟨g,0,none⟩)) (.pointer (some ⟨b9,0,none⟩)) (.int .i64 np) (.int .i64 i) H n) n0 H0 X ps np:=by
  intro b1 m i u4 u5 H n hk hs1 hi ih
  have hbn:=hs1.bn
  have hgl:=hs1.gl
  have lX:(ints X).length=16:=by rw[bj,hX]
  unfold C24_1 B24_1
  rw[aJ dq,jx]
  by_cases hlt:i<np
  ·have hI:I64 ((i:Int)+1):=by unfold I64; omega
   have hcast:((i:Int)+1)=((i+1:Nat):Int):=by omega
   have tail:∀(u4':Value) (H':Hp) (n':Nat),Keep n0 H0 H'→FL H' base n' g b9 f X u4' u5 (lV (DV X ps) (i+1)) (lV (DW X ps) i) →
     HQ (C24_3 (cal (l+1)) k m b1 u4' u5 (.pointer (some ⟨g,0,none⟩)) (.pointer (some ⟨b9,0,none⟩)) (.int .i64 i) (.int .i64 np) (.int .i64 i) H' n') n0 H0 X ps np:=by
    intro u4' H' n' hk' hf'
    have hbn':=hf'.bn
    unfold C24_3 B24_3
    obtain⟨H2,n2,c1,c2,c3⟩:=over_call (ρ:=Value × Hp × Nat) l (show g<n' by omega) hf'.site hs ((hx.keep hk' (Nat.le_refl _)).up (show n0≤n' by omega)) hlt hnp hX
    rw[aQ,aj,cK hf'.row yK Bw lX,aj,c1]
    have hf2:=hf'.keep c3 c2
    have hk2:Keep n0 H0 H2:=hk'.trans c3 (by omega)
    cases hb:DW X ps i with
    | true=>
     have hb':decide (ps.getD (i * 2+1) 0<X.getD (i * 2+1) 0)=true:=hb
     obtain⟨u',H3,d1,d2,d3,d4⟩:=push_int (ρ:=Value × Hp × Nat) hf2.v5 hf2.bn (by have:=(tW (DW X ps) i (by omega)).1; omega) i
     rw[hb',fQ,d1]
     unfold C24_2 B24_2
     rw[aJ (bW hI),hcast]
     refine ih _ _ H3 (n2+1+1) (fun b hb=>?_) ?_ hlt
     ·rw[d3 b (by omega) (fun q=>by have:=(hf2.v5.low q).1; omega)]; exact hk2 b hb
     ·have:=hf2.push5 d2 (by omega) d3 d4
      rw[Fx (DW X ps),if_pos hb]
      exact this
    | false=>
     have hb':decide (ps.getD (i * 2+1) 0<X.getD (i * 2+1) 0)=false:=hb
     rw[hb',eV]
     unfold C24_2 B24_2
     rw[aJ (bW hI),hcast]
     refine ih _ _ H2 n2 hk2 ?_ hlt
     rw[Fx (DW X ps),if_neg (by rw[hb]; simp),List.append_nil]
     exact hf2
   obtain⟨H2,n2,c1,c2,c3⟩:=missed_call (ρ:=Value × Hp × Nat) l (show g<n by omega) hs1.site hs ((hx.keep hk (Nat.le_refl _)).up (show n0≤n by omega)) hlt hnp hX
   rw[if_pos (by omega),aQ,aj,cK hs1.row yK Bw lX,aj,c1]
   have hf2:=hs1.keep c3 c2
   have hk2:Keep n0 H0 H2:=hk.trans c3 (by omega)
   cases hb:DV X ps i with
   | true=>
    have hb':decide (X.getD (i * 2) 0<ps.getD (i * 2) 0)=true:=hb
    obtain⟨u',H3,d1,d2,d3,d4⟩:=push_int (ρ:=Value × Hp × Nat) hf2.v4 hf2.bn (by have:=(tW (DV X ps) i (by omega)).1; omega) i
    rw[hb',fQ,d1]
    refine tail _ H3 (n2+1+1) (fun b hb=>?_) ?_
    ·rw[d3 b (by omega) (fun q=>by have:=(hf2.v4.low q).1; omega)]; exact hk2 b hb
    ·have:=hf2.push4 d2 (by omega) d3 d4
     rw[Fx (DV X ps),if_pos hb]
     exact this
   | false=>
    have hb':decide (X.getD (i * 2) 0<ps.getD (i * 2) 0)=false:=hb
    rw[hb',eV]
    refine tail _ H2 n2 hk2 ?_
    rw[Fx (DV X ps),if_neg (by rw[hb]; simp),List.append_nil]
    exact hf2
  ·rw[if_neg (by omega)]
   have hi':i=np:=by omega
   subst hi'
   have i4:=(tW (DV X ps) i (by omega)).2
   have i5:=(tW (DW X ps) i (by omega)).2
   exact⟨u4,u5,H,n,rfl,by omega,hk,VecAt.list hs1.v4 i4,VecAt.list hs1.v5 i5⟩
 intro m
 induction m with
 | zero=>
  intro i u4 u5 H n h1 h2 h3 h4
  exact body _ 0 i u4 u5 H n h1 h2 h3 (fun _ _ _ _ _ _ h=>by omega)
 | succ m ih=>
  intro i u4 u5 H n h1 h2 h3 h4
  exact body _ (m+1) i u4 u5 H n h1 h2 h3 (fun u4 u5 H n q1 q2 q3=>ih (i+1) u4 u5 H n q1 q2 (by omega) (by omega))
theorem Faults_spec(l:Nat){np nj nk nl:Nat}{ps js ks ls:List Int}{H:Hp}{n:Nat}{v w:Value}(hg:iZ H n v np nj nk ps js ks)(hw:ListR H n w nl ls)(hnp:np≤1000)(hnj:nj≤1000)(hnk:nk≤1000) :
  (eY np nj nk nl ps js ks ls≠0→Ret (ZW (cal (l+7)) KK v w H n) n H (.tuple ⟨[.slice none 0 0,.slice none 0 0,.int .i64 (eY np nj nk nl ps js ks ls)]⟩)) ∧
  (eY np nj nk nl ps js ks ls=0→∃ X,RowIs X js ks (ez ls np) nj np 8∧HQ (ZW (cal (l+7)) KK v w H n) n H X ps np):=by
 have hg0:=hg
 obtain⟨x,y,z,rfl,h1,h2,h3⟩:=hg
 unfold ZW B24_0
 generalize hS:S24_1 (cal (l+7)) KK KK=S
 rw[dv]
 simp only[bv,ptr]
 have hk:Keep n H (H.set n (some (.cells [x,y,z] 35 false none))):=(Keep.refl n H).set (Nat.le_refl _) _
 have hb:aZ (H.set n (some (.cells [x,y,z] 35 false none))) n 0 [x,y,z]:=aZ.new
 generalize H.set n (some (.cells [x,y,z] 35 false none))=H1 at hk hb ⊢
 have lg:az P H1 35 ⟨n,0,none⟩=some (.agg ⟨[x,y,z]⟩):=bY (o:=0) (k:=0) hb QK sz35 (by simp) (by simp [h1.hole.1,h2.hole.1,h3.hole.1])
 obtain⟨o1,o2⟩:=Gq l (hg0.keep hk (show n≤n+1 by omega)) (hw.keep hk (show n≤n+1 by omega)) hnp hnj hnk
 rw[aQ,aj,lg,aj,Gv]
 constructor
 ·intro hne
  obtain⟨H2,n2,e1,e2,e3⟩:=o1 hne
  have t0:tupV (.tuple ⟨[.pointer none,.agg ⟨ints (List.replicate 8 0)⟩,.int .i64 (eY np nj nk nl ps js ks ls)]⟩) 0=some (.pointer none):=rfl
  have t1:tupV (.tuple ⟨[.pointer none,.agg ⟨ints (List.replicate 8 0)⟩,.int .i64 (eY np nj nk nl ps js ks ls)]⟩) 1=some (.agg ⟨ints (List.replicate 8 0)⟩):=rfl
  have t2:tupV (.tuple ⟨[.pointer none,.agg ⟨ints (List.replicate 8 0)⟩,.int .i64 (eY np nj nk nl ps js ks ls)]⟩) 2=some (.int .i64 (eY np nj nk nl ps js ks ls)):=rfl
  obtain⟨H3,k1,k2,k3⟩:=qx (P:=P) (ρ:=Value × Hp × Nat) (H:=H2) (n:=n2) (L:=ints (List.replicate 8 0)) Fv rfl rY rfl (fj _)
  rw[e1,aj,t0,aj,t1,aj,t2,aj,k3,aJ ix,decide_eq_false hne,Bool.not_false,fQ]
  exact⟨H3,n2+1,rfl,by omega,(hk.trans e3 (by omega)).trans k1 (by omega)⟩
 ·intro he
  obtain⟨⟨g,x',y',z',f,H2,n2,e1,e2,e3,e4,e5,e6,e7,e8,e9⟩,hnl,hok,hft⟩:=o2 he
  simp only[Value.agg.injEq,Array.mk.injEq,List.cons.injEq,and_true] at e6
  obtain⟨rfl,rfl,rfl⟩:=e6
  have good:=JQ hft
  subst hnl
  have l8:=CX hw.1 good.np8
  have lens:(ints (ez ls nl)).length=8:=by rw[bj,l8]
  have t0:tupV (.tuple ⟨[.pointer (some ⟨g,0,none⟩),.agg ⟨ints (ez ls nl)⟩,.int .i64 0]⟩) 0=some (.pointer (some ⟨g,0,none⟩)):=rfl
  have t1:tupV (.tuple ⟨[.pointer (some ⟨g,0,none⟩),.agg ⟨ints (ez ls nl)⟩,.int .i64 0]⟩) 1=some (.agg ⟨ints (ez ls nl)⟩):=rfl
  have t2:tupV (.tuple ⟨[.pointer (some ⟨g,0,none⟩),.agg ⟨ints (ez ls nl)⟩,.int .i64 0]⟩) 2=some (.int .i64 0):=rfl
  have d0:decide ((0:Int)=0)=true:=rfl
  obtain⟨H3,k1,k2,k3⟩:=qx (P:=P) (ρ:=Value × Hp × Nat) (H:=H2) (n:=n2) (L:=ints (ez ls nl)) Fv rfl rY lens (fj _)
  rw[e1,aj,t0,aj,t1,aj,t2,aj,k3,aJ ix,d0,Bool.not_true,eV,aQ,aj,cK k2 xq rY lens,aj]
  have f3:=e7.keep k1 e5
  obtain⟨X,H4,n4,hX,b1,b2,b3⟩:=bounds_call (ρ:=Value × Hp × Nat) (l+3) (n:=n2+1) (by omega) f3 e9 good.kinds good.np8 good.nk3 l8 (Sz hw.1 hok)
  have lX:(ints X).length=16:=by rw[bj,hX.1]
  have f4:=f3.keep b3 (by omega)
  obtain⟨H5,c1,c2,c3⟩:=qx (P:=P) (ρ:=Value × Hp × Nat) (H:=H4) (n:=n4) (L:=ints X) qcv rfl Bw lX (fj _)
  rw[b1,c3]
  have f5:=f4.keep c1 (by omega)
  have lx:az P H5 31 ⟨g,0+0+0,none⟩=some x:=by
   have:=f5.load (P:=P) (k:=0) Bq (by omega)
   rw[e8.x] at this; exact this
  have hlx:lenV P 31 x=some (.int .i64 nl):=h1.len_eq Bv
  have kk:Keep n H H5:=fun b hb=>by rw[c1 b (by omega),b3 b (by omega),k1 b (by omega),e3 b (by omega),hk b hb]
  rw[lk,aj,oK,aj,qJ,aj,aQ,aj,lx,aj,hlx,aj,← hS]
  refine⟨X,hX,faults_loop (l+6) KK (base:=n4+1) e8 h1 good.np8 hX.1 (by omega) KK 0 (.slice none 0 0) (.slice none 0 0) H5 (n4+1) kk ⟨f5,c2,by omega,by omega,Nat.le_refl _,⟨rfl,.inl ⟨rfl,rfl⟩⟩,⟨rfl,.inl ⟨rfl,rfl⟩⟩,fun k h=>absurd h (Uj (v:=x))⟩ (by omega) (by have:=good.np8; unfold KK; omega)⟩
theorem flat24:fX P 24=false:=by kernel_rfl
theorem call24(l:Nat)(a b:Value)(H:Hp)(n:Nat):(cal (l+1)).call 24 [a,b] H n=ZW (cal l) KK a b H n:=by kernel_rfl
theorem Faults_call(l:Nat)(v w:Value)(H:Hp)(n:Nat)(k:Value→Hp→Nat→Option ρ):aY P (cal (l+8)) 24 [v,w] H n k=aq (ZW (cal (l+7)) KK v w H n) fun r=>k r.1 r.2.1 r.2.2:=by
 unfold aY
 rw[flat24,call24]
 rfl
theorem guardD_ff{op:KD ρ→Option ρ}{ex:Extra}{H:Hp}{n:Nat}{k:KD ρ}:dw (.bool false) false op ex H n k=op k:=rfl
theorem guardD_tf{op:KD ρ→Option ρ}{ex:Extra}{H:Hp}{n:Nat}{k:KD ρ}:dw (.bool true) false op ex H n k=k undef ex H n:=rfl
theorem guardD_u{w:Bool}{op:KD ρ→Option ρ}{ex:Extra}{H:Hp}{n:Nat}{k:KD ρ}:dw undef w op ex H n k=k undef ex H n:=rfl
theorem isLayout_loop(l k:Nat){np nj nk:Nat}{ps js ks ls:List Int}(good:Good np nj nk ps js ks)(hjs:js.length=nj * 2)(g:Nat)(x y z w:Value) :
  ∀(m i:Nat) (H:Hp) (n:Nat),g<n→aZ H g 0 [x,y,z]→GroveI H n (.agg ⟨[x,y,z]⟩) np nj nk ps js ks→ListR H n w np ls→i≤np→np-i≤m →
  ∃ r,Ret (S58_1 (cal (l+4)) k m w (.pointer (some ⟨g,0,none⟩)) (.int .i64 i) H n) n H (.bool r)∧(r=true↔∀ p,i≤p→p<np→ls.getD p 0=-1∨nK js ks nj np nk p (ls.getD p 0)):=by
 have body:∀(b1:Value→Value→Value→Hp→Nat→Res) (m i:Nat) (H:Hp) (n:Nat),g<n→aZ H g 0 [x,y,z]→GroveI H n (.agg ⟨[x,y,z]⟩) np nj nk ps js ks→ListR H n w np ls→i≤np →
   (∀ H' n',n≤n'→Keep n H H'→i<np→∃ r,Ret (b1 w (.pointer (some ⟨g,0,none⟩)) (.int .i64 ((i+1:Nat):Int)) H' n') n' H' (.bool r)∧(r=true↔∀ p,i+1≤p→p<np→ls.getD p 0=-1∨nK js ks nj np nk p (ls.getD p 0))) →
   ∃ r,Ret (C58_1 (cal (l+4)) k m b1 w (.pointer (some ⟨g,0,none⟩)) (.int .i64 i) H n) n H (.bool r)∧(r=true↔∀ p,i≤p→p<np→ls.getD p 0=-1∨nK js ks nj np nk p (ls.getD p 0)):=by
  intro b1 m i H n hgn hb hg hw hi ih
  have np8:=good.np8
  have nk3:=good.nk3
  have nj16:=good.nj16
  unfold C58_1 B58_1
  rw[hw.len_eq,aj,aJ dq,jx]
  by_cases hlt:i<np
  ·obtain⟨rb,o,hix,_,hld⟩:=hw.at_ hlt
   have hI:I64 ((i:Int)+1):=by unfold I64; omega
   have hcast:((i:Int)+1)=((i+1:Nat):Int):=by omega
   have go:(ls.getD i 0=-1∨nK js ks nj np nk i (ls.getD i 0))→∀(H':Hp) (n':Nat),n≤n'→Keep n H H' →
     ∃ r,Ret (b1 w (.pointer (some ⟨g,0,none⟩)) (.int .i64 ((i+1:Nat):Int)) H' n') n H (.bool r)∧(r=true↔∀ p,i≤p→p<np→ls.getD p 0=-1∨nK js ks nj np nk p (ls.getD p 0)):=by
    intro hok H' n' h1 h2
    obtain⟨r,⟨H2,n2,e1,e2,e3⟩,e4⟩:=ih H' n' h1 h2 hlt
    refine⟨r,⟨H2,n2,e1,by omega,h2.trans e3 h1⟩,e4.trans ⟨fun h p q1 q2=>?_,fun h p q1 q2=>h p (by omega) q2⟩⟩
    rcases Nat.eq_or_lt_of_le q1 with q | q
    ·subst q; exact hok
    ·exact h p q q2
   have no:¬ (ls.getD i 0=-1∨nK js ks nj np nk i (ls.getD i 0))→∀(H':Hp) (n':Nat),n≤n'→Keep n H H' →
     ∃ r,Ret (some (Value.bool false,H',n')) n H (.bool r)∧(r=true↔∀ p,i≤p→p<np→ls.getD p 0=-1∨nK js ks nj np nk p (ls.getD p 0)):=
    fun hno H' n' h1 h2=>⟨false,⟨H',n',rfl,h1,h2⟩,⟨fun h=>(by cases h),fun h=>absurd (h i (Nat.le_refl _) hlt) hno⟩⟩
   rw[if_pos (by omega),hix,aj,aQ,aj,hld,aj,aJ ix]
   cases c1:decide (ls.getD i 0=-1) with
   | true=>
    simp only[Bool.not_true,WZ,guardD_u,ew,aj,eV,aJ (bW hI),hcast]
    exact go (.inl (of_decide_eq_true c1)) H n (Nat.le_refl _) (Keep.refl _ _)
   | false=>
    have hg0:=hg
    obtain⟨x',y',z',hxyz,h1,h2,h3⟩:=hg.eq
    cases hxyz
    have lz:az P H 24 ⟨g,0+2,none⟩=some z:=bw hb QY rfl h3.hole.1 h3.hole.2
    have elz:lenV P 24 z=some (.int .i64 nk):=h3.len_eq Mj
    have hIk:I64 ((nk:Int)-1):=by unfold I64; omega
    have l26:=Sv hb h1.hole.1 h2.hole.1 h3.hole.1
    simp only[Bool.not_false,WY,hix,aj,aQ,hld,Gj,lz,elz,aJ (vy hIk),EY (l+3)]
    cases c2:decide (0≤ls.getD i 0∧ls.getD i 0≤(nk:Int)-1) with
    | false=>
     simp only[uY,aj,guardD_tf,dY,fQ]
     refine no ?_ H n (Nat.le_refl _) (Keep.refl _ _)
     rintro(h | ⟨q1,q2,_⟩)
     ·exact of_decide_eq_false c1 h
     ·exact of_decide_eq_false c2 ⟨q1,by omega⟩
    | true=>
     obtain⟨p1,p2⟩:=of_decide_eq_true c2
     obtain⟨kd,hkd⟩:∃ kd:Nat,ls.getD i 0=kd:=⟨(ls.getD i 0).toNat,by omega⟩
     have hk:kd<nk:=by omega
     obtain⟨r,H2,n2,d1,d2,d3,d4⟩:=fitsR_call (ρ:=Value × Hp × Nat) l (show nj≤KK by unfold KK; omega) (show np≤100 by omega) kd hk (i:Int) good.small hg0
     rw[hkd] at c1
     simp only[rX,aj,guardD_ff,hix,aQ,hld,l26,hkd,d2]
     have ag:=fits_agree good hjs hlt hk
     have tk:nK js ks nj np nk i (kd:Int)↔r=true:=by
      unfold nK
      rw[Int.toNat_natCast,ag,d1]
      exact⟨fun h=>h.2.2,fun h=>⟨by omega,by omega,h⟩⟩
     cases r with
     | true=>
      simp only[rX,aj,dY,ew,eV,aJ (bW hI),hcast]
      refine go ?_ H2 n2 d3 d4
      rw[hkd]; exact .inr (tk.2 rfl)
     | false=>
      simp only[uY,aj,dY,ew,fQ]
      refine no ?_ H2 n2 d3 d4
      rw[hkd]
      rintro(h | h)
      ·exact of_decide_eq_false c1 h
      ·exact absurd (tk.1 h) (by simp)
  ·rw[if_neg (by omega)]
   exact⟨true,⟨H,n,rfl,Nat.le_refl _,Keep.refl _ _⟩,⟨fun _ p q1 q2=>by omega,fun _=>rfl⟩⟩
 intro m
 induction m with
 | zero=>
  intro i H n h1 h2 h3 h4 h5 h6
  exact body _ 0 i H n h1 h2 h3 h4 h5 (fun _ _ _ _ h=>by omega)
 | succ m ih=>
  intro i H n h1 h2 h3 h4 h5 h6
  exact body _ (m+1) i H n h1 h2 h3 h4 h5 (fun H' n' q1 q2 q3=>ih (i+1) H' n' (by omega) (h2.keep q2 h1) (h3.keep q2 q1) (h4.keep q2 q1) (by omega) (by omega))
theorem isLayout_spec(l:Nat){np nj nk nl:Nat}{ps js ks ls:List Int}(good:Good np nj nk ps js ks){H:Hp}{n:Nat}{v w:Value}(hg:GroveI H n v np nj nk ps js ks)(hw:ListR H n w nl ls) :
  ∃ r,Ret (C58_0 (cal (l+4)) KK v w H n) n H (.bool r)∧(r=true↔nl=np∧zq js ks ls nj np nk):=by
 have hg0:=hg
 obtain⟨x,y,z,rfl,h1,h2,h3⟩:=hg.eq
 unfold C58_0 B58_0
 generalize hS:S58_1 (cal (l+4)) KK KK=S
 rw[dv]
 simp only[bv,ptr]
 have hk:Keep n H (H.set n (some (.cells [x,y,z] 26 false none))):=(Keep.refl n H).set (Nat.le_refl _) _
 have hb:aZ (H.set n (some (.cells [x,y,z] 26 false none))) n 0 [x,y,z]:=aZ.new
 generalize H.set n (some (.cells [x,y,z] 26 false none))=H1 at hk hb ⊢
 have lx:az P H1 22 ⟨n,0+0,none⟩=some x:=bw hb ZQ rfl h1.hole.1 h1.hole.2
 have elx:lenV P 22 x=some (.int .i64 np):=h1.len_eq QZ
 rw[hw.len_eq,aj,Jy,aj,aQ,aj,lx,aj,elx,aj,aJ ix]
 cases c1:decide ((nl:Int)=(np:Int)) with
 | false=>
  rw[Bool.not_false,fQ]
  exact⟨false,⟨H1,n+1,rfl,by omega,hk⟩,⟨fun h=>(by cases h),fun h=>absurd (by omega) (of_decide_eq_false c1)⟩⟩
 | true=>
  have e:nl=np:=by have:=of_decide_eq_true c1; omega
  subst e
  rw[Bool.not_true,eV,← hS]
  obtain⟨r,⟨H',n',e1,e2,e3⟩,e4⟩:=isLayout_loop l KK good h2.1 n x y z w KK 0 H1 (n+1) (by omega) hb (hg0.keep hk (by omega)) (hw.keep hk (by omega)) (by omega) (by have:=good.np8; unfold KK; omega)
  exact⟨r,⟨H',n',e1,by omega,hk.trans e3 (by omega)⟩,e4.trans ⟨fun h=>⟨rfl,fun p hp=>h p (Nat.zero_le _) hp⟩,fun h p _ hp=>h.2 p hp⟩⟩
theorem call58(l:Nat)(a b:Value)(H:Hp)(n:Nat):(cal (l+1)).call 58 [a,b] H n=C58_0 (cal l) KK a b H n:=by kernel_rfl
theorem isLayout_call(l:Nat){np nj nk nl:Nat}{ps js ks ls:List Int}(good:Good np nj nk ps js ks){H:Hp}{n:Nat}{v w:Value}(hg:GroveI H n v np nj nk ps js ks)(hw:ListR H n w nl ls) :
  ∃(r:Bool) (H':Hp) (n':Nat),(r=true↔nl=np∧zq js ks ls nj np nk)∧(∀ k:Value→Hp→Nat→Option ρ,aY P (cal (l+5)) 58 [v,w] H n k=k (.bool r) H' n')∧n≤n'∧Keep n H H':=by
 obtain⟨r,H',n',⟨b,rfl,hb⟩,e1,e2,e3⟩:=fx (ρ:=ρ) (P:=P) (cal:=cal (l+5)) (f:=58) (args:=[v,w]) (H:=H) (n:=n)
  (Pre:=fun H n=>GroveI H n v np nj nk ps js ks∧ListR H n w nl ls) (Q:=fun r=>∃ b:Bool,r=.bool b∧(b=true↔nl=np∧zq js ks ls nj np nk))
  (fun H n h=>by
   obtain⟨r,h1,h2⟩:=isLayout_spec l good h.1 h.2
   exact⟨.bool r,by rw[call58]; exact h1,r,rfl,h2⟩) (fun r ⟨b,e,_⟩ _=>by subst e; rfl) ⟨hg,hw⟩ (fun hp=>by
    simp only[bK,Bool.and_eq_true] at hp
    exact⟨hg.nil hp.1,hw.nil hp.2.1⟩)
 exact⟨b,H',n',hb,e1,e2,e3⟩
theorem placed_spec(l:Nat){np nj nk nl:Nat}{ps js ks ls:List Int}{H:Hp}{n:Nat}{v w:Value}(hg:GroveI H n v np nj nk ps js ks)(hw:ListR H n w nl ls) :
  Ret (C25_0 (cal (l+5)) KK v w H n) n H (.int .i64 (eY np nj nk nl ps js ks ls)):=by
 have hg0:=hg
 obtain⟨x,y,z,rfl,h1,h2,h3⟩:=hg.eq
 unfold C25_0 B25_0
 rw[dv]
 simp only[bv,ptr]
 have hk:Keep n H (H.set n (some (.cells [x,y,z] 26 false none))):=(Keep.refl n H).set (Nat.le_refl _) _
 have hb:aZ (H.set n (some (.cells [x,y,z] 26 false none))) n 0 [x,y,z]:=aZ.new
 generalize H.set n (some (.cells [x,y,z] 26 false none))=H1 at hk hb ⊢
 have ld:∀ H2,aZ H2 n 0 [x,y,z]→az P H2 26 ⟨n,0,none⟩=some (.agg ⟨[x,y,z]⟩):=fun H2 h=>Sv h h1.hole.1 h2.hole.1 h3.hole.1
 have hg1:GroveI H1 (n+1) (.agg ⟨[x,y,z]⟩) np nj nk ps js ks:=hg0.keep hk (by omega)
 obtain⟨H2,n2,e1,e2,e3⟩:=lawfault_call (ρ:=Value × Hp × Nat) (l+1) hg1
 have kk:Keep n H H2:=hk.trans e3 (by omega)
 rw[aQ,aj,ld H1 hb,aj,e1,aJ ix]
 unfold eY
 by_cases he:ij np nj nk ps js ks=0
 ·have d0:decide (ij np nj nk ps js ks=0)=true:=decide_eq_true he
  have good:=JQ he
  obtain⟨r,H3,n3,f1,f2,f3,f4⟩:=isLayout_call (ρ:=Value × Hp × Nat) l good (hg1.keep e3 e2) (hw.keep kk (show n≤n2 by omega))
  rw[d0,Bool.not_true,eV,aj,ld H2 (hb.keep e3 (by omega)),aj,f2,if_neg (fun h=>h he)]
  cases r with
  | true=>
   rw[rX,aj,eV,if_pos (f1.1 rfl)]
   exact⟨H3,n3,rfl,by omega,kk.trans f4 (by omega)⟩
  | false=>
   rw[uY,aj,fQ,if_neg (fun h=>absurd (f1.2 h) (by simp))]
   exact⟨H3,n3,rfl,by omega,kk.trans f4 (by omega)⟩
 ·have d0:decide (ij np nj nk ps js ks=0)=false:=decide_eq_false he
  rw[d0,Bool.not_false,fQ,if_pos he]
  exact⟨H2,n2,rfl,by omega,kk⟩
theorem call25(l:Nat)(a b:Value)(H:Hp)(n:Nat):(cal (l+1)).call 25 [a,b] H n=C25_0 (cal l) KK a b H n:=by kernel_rfl
theorem placedN_call(l:Nat){np nj nk nl:Nat}{ps js ks ls:List Int}{H:Hp}{n:Nat}{v w:Value}(hg:GroveI H n v np nj nk ps js ks)(hw:ListR H n w nl ls) :
  ∃ H' n',(∀ k:Value→Hp→Nat→Option ρ,aY P (cal (l+6)) 25 [v,w] H n k=k (.int .i64 (eY np nj nk nl ps js ks ls)) H' n')∧n≤n'∧Keep n H H':=by
 obtain⟨r,H',n',rfl,e1,e2,e3⟩:=fx (ρ:=ρ) (P:=P) (cal:=cal (l+6)) (f:=25) (args:=[v,w]) (H:=H) (n:=n)
  (Pre:=fun H n=>GroveI H n v np nj nk ps js ks∧ListR H n w nl ls) (Q:=fun r=>r=.int .i64 (eY np nj nk nl ps js ks ls))
  (fun H n h=>⟨_,by rw[call25]; exact placed_spec l h.1 h.2,rfl⟩) (fun r e _=>by subst e; rfl) ⟨hg,hw⟩ (fun hp=>by
    simp only[bK,Bool.and_eq_true] at hp
    exact⟨hg.nil hp.1,hw.nil hp.2.1⟩)
 exact⟨H',n',e1,e2,e3⟩
theorem at44L(b len cap:Nat){i:Nat}(hi:i<len):aV P 44 (.slice (some ⟨b,0,none⟩) len cap) (.int .i64 i)=some (.pointer (some ⟨b,0+i * 1,none⟩)):=by
 unfold aV
 simp only[und44,Jk hi,sz3]
 rfl
theorem store3(H:Hp)(b o:Nat)(a:Int):bV P 3 (.pointer (some ⟨b,o,none⟩)) (.int .i64 a) H=storeN H ⟨b,o,none⟩ [.int .i64 a]:=by kernel_rfl
theorem eq29(p q:Operand)(E:Int):binV P .eql 29 p q (.int .i64 E) (.int .i64 0)=some (.bool (decide (E=0))):=lY
theorem ready_spec(l:Nat){np nj nk nl:Nat}{ps js ks ls:List Int}{H:Hp}{n:Nat}{v w:Value}(hg:GroveI H n v np nj nk ps js ks)(hw:ListR H n w nl ls) :
  ∃ r,Ret (C55_0 (cal (l+6)) KK v w H n) n H (.bool r)∧(r=true↔thin np nj nk nl∧eY np nj nk nl ps js ks ls=0):=by
 have hg0:=hg
 obtain⟨x,y,z,rfl,h1,h2,h3⟩:=hg.eq
 unfold C55_0 B55_0
 rw[dv]
 simp only[bv,ptr]
 have hk:Keep n H (H.set n (some (.cells [x,y,z] 26 false none))):=(Keep.refl n H).set (Nat.le_refl _) _
 have hb:aZ (H.set n (some (.cells [x,y,z] 26 false none))) n 0 [x,y,z]:=aZ.new
 generalize H.set n (some (.cells [x,y,z] 26 false none))=H1 at hk hb ⊢
 have ld:∀ H2,aZ H2 n 0 [x,y,z]→az P H2 26 ⟨n,0,none⟩=some (.agg ⟨[x,y,z]⟩):=fun H2 h=>Sv h h1.hole.1 h2.hole.1 h3.hole.1
 have hg1:GroveI H1 (n+1) (.agg ⟨[x,y,z]⟩) np nj nk ps js ks:=hg0.keep hk (by omega)
 have hw1:=hw.keep hk (show n≤n+1 by omega)
 obtain⟨t,H2,n2,t1,t2,t3,t4⟩:=thin_call (ρ:=Value × Hp × Nat) (l+5) hg1 hw1.len_eq
 rw[aQ,aj,ld H1 hb,aj,t2]
 cases t with
 | false=>
  simp only[fV,ew,aj]
  exact⟨false,⟨H2,n2,rfl,by omega,hk.trans t4 (by omega)⟩,⟨fun h=>(by cases h),fun h=>absurd (t1.2 h.1) (by simp)⟩⟩
 | true=>
  have hb2:=hb.keep t4 (by omega)
  obtain⟨H3,n3,e1,e2,e3⟩:=placedN_call (ρ:=Value × Hp × Nat) l (hg1.keep t4 t3) (hw1.keep t4 t3)
  simp only[eW,aj,ld H2 hb2,e1,aJ (eq29 _ _ _),dY]
  refine⟨_,⟨H3,n3,rfl,by omega,(hk.trans t4 (by omega)).trans e3 (by omega)⟩,?_⟩
  rw[decide_eq_true_iff]
  exact⟨fun h=>⟨t1.1 rfl,h⟩,fun h=>h.2⟩
theorem call55(l:Nat)(a b:Value)(H:Hp)(n:Nat):(cal (l+1)).call 55 [a,b] H n=C55_0 (cal l) KK a b H n:=by kernel_rfl
theorem ready_call(l:Nat){np nj nk nl:Nat}{ps js ks ls:List Int}{H:Hp}{n:Nat}{v w:Value}(hg:GroveI H n v np nj nk ps js ks)(hw:ListR H n w nl ls) :
  ∃(r:Bool) (H':Hp) (n':Nat),(r=true↔thin np nj nk nl∧eY np nj nk nl ps js ks ls=0)∧(∀ k:Value→Hp→Nat→Option ρ,aY P (cal (l+7)) 55 [v,w] H n k=k (.bool r) H' n')∧n≤n'∧Keep n H H':=by
 obtain⟨r,H',n',⟨b,rfl,hb⟩,e1,e2,e3⟩:=fx (ρ:=ρ) (P:=P) (cal:=cal (l+7)) (f:=55) (args:=[v,w]) (H:=H) (n:=n)
  (Pre:=fun H n=>GroveI H n v np nj nk ps js ks∧ListR H n w nl ls) (Q:=fun r=>∃ b:Bool,r=.bool b∧(b=true↔thin np nj nk nl∧eY np nj nk nl ps js ks ls=0))
  (fun H n h=>by
   obtain⟨r,h1,h2⟩:=ready_spec l h.1 h.2
   exact⟨.bool r,by rw[call55]; exact h1,r,rfl,h2⟩) (fun r ⟨b,e,_⟩ _=>by subst e; rfl) ⟨hg,hw⟩ (fun hp=>by
    simp only[bK,Bool.and_eq_true] at hp
    exact⟨hg.nil hp.1,hw.nil hp.2.1⟩)
 exact⟨b,H',n',hb,e1,e2,e3⟩
def RightL(js ks ps L:List Int)(nj np:Nat):Prop:=∀ q,q<np→¬ bsum js ks L nj np 8 0 q<ps.getD (q * 2) 0∧¬ ps.getD (q * 2+1) 0<bsum js ks L nj np 8 1 q
theorem agg44:eZ P 44=some false:=by kernel_rfl
theorem sz44:szT P 44=some 1:=by kernel_rfl
theorem getD_set_same{L:List Int}{p:Nat}{a:Int}(h:p<L.length):(L.set p a).getD p 0=a:=by
 rw[List.getD_eq_getElem?_getD,List.getElem?_set,if_pos rfl,if_pos h]
 rfl
theorem getD_set_ne{L:List Int}{p q:Nat}{a:Int}(h:q≠p):(L.set p a).getD q 0=L.getD q 0:=by
 rw[List.getD_eq_getElem?_getD,List.getElem?_set,if_neg (by omega),← List.getD_eq_getElem?_getD]
end Go.Proofs.Ytndkmmelelchcaa.spec
end
section
namespace Go.Proofs.Ytndkmmelelchcaa.spec
open Go Go.Ev Go.Proofs.Ytndkmmelelchcaa.nestFits Go.Proofs.Ytndkmmelelchcaa.G
set_option maxRecDepth 100000
end Go.Proofs.Ytndkmmelelchcaa.spec
end
section
namespace Go.Proofs.Ytndkmmelelchcaa.spec
open Go Go.Ev Go.Proofs.Ytndkmmelelchcaa.nestFits Go.Proofs.Ytndkmmelelchcaa.G
set_option maxRecDepth 100000
variable {ρ:Type}
theorem iy{H:Hp}{b:Nat}{v:Value}{e t:TypeId}(h:H.get b=some (.cells [v] e false none))(ht:eZ P t=some false)(h1:lQ v=true)(h2:vq v=true):az P H t ⟨b,0,none⟩=some v:=
 bw (o:=0) (k:=0) (cY h) ht rfl h1 h2
theorem qkw:SK P 160=some (162,3):=by kernel_rfl
theorem qlq:GX P 162=some 2:=by kernel_rfl
theorem zero3v:iV P 3=some (.int .i64 0):=by kernel_rfl
theorem szero3:cV P (zeroValue 3)=some (.int .i64 0):=by kernel_rfl
theorem CY(a b:Nat):fw P 162 [(0,.int .i64 a),(1,.int .i64 b)]=some (keyV [(a:Int),(b:Int)]):=by kernel_rfl
theorem xy:eZ P 160=some false:=by kernel_rfl
theorem agg180:eZ P 180=some false:=by kernel_rfl
theorem sz180:szT P 180=some 1:=by kernel_rfl
theorem zero179b:iV P 179=some (.agg ⟨List.replicate 18 (.bool false)⟩):=by kernel_rfl
theorem zero180:iV P 180=some .nilFunc:=by kernel_rfl
theorem und179:P.underlying 179=some (.array 18 4):=by kernel_rfl
theorem at179(b:Nat){i:Nat}(hi:i<18):aV P 179 (.pointer (some ⟨b,0,none⟩)) (.int .i64 i)=some (.pointer (some ⟨b,i,none⟩)):=by
 unfold aV
 have h1:qw (.int .i64 (i:Int)) 18=some i:=by
  show qw (.int .i64 (.ofNat i)) 18=some i
  simp [qw,hi]
 simp only[und179,h1,show szT P 4=some 1 from sz4,addA,Nat.mul_one,Nat.zero_add]
def netM(l:MapL):Net:=fun u v=>getF l [(u:Int),(v:Int)]
def gk(H:Hp)(r:Nat)(m:Net):Prop:=∃ l,MapAt H r 2 l∧netM l=m
theorem gk.keep{H H':Hp}{r:Nat}{m:Net}(h:gk H r m)(hk:H'.get r=H.get r):gk H' r m:=by
 obtain⟨l,h1,h2⟩:=h
 exact⟨l,⟨hk.trans h1.block,h1.keys⟩,h2⟩
theorem Uz{H:Hp}{r:Nat}{m:Net}(h:gk H r m)(u v:Nat):kw P H 160 (.map (some r)) (keyV [(u:Int),(v:Int)]) false=some (.int .i64 (m u v)):=by
 obtain⟨l,h1,h2⟩:=h
 rw[map_get qkw qlq zero3v h1 rfl,← h2]
 rfl
theorem key_two{a b u v:Nat}:([(a:Int),(b:Int)]=[(u:Int),(v:Int)])↔a=u∧b=v:=by
 simp only[List.cons.injEq,and_true]
 omega
def setN(m:Net)(u v:Nat)(x:Int):Net:=fun a b=>if a=u∧b=v then x else m a b
theorem netM_put(l:MapL)(u v:Nat)(x:Int):netM (putL [(u:Int),(v:Int)] x l)=setN (netM l) u v x:=by
 funext a b
 unfold netM setN
 rw[qkv]
 by_cases h:a=u∧b=v
 ·rw[if_pos h,if_pos (key_two.2 h)]
 ·rw[if_neg h,if_neg (fun q=>h (key_two.1 q))]
theorem qcw{H:Hp}{r:Nat}{m:Net}(h:gk H r m)(u v:Nat)(x:Int):∃ H',Aw P 160 (.map (some r)) (keyV [(u:Int),(v:Int)]) (.int .i64 x) H=some H'∧gk H' r (setN m u v x)∧∀ b,b≠r→H'.get b=H.get b:=by
 obtain⟨l,h1,h2⟩:=h
 obtain⟨H',e1,e2,e3⟩:=map_put (v:=x) qkw qlq h1 (k:=[(u:Int),(v:Int)]) rfl
 exact⟨H',e1,⟨_,e2,by rw[netM_put,h2]⟩,e3⟩
theorem effK_m{t:TypeId}{mv kx v u:Value}{H H2:Hp}{n n2:Nat}{op:Hp→Nat→(Value→Hp→Nat→Option ρ)→Option ρ}{k:Value→Hp→Nat→Option ρ}
  (ho:∀ k:Value→Hp→Nat→Option ρ,op H n k=k v H2 n2) (hs:sameV u u=true) (hu:kw P H2 t mv kx false=some u) :
  effK P [(.m t mv kx false u)] H n op k=k v H2 n2:=by
 unfold effK
 simp only[ux,rz,aj,ho,xj,nZ,chkX,chkE,hu,hs,Bool.and_self]
 rfl
theorem same_int(x:Int):sameV (.int .i64 x) (.int .i64 x)=true:=by
 show LV [.int .i64 x] [.int .i64 x]=true
 unfold LV
 simp [LV]
 constructor
 ·rfl
 ·split
  ·rfl
  ·rename_i h _; exact absurd rfl h
theorem net_op{H:Hp}{n r:Nat}{m:Net}(h:gk H r m)(u v:Nat)(x:Int) :
  ∃(r2:Value) (j:Nat) (H1 H2:Hp),(∀ k:Value→Hp→Nat→Option ρ,effK P [(.m 160 (.map (some r)) (keyV [(u:Int),(v:Int)]) false (.int .i64 (m u v)))] H n (fun H n k=>aq (BY P 160 (.map (some r)) (keyV [(u:Int),(v:Int)]) H) fun r=>k r.1 r.2 n) k=k r2 H1 n) ∧
   tupV r2 1=some (.int .i64 j)∧Ly (.map (some r)) (.int .i64 j) (.int .i64 x) H1=some H2∧gk H2 r (setN m u v x)∧∀ b,b≠r→H2.get b=H.get b:=by
 obtain⟨l,h1,h2⟩:=h
 obtain⟨j,l',H1,e1,e2,e3,e4,e5⟩:=map_entry (P:=P) (k:=[(u:Int),(v:Int)]) qkw qlq szero3 h1 rfl
 obtain⟨H2,f1,f2,f3⟩:=map_store (v:=x) e2 rfl e4
 have hn1:gk H1 r m:=⟨l',e2,by rw[← h2]; funext a b; exact e3 _⟩
 refine⟨.tuple ⟨[.int .i64 (getF l [(u:Int),(v:Int)]),.int .i64 j]⟩,j,H1,H2,fun k=>?_,rfl,f1,⟨_,f2,?_⟩,fun b hb=>(f3 b hb).trans (e5 b hb)⟩
 ·exact effK_m (fun k=>by rw[e1]; rfl) (same_int _) (Uz hn1 u v)
 ·rw[netM_put]
  have:netM l'=m:=by rw[← h2]; funext a b; exact e3 _
  rw[this]
def Rv(sb nb fb:Nat):Value:=.func (.func 123) ⟨[]⟩ ⟨[.pointer (some ⟨sb,0,none⟩),.pointer (some ⟨nb,0,none⟩),.pointer (some ⟨fb,0,none⟩)]⟩
theorem call123(l:Nat)(a b c d e:Value)(H:Hp)(n:Nat):(cal (l+1)).call 123 [a,b,c,d,e] H n=NX (cal l) KK a b c d e H n:=by kernel_rfl
theorem srch_value(l:Nat)(a b:Value)(sb nb fb:Nat)(H:Hp)(n:Nat)(k:Value→Hp→Nat→Option ρ):jy P (cal (l+1)) (Rv sb nb fb) [a,b] H n k=aq (NX (cal l) KK a b (.pointer (some ⟨sb,0,none⟩)) (.pointer (some ⟨nb,0,none⟩)) (.pointer (some ⟨fb,0,none⟩)) H n) fun r=>k r.1 r.2.1 r.2.2:=by
 unfold Rv
 rw[callVK_f]
 show aY P (cal (l+1)) 123 [a,b,.pointer (some ⟨sb,0,none⟩),.pointer (some ⟨nb,0,none⟩),.pointer (some ⟨fb,0,none⟩)] H n k=_
 unfold aY
 have:(fX P 123 && bK [a,b,.pointer (some ⟨sb,0,none⟩),.pointer (some ⟨nb,0,none⟩),.pointer (some ⟨fb,0,none⟩)])=false:=by simp [bK,bx]
 rw[this,call123]
structure StS (H:Hp) (sb nb fb rb:Nat) (seen:Nat→Bool) (m:Net):Prop where
 seen:cj H sb 18 179 fun k=>.bool (seen k)
 self:H.get fb=some (.cells [Rv sb nb fb] 180 false none)
 cell:H.get nb=some (.cells [.map (some rb)] 160 false none)
 net:gk H rb m
structure PlS (base sb nb fb rb:Nat):Prop where
 low:sb<base∧nb<base∧fb<base∧rb<base
 off:sb≠nb∧sb≠fb∧sb≠rb∧nb≠rb∧fb≠rb
theorem StS.keep{H H':Hp}{base n sb nb fb rb:Nat}{seen:Nat→Bool}{m:Net}(h:StS H sb nb fb rb seen m)(pl:PlS base sb nb fb rb)(hb:base≤n)(hk:∀ b,b<n→H'.get b=H.get b):StS H' sb nb fb rb seen m:=by
 obtain⟨l1,l2,l3,l4⟩:=pl.low
 refine⟨?_,(hk _ (by omega)).trans h.self,(hk _ (by omega)).trans h.cell,h.net.keep (hk _ (by omega))⟩
 obtain⟨c,a1,a2,a3⟩:=h.seen
 exact⟨c,(hk _ (by omega)).trans a1,a2,a3⟩
def rk(m:Net):Prop:=∀ u v,0≤m u v∧(u<18→v<18→m u v+m v u≤1000000)
def Uk(r:Res)(n:Nat)(H:Hp)(sb nb fb rb:Nat)(w:Went):Prop:=∃ H' n',r=some (.int .i64 w.sent,H',n')∧n≤n'∧StS H' sb nb fb rb w.seen w.net∧∀ b,b<n→b≠sb→b≠rb→H'.get b=H.get b
theorem goesN_step{rec:Nat→Int→(Nat→Bool)→Net→Went}{N node i:Nat}{young:Int}{seen:Nat→Bool}{n:Net}(h:i<N):xx rec N node young (N-i) seen n =
  if n node i=0∨seen i=true then xx rec N node young (N-(i+1)) seen n
  else if 0<(rec i (min young (n node i)) seen n).sent then⟨(rec i (min young (n node i)) seen n).sent,(rec i (min young (n node i)) seen n).seen,uK (rec i (min young (n node i)) seen n).net node i (rec i (min young (n node i)) seen n).sent⟩
  else xx rec N node young (N-(i+1)) (rec i (min young (n node i)) seen n).seen (rec i (min young (n node i)) seen n).net:=by
 have e:N-i=(N-(i+1))+1:=by omega
 have e2:N-((N-(i+1))+1)=i:=by omega
 rw[e,xx,e2]
theorem least_row(l:Nat)(a x:Int){H:Hp}{n b fb:Nat}{sb nb:Nat}(hf:H.get fb=some (.cells [Rv sb nb fb] 180 false none))(hx:H.get b=some (.cells [.int .i64 x] 3 false none))(hne:b≠fb) :
  ∃ H',(∀ b',H'.get b'=H.get b')∧∀ k:Value→Hp→Nat→Option ρ,effK P [(.l 180 ⟨fb,0,none⟩)] H n (fun H n k=>aY P (cal (l+1)) 105 [.int .i64 a,.slice (some ⟨b,0,none⟩) 1 1] H n fun v H n=>k v H n) k=k (.int .i64 (min a x)) H' n:=by
 obtain⟨H',H2,n2,h1,⟨h2,rfl⟩,h3,h4⟩:=Mz (P:=P) (ρ:=ρ) (ex:=[.l 180 ⟨fb,0,none⟩]) (H:=H) (n:=n) (v:=.int .i64 (min a x))
  (op:=fun H n k=>aY P (cal (l+1)) 105 [.int .i64 a,.slice (some ⟨b,0,none⟩) 1 1] H n fun v H n=>k v H n) (R:=fun H2 n2=>(∀ b',b'≠fb→H2.get b'=H.get b')∧n2=n)
  (fun y hy=>by
   rw[List.mem_singleton] at hy
   exact⟨_,_,hy,.inl ⟨_,_,_,_,hf⟩⟩)
  (fun Hm hm=>by
   have off:∀ b',b'≠fb→¬ ldOf [Extra.l 180 ⟨fb,0,none⟩] b':=fun b' hb=>by
    rintro⟨t,a,q1,q2⟩
    rw[List.mem_singleton] at q1
    cases q1
    exact hb q2.symm
   refine⟨Hm,n,fun k=>?_,fun _ _=>rfl,fun b' hb=>hm b' (off b' hb),rfl⟩
   have hc:aZ Hm b 0 [.int .i64 x]:=cY ((hm b (off b hne)).trans hx)
   unfold aY
   have:(fX P 105 && bK [.int .i64 a,.slice (some ⟨b,0,none⟩) 1 1])=false:=by rw[Bool.and_eq_false_iff]; exact .inr rfl
   rw[this,call105,least_spec (cal l) a x hc]
   rfl)
 refine⟨H',fun b'=>?_,fun k=>h1 k⟩
 by_cases c:b'=fb
 ·subst c
  exact h3 _ ⟨_,_,List.mem_singleton.2 rfl,rfl⟩
 ·rw[h4 b' (fun⟨t,a,q1,q2⟩=>by rw[List.mem_singleton] at q1; cases q1; exact c q2.symm)]
  exact h2 b' c
def RecOk(lv:Nat)(base sb nb fb rb d:Nat):Prop:=∀(v:Nat) (y:Int) (seen:Nat→Bool) (m:Net) (H:Hp) (n:Nat),v<18→(v≠17→seen v=false)→0<y→y≤8000→uz 18 seen<d→rk m→base≤n→StS H sb nb fb rb seen m →
 Uk (NX (cal lv) KK (.int .i64 v) (.int .i64 y) (.pointer (some ⟨sb,0,none⟩)) (.pointer (some ⟨nb,0,none⟩)) (.pointer (some ⟨fb,0,none⟩)) H n) n H sb nb fb rb (dQ 18 17 d v y seen m)
theorem go_loop(lv:Nat){base sb nb fb rb d node:Nat}{y:Int}(pl:PlS base sb nb fb rb)(hnode:node<18)(hy:0<y∧y≤8000)(hrec:RecOk (lv+1) base sb nb fb rb d) :
  ∀(q i:Nat) (seen:Nat→Bool) (m:Net) (H:Hp) (n:Nat),i≤18→18-i≤q→seen node=true→uz 18 seen<d→rk m→base≤n→StS H sb nb fb rb seen m →
   Uk (Zv (cal (lv+2)) KK q (.int .i64 node) (.int .i64 y) (.pointer (some ⟨sb,0,none⟩)) (.pointer (some ⟨nb,0,none⟩)) (.pointer (some ⟨fb,0,none⟩)) (.int .i64 i) H n) n H sb nb fb rb (xx (dQ 18 17 d) 18 node y (18-i) seen m):=by
 obtain⟨l1,l2,l3,l4⟩:=pl.low
 obtain⟨o1,o2,o3,o4,o5⟩:=pl.off
 have body:∀(b1:Value→Value→Value→Value→Value→Value→Hp→Nat→Res) (q i:Nat) (seen:Nat→Bool) (m:Net) (H:Hp) (n:Nat),i≤18→seen node=true→uz 18 seen<d→rk m→base≤n→StS H sb nb fb rb seen m →
   (∀(seen:Nat→Bool) (m:Net) (H:Hp) (n:Nat),i<18→seen node=true→uz 18 seen<d→rk m→base≤n→StS H sb nb fb rb seen m →
    Uk (b1 (.int .i64 node) (.int .i64 y) (.pointer (some ⟨sb,0,none⟩)) (.pointer (some ⟨nb,0,none⟩)) (.pointer (some ⟨fb,0,none⟩)) (.int .i64 ((i+1:Nat):Int)) H n) n H sb nb fb rb (xx (dQ 18 17 d) 18 node y (18-(i+1)) seen m)) →
   Uk (Zq (cal (lv+2)) KK q b1 (.int .i64 node) (.int .i64 y) (.pointer (some ⟨sb,0,none⟩)) (.pointer (some ⟨nb,0,none⟩)) (.pointer (some ⟨fb,0,none⟩)) (.int .i64 i) H n) n H sb nb fb rb (xx (dQ 18 17 d) 18 node y (18-i) seen m):=by
  intro b1 q i seen m H n hi hsn hu hm hb st ih
  have c18:(18:Int)=((18:Nat):Int):=rfl
  unfold Zq B123_1
  rw[aJ dq,jx]
  by_cases hlt:i<18
  ·have hI1:I64 ((i:Int)+1):=by unfold I64; omega
   have hcast:((i:Int)+1)=((i+1:Nat):Int):=by omega
   have next:∀(seen:Nat→Bool) (m:Net) (H:Hp) (n:Nat),seen node=true→uz 18 seen<d→rk m→base≤n→StS H sb nb fb rb seen m →
     Uk (Zj (cal (lv+2)) KK q b1 (.int .i64 node) (.int .i64 y) (.pointer (some ⟨sb,0,none⟩)) (.pointer (some ⟨nb,0,none⟩)) (.pointer (some ⟨fb,0,none⟩)) (.int .i64 i) H n) n H sb nb fb rb (xx (dQ 18 17 d) 18 node y (18-(i+1)) seen m):=fun seen m H n h0 h1 h2 h3 h4=>by
    unfold Zj B123_2
    rw[aJ (bW hI1),hcast]
    exact ih seen m H n hlt h0 h1 h2 h3 h4
   rw[if_pos (by omega),aQ,aj,iy st.cell xy rfl rfl,aj,CY,aj,Uz st.net,aj,aJ lY,goesN_step hlt]
   cases hz:decide (m node i=0) with
   | true=>
    rw[if_pos (.inl (of_decide_eq_true hz))]
    simp only[oQ,dY,aj,fQ]
    exact next seen m H n hsn hu hm hb st
   | false=>
    have hz:=of_decide_eq_false hz
    simp only[oJ,at179 sb hlt,aj,aQ,st.seen.load agg4 hlt,ew]
    cases hs:seen i with
    | true=>
     rw[if_pos (.inr rfl),fQ]
     exact next seen m H n hsn hu hm hb st
    | false=>
     have hpos:0<m node i:=by have:=(hm node i).1; omega
     have hsm:m node i≤1000000:=by have:=(hm node i).2 hnode hlt; have:=(hm i node).1; omega
     rw[if_neg (by rintro(h | h); exact hz h; cases h),eV,iy st.self agg180 rfl rfl,aj,row44,aj]
     unfold newK
     dsimp only
     have hrow:(H.set n (some (.cells [.int .i64 (m node i)] 3 false none))).get n=some (.cells [.int .i64 (m node i)] 3 false none):=by rw[Tr.get_set,if_pos rfl]
     have k1:∀ b,b<n→(H.set n (some (.cells [.int .i64 (m node i)] 3 false none))).get b=H.get b:=fun b hb=>by rw[Tr.get_set,if_neg (by omega)]
     generalize H.set n (some (.cells [.int .i64 (m node i)] 3 false none))=H1 at hrow k1 ⊢
     have st1:StS H1 sb nb fb rb seen m:=st.keep pl hb k1
     obtain⟨H2,k2,e2⟩:=least_row (ρ:=Value × Hp × Nat) (lv+1) y (m node i) (n:=n+1) st1.self hrow (show n≠fb by omega)
     rw[e2]
     have st2:StS H2 sb nb fb rb seen m:=st1.keep (n:=n+1) pl (by omega) fun b _=>k2 b
     have hmin:0<min y (m node i)∧min y (m node i)≤8000:=by omega
     obtain⟨H3,n3,e3,q3,st3,k3⟩:=hrec i (min y (m node i)) seen m H2 (n+1) hlt (fun _=>hs) hmin.1 hmin.2 hu hm (by omega) st2
     have facts:((dQ 18 17 d i (min y (m node i)) seen m).sent≤0→Shut 18 17 i seen m (dQ 18 17 d i (min y (m node i)) seen m))∧(0<(dQ 18 17 d i (min y (m node i)) seen m).sent→Sends 18 17 i (min y (m node i)) seen m (dQ 18 17 d i (min y (m node i)) seen m)):=
      ⟨fun h=>By hu hlt (fun _=>hs) hmin.1 (fun u v=>(hm u v).1) h,fun h=>Cj hu hlt (fun _=>hs) hmin.1 (fun u v=>(hm u v).1) h⟩
     generalize dQ 18 17 d i (min y (m node i)) seen m=w at e3 st3 facts ⊢
     have kk:∀ b,b<n→b≠sb→b≠rb→H3.get b=H.get b:=fun b hb h1 h2=>by rw[k3 b (by omega) h1 h2,k2,k1 b hb]
     rw[srch_value (lv+1),e3,aj,aJ vx,jx]
     by_cases hsent:0<w.sent
     ·have S:=facts.2 hsent
      have sm:∀ u v,u<18→v<18→0≤w.net u v∧w.net u v≤1000000:=fun u v hu hv=>by
       have a1:=S.ge u v
       have a2:=S.ge v u
       have a3:=S.anti u v
       have a4:=(hm u v).2 hu hv
       omega
      have hle:=S.le
      have hI2:I64 (w.net node i-w.sent):=by have:=sm node i hnode hlt; unfold I64; omega
      have hI3:I64 (setN w.net node i (w.net node i-w.sent) i node+w.sent):=by
       unfold setN
       have:=sm i node hlt hnode
       have:=sm node i hnode hlt
       unfold I64
       split <;> omega
      rw[if_pos hsent,if_pos hsent]
      dsimp only
      rw[iy st3.cell xy rfl rfl,aj,Uz st3.net,aj,aJ (vy hI2)]
      obtain⟨r2,j,H4,H5,f1,f2,f3,f4,f5⟩:=net_op (ρ:=Value × Hp × Nat) (n:=n3) st3.net node i (w.net node i-w.sent)
      have cell5:H5.get nb=some (.cells [.map (some rb)] 160 false none):=(f5 nb (by omega)).trans st3.cell
      rw[f1,f2,aj,f3,aj,iy cell5 xy rfl rfl,aj,CY,aj,Uz f4,aj,aJ (bW hI3)]
      obtain⟨r3,j3,H6,H7,g1,g2,g3,g4,g5⟩:=net_op (ρ:=Value × Hp × Nat) (n:=n3) f4 i node (setN w.net node i (w.net node i-w.sent) i node+w.sent)
      rw[g1,g2,aj,g3,aj]
      have k7:∀ b,b≠rb→H7.get b=H3.get b:=fun b hb=>(g5 b hb).trans (f5 b hb)
      refine⟨H7,n3,rfl,by omega,⟨?_,(k7 fb (by omega)).trans st3.self,(k7 nb (by omega)).trans st3.cell,?_⟩,fun b hb h1 h2=>by rw[k7 b h2,kk b hb h1 h2]⟩
      ·obtain⟨c,a1,a2,a3⟩:=st3.seen
       exact⟨c,(k7 sb (by omega)).trans a1,a2,a3⟩
      ·have hne:node≠i:=fun h=>by rw[h,hs] at hsn; cases hsn
       have e:setN (setN w.net node i (w.net node i-w.sent)) i node (setN w.net node i (w.net node i-w.sent) i node+w.sent)=uK w.net node i w.sent:=by
        funext a c
        unfold setN uK
        by_cases c1:a=i∧c=node
        ·rw[if_pos c1,if_neg (by omega),if_neg (by omega),if_pos c1,c1.1,c1.2]
        ·rw[if_neg c1]
         by_cases c2:a=node∧c=i
         ·rw[if_pos c2,if_pos c2,c2.1,c2.2]
         ·rw[if_neg c2,if_neg c2,if_neg c1]
       rw[← e]
       exact g4
     ·have Z:=facts.1 (by omega)
      have hu3:uz 18 w.seen<d:=Nat.lt_of_le_of_lt (Xj Z.more) hu
      rw[if_neg hsent,if_neg hsent]
      obtain⟨H4,n4,r1,r2,r3,r4⟩:=next w.seen w.net H3 n3 (Z.more _ hsn) hu3 (by rw[Z.net]; exact hm) (by omega) st3
      exact⟨H4,n4,r1,by omega,r3,fun b hb h1 h2=>by rw[r4 b (by omega) h1 h2,kk b hb h1 h2]⟩
  ·rw[if_neg (by omega)]
   have:i=18:=by omega
   subst this
   exact⟨H,n,rfl,Nat.le_refl _,st,fun _ _ _ _=>rfl⟩
 intro q
 induction q with
 | zero=>
  intro i seen m H n h1 h2 h0 h3 h4 h5 h6
  exact body _ 0 i seen m H n h1 h0 h3 h4 h5 h6 (fun _ _ _ _ h=>by omega)
 | succ q ih=>
  intro i seen m H n h1 h2 h0 h3 h4 h5 h6
  exact body _ (q+1) i seen m H n h1 h0 h3 h4 h5 h6 (fun seen m H n p1 p2 p3 p4 p5 p6=>ih (i+1) seen m H n (by omega) (by omega) p2 p3 p4 p5 p6)
noncomputable def MY(S:List Int)(l0:Int):Nat→Int
 | 0=>l0
 | i+1=>MY S l0 i-min (MY S l0 i) (S.getD (i * 2+1) 0-S.getD (i * 2) 0)
noncomputable def numN(S:List Int)(l0:Int)(i:Nat):Int:=S.getD (i * 2) 0+min (MY S l0 i) (S.getD (i * 2+1) 0-S.getD (i * 2) 0)
theorem left_pos{S:List Int}{l0:Int}(h0:0≤l0):∀ i,0≤MY S l0 i
 | 0=>h0
 | i+1=>by
  have:=left_pos (S:=S) h0 i
  simp only[MY]
  omega
theorem left_max{S:List Int}{l0:Int}(h0:0≤l0):∀ i,(∀ k,k<i→S.getD (k * 2) 0≤S.getD (k * 2+1) 0)→MY S l0 i=max 0 (l0-(ak (fun p=>S.getD (p * 2+1) 0) i-ak (fun p=>S.getD (p * 2) 0) i))
 | 0,_=>by simp only[MY,ak]; omega
 | i+1,h=>by
  have ih:=left_max (S:=S) h0 i (fun k hk=>h k (by omega))
  have hi:=h i (by omega)
  simp only[MY,ak]
  rw[ih]
  omega
theorem num_in{S:List Int}{l0:Int}(h0:0≤l0){i:Nat}(h:S.getD (i * 2) 0≤S.getD (i * 2+1) 0):S.getD (i * 2) 0≤numN S l0 i∧numN S l0 i≤S.getD (i * 2+1) 0:=by
 have:=left_pos (S:=S) h0 i
 unfold numN
 omega
theorem num_sum{S:List Int}{l0:Int}:∀ i,ak (numN S l0) i=ak (fun p=>S.getD (p * 2) 0) i+(l0-MY S l0 i)
 | 0=>by simp only[ak,MY]; omega
 | i+1=>by
  have ih:=num_sum (S:=S) (l0:=l0) i
  simp only[ak,MY]
  rw[ih]
  unfold numN
  omega
def fixS(S:List Int)(p:Nat)(a:Int):List Int:=(S.set (p * 2) a).set (p * 2+1) a
theorem fixS_same{S:List Int}{p:Nat}{a:Int}(h:p * 2+2≤S.length):(fixS S p a).getD (p * 2) 0=a∧(fixS S p a).getD (p * 2+1) 0=a:=by
 unfold fixS
 constructor
 ·rw[List.getD_eq_getElem?_getD,List.getElem?_set,if_neg (by omega),List.getElem?_set,if_pos rfl,if_pos (by omega)]; rfl
 ·rw[List.getD_eq_getElem?_getD,List.getElem?_set,if_pos rfl,if_pos (by simp; omega)]; rfl
theorem qdq{S:List Int}{p q:Nat}{a:Int}(h:q≠p):(fixS S p a).getD (q * 2) 0=S.getD (q * 2) 0∧(fixS S p a).getD (q * 2+1) 0=S.getD (q * 2+1) 0:=by
 unfold fixS
 constructor
 ·rw[List.getD_eq_getElem?_getD,List.getElem?_set,if_neg (by omega),List.getElem?_set,if_neg (by omega),← List.getD_eq_getElem?_getD]
 ·rw[List.getD_eq_getElem?_getD,List.getElem?_set,if_neg (by omega),List.getElem?_set,if_neg (by omega),← List.getD_eq_getElem?_getD]
theorem Xv{f g:Nat→Int}{p:Nat}(h:∀ k,k≠p→g k=f k):∀ i,ak g i=ak f i+if p<i then g p-f p else 0
 | 0=>by simp [ak]
 | i+1=>by
  have ih:=Xv h i
  simp only[ak]
  rw[ih]
  by_cases c:i=p
  ·subst c
   rw[if_neg (by omega),if_pos (by omega)]
   omega
  ·rw[h i c]
   by_cases d:p<i
   ·rw[if_pos d,if_pos (by omega)]; omega
   ·rw[if_neg d,if_neg (by omega)]; omega
theorem total_fix{S:List Int}{p:Nat}{a:Int}(hS:S.length=16)(hp:p<8):total (fixS S p a) 0=total S 0-S.getD (p * 2) 0+a∧total (fixS S p a) 1=total S 1-S.getD (p * 2+1) 0+a:=by
 obtain⟨e0,e1⟩:=fixS_same (S:=S) (p:=p) (a:=a) (by omega)
 unfold total
 constructor
 ·have:=Xv (f:=fun q=>S.getD (q * 2+0) 0) (g:=fun q=>(fixS S p a).getD (q * 2+0) 0) (p:=p) (fun k hk=>(qdq hk).1) 8
  rw[if_pos hp] at this
  simp only[Nat.add_zero] at this ⊢
  omega
 ·have:=Xv (f:=fun q=>S.getD (q * 2+1) 0) (g:=fun q=>(fixS S p a).getD (q * 2+1) 0) (p:=p) (fun k hk=>(qdq hk).2) 8
  rw[if_pos hp] at this
  omega
noncomputable def Pw(y:Int)(S:List Int)(p:Nat)(a:Int)(i:Nat):Int:=numN (fixS S p a) (y-total (fixS S p a) 0) i
theorem spreadN_ok{y:Int}{S:List Int}{p:Nat}{a:Int}(hS:S.length=16)(hp:p<8)(hle:∀ k,S.getD (k * 2) 0≤S.getD (k * 2+1) 0)(h0:ext y S 0 p≤a)(h1:a≤ext y S 1 p) :
  (∀ i,S.getD (i * 2) 0≤Pw y S p a i∧Pw y S p a i≤S.getD (i * 2+1) 0)∧Pw y S p a p=a∧ak (Pw y S p a) 8=y∧0≤y-total (fixS S p a) 0:=by
 obtain⟨t0,t1⟩:=total_fix (S:=S) (p:=p) (a:=a) hS hp
 have x0:max (S.getD (p * 2) 0) (y-(total S 1-S.getD (p * 2+1) 0))≤a:=h0
 have x1:a≤min (S.getD (p * 2+1) 0) (y-(total S 0-S.getD (p * 2) 0)):=h1
 have hl:0≤y-total (fixS S p a) 0:=by omega
 obtain⟨f0,f1⟩:=fixS_same (S:=S) (p:=p) (a:=a) (by omega)
 have hle':∀ k,(fixS S p a).getD (k * 2) 0≤(fixS S p a).getD (k * 2+1) 0:=fun k=>by
  by_cases c:k=p
  ·subst c; omega
  ·obtain⟨g0,g1⟩:=qdq (S:=S) (a:=a) c
   have:=hle k
   omega
 have hn:Pw y S p a p=a:=by
  have:=num_in (S:=fixS S p a) hl (hle' p)
  rw[f0,f1] at this
  exact Int.le_antisymm this.2 this.1
 refine⟨fun i=>?_,hn,?_,hl⟩
 ·by_cases c:i=p
  ·subst c; rw[hn]; omega
  ·obtain⟨g0,g1⟩:=qdq (S:=S) (a:=a) c
   have:=num_in (S:=fixS S p a) hl (hle' i)
   rw[g0,g1] at this
   exact this
 ·have h8:=left_max (S:=fixS S p a) hl 8 (fun k _=>hle' k)
  have hs:=num_sum (S:=fixS S p a) (l0:=y-total (fixS S p a) 0) 8
  have e0:ak (fun p_1=>(fixS S p a).getD (p_1 * 2) 0) 8=total (fixS S p a) 0:=rfl
  have e1:ak (fun p_1=>(fixS S p a).getD (p_1 * 2+1) 0) 8=total (fixS S p a) 1:=rfl
  rw[e0,e1] at h8
  rw[e0] at hs
  have:ak (Pw y S p a) 8=ak (numN (fixS S p a) (y-total (fixS S p a) 0)) 8:=rfl
  rw[this,hs,h8]
  omega
theorem und59:P.underlying 59=some (.slice 44):=by kernel_rfl
theorem agg59:eZ P 59=some false:=by kernel_rfl
theorem sz59:szT P 59=some 1:=by kernel_rfl
theorem at59(b k c:Nat){i:Nat}(hi:i<k):aV P 59 (.slice (some ⟨b,0,none⟩) k c) (.int .i64 i)=some (.pointer (some ⟨b,0+i * 1,none⟩)):=by
 unfold aV
 simp only[und59,Jk hi,sz44]
 rfl
end Go.Proofs.Ytndkmmelelchcaa.spec
end
