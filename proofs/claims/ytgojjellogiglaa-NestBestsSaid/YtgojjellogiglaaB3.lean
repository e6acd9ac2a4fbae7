/- The best layout of any grove is as the document says, or the error is; and whether any list is a right layout with few enough nests: whatever the grove, the list and the number. -/
import Derived.Test.YtgojjellogiglaaB2
section
namespace Go.Proofs.Ytgojjellogiglaa.spec
open Go Go.Ev Go.Proofs.Ytgojjellogiglaa.nestFits Go.Proofs.Ytgojjellogiglaa.G
set_option maxRecDepth 100000
variable {ρ:Type}
theorem Hy {R Hd:List Int→Bool} {tk:Nat→Nat→Bool} {np nk d left:Nat} {L:List Int} (h:Hd L=false∨d<left):nq R Hd tk np nk d L left=none:=by
  cases d with
  | zero=>unfold nq; rw[if_pos h]
  | succ d=>unfold nq; rw[if_pos h]
theorem findL_last {R Hd:List Int→Bool} {tk:Nat→Nat→Bool} {np nk d:Nat} {L:List Int} (h:Hd L=true):nq R Hd tk np nk d L 0=if R L=true then some L else none:=by
  have no:∀ d,¬ (Hd L=false∨d<0):=fun d h'=>by
    rcases h' with z | z
    · rw[h] at z; cases z
    · omega
  cases d with
  | zero=>unfold nq; rw[if_neg (no 0)]
  | succ d=>unfold nq; rw[if_neg (no (d+1)),if_pos rfl]
theorem findL_step {R Hd:List Int→Bool} {tk:Nat→Nat→Bool} {np nk d left:Nat} {L:List Int} (h:Hd L=true) (h1:left≤d+1) (h2:left≠0):nq R Hd tk np nk (d+1) L left=match nq R Hd tk np nk d L left with
    | some r=>some r
    | none=>sX (fun kd=>if tk (np-(d+1)) kd=true then nq R Hd tk np nk d (L.set (np-(d+1)) (kd:Int)) (left-1) else none) nk nk:=by
  have no:¬ (Hd L=false∨d+1<left):=fun h'=>by
    rcases h' with z | z
    · rw[h] at z; cases z
    · omega
  rw[nq,if_neg no,if_neg h2]
  cases nq R Hd tk np nk d L left <;> rfl
def Yields (Inv:Hp→Nat→Prop) (Fin:List Int→Hp→Nat→Prop) (base np nj:Nat) (js ks ps:List Int) (yv:Value):Prop:=∀(lv:Nat) (L X:List Int) (H:Hp) (n:Nat),Inv H n→L.length=8→Bk X js ks L nj np 8→∃ H' n',n≤n'∧(∀ b,base≤b→b<n→H'.get b=H.get b) ∧
  ((nw js ks ps nj np L=true∧(∀ k:Value→Hp→Nat→Res,gk P (cal (lv+5)) yv [.agg ⟨ints L⟩,.agg ⟨ints X⟩] H n k=k (.bool false) H' n')∧Fin L H' n') ∨
   (nw js ks ps nj np L=false∧(∀ k:Value→Hp→Nat→Res,gk P (cal (lv+5)) yv [.agg ⟨ints L⟩,.agg ⟨ints X⟩] H n k=k (.bool true) H' n')∧Inv H' n'))
theorem place_spec (l:Nat) {Inv:Hp→Nat→Prop} {Fin:List Int→Hp→Nat→Prop} {base sb yb pb g np nj nk:Nat} {f:Nat→Value} {x y z yv:Value} {ps js ks:List Int} (ar:Around Inv base sb yb pb g np f x yv ps) (hs:SiteF f x y z js nj) (hz:lenV P 33 z=some (.int .i64 nk)) (hn:∀ p kd,p<np→kd<nk→pZ f js ks nj np p kd) (hks:kj ks nk) (hnp:np≤8) (hnk:nk≤3) (hY:Yields Inv Fin base np nj js ks ps yv) :
    ∀(d:Nat) (L X:List Int) (left p:Nat) (H:Hp) (n:Nat),p+d=np→Open L p→oJ L np nk→Bk X js ks L nj np 8→left≤8→Inv H n →
    wV Inv Fin base (IW (cal (l+5+d)) KK (.agg ⟨ints L⟩) (.agg ⟨ints X⟩) (.int .i64 p) (.int .i64 left) (.pointer (some ⟨sb,0,none⟩)) (.pointer (some ⟨yb,0,none⟩)) (.pointer (some ⟨pb,0,none⟩)) H n) (nq (nw js ks ps nj np) (nv js ks ps nj np) (fitD js ks nj np) np nk d L left) H n n:=by
  obtain⟨lo1,lo2,lo3,lo4⟩:=ar.low
  intro d
  induction d with
  | zero=>
    intro L X left p H n hpd hL hK hX hl8 hI
    obtain⟨f1,f2,f3,f4,f5,f6⟩:=ar.facts H n hI
    have lLi:(ints L).length=8:=by rw[aK,hL.1]
    have lXi:(ints X).length=16:=by rw[aK,hX.1]
    unfold IW B118_0
    generalize hS:PQ (cal (l+5+(0))) KK KK=S1
    rw[cQ,cQ]
    simp only[bj,ptr]
    have b1:((H.set n (some (.cells (ints L) 121 false none))).set (n+1) (some (.cells (ints X) 111 false none))).get n=some (.cells (ints L) 121 false none):=by rw[Tr.get_set,if_neg (by omega),Tr.get_set,if_pos rfl]
    have b2:((H.set n (some (.cells (ints L) 121 false none))).set (n+1) (some (.cells (ints X) 111 false none))).get (n+1)=some (.cells (ints X) 111 false none):=by rw[Tr.get_set,if_pos rfl]
    have b3:∀ b,b<n→((H.set n (some (.cells (ints L) 121 false none))).set (n+1) (some (.cells (ints X) 111 false none))).get b=H.get b:=fun b hb=>by rw[Tr.get_set,if_neg (by omega),Tr.get_set,if_neg (by omega)]
    generalize (H.set n (some (.cells (ints L) 121 false none))).set (n+1) (some (.cells (ints X) 111 false none))=H2 at b1 b2 b3 ⊢
    have hI2:Inv H2 (n+1+1):=ar.same H n H2 (n+1+1) hI (by omega) fun b hb=>b3 b (by omega)
    obtain⟨_,g2,g3,g4,g5,g6⟩:=ar.facts H2 _ hI2
    obtain⟨r,H3,n3,r0,r1,r2,r3⟩:=OV (ρ:=Value × Hp × Nat) (l+3+(0)) (show g<n+1+1 by omega) g5 hs (g6.up (show base≤n+1+1 by omega)) hnp hX.1
    rw[show l+3+(0)+2=l+5+(0) by omega] at r1
    have hr:r=true↔nv js ks ps nj np L=true:=r0.trans (holds_iff hX hnp)
    have hI3:Inv H3 n3:=ar.same H2 _ H3 n3 hI2 (by omega) fun b hb=>r3 b (by omega)
    have k3:∀ b,base≤b→b<n→H3.get b=H.get b:=fun b _ hb=>by rw[r3 b (by omega),b3 b hb]
    rw[aJ,aj,jV g2 xZ rfl rfl,aj,aJ,aj,bZ b2 oV qz lXi,aj,r1]
    cases r with
    | false=>
      have hh:nv js ks ps nj np L=false:=by
        cases c:nv js ks ps nj np L with
        | false=>rfl
        | true=>exact absurd (hr.2 c) (by simp)
      rw[Hy (.inl hh),qy,aj]
      simp only[jQ,fZ,cZ,aj,eJ]
      exact⟨H3,n3,by omega,k3,rfl,hI3⟩
    | true=>
      have hh:=hr.1 rfl
      obtain⟨_,q2,q3,q4,q5,q6⟩:=ar.facts H3 _ hI3
      have lx:az P H3 31 ⟨g,0+0+0,none⟩=some x:=by
        have:=q5.load (P:=P) (k:=0) Bz (by omega)
        rw[hs.x] at this; exact this
      have hlx:lenV P 31 x=some (.int .i64 np):=q6.len_eq CJ
      have hIs:I64 ((np:Int)-(p:Int)):=by unfold I64; omega
      rw[ow,aj]
      simp only[iQ,aJ,aj,jV q2 xZ rfl rfl,kW,pw,sW,lx,hlx,ak (wy hIs),ak wx,dv]
      cases hc:decide (((np:Int)-(p:Int))<(left:Int)) with
      | true=>
        have:=of_decide_eq_true hc
        rw[Hy (.inr (by omega)),eJ]
        exact⟨H3,n3,by omega,k3,rfl,hI3⟩
      | false=>
        have hle:=of_decide_eq_false hc
        have l1:=bZ ((r3 n (by omega)).trans b1) pK mK lLi
        have l2:=bZ ((r3 (n+1) (by omega)).trans b2) oV qz lXi
        rw[dW,ak jv]
        cases hz0:decide ((left:Int)=0) with
        | true=>
          have:left=0:=by have:=of_decide_eq_true hz0; omega
          subst this
          obtain⟨H4,n4,y1,y2,y3⟩:=hY (l+(0)) L X H3 n3 hI3 hL.1 hX
          rw[show l+(0)+5=l+5+(0) by omega] at y3
          rw[eJ,jV q3 agg175 ar.holes.1 ar.holes.2,aj,l1,aj,l2,aj,findL_last hh]
          have ky:∀ b,base≤b→b<n→H4.get b=H.get b:=fun b hb hbn=>by rw[y2 b hb (by omega),k3 b hb hbn]
          rcases y3 with⟨z1,z2,z3⟩ | ⟨z1,z2,z3⟩
          · rw[if_pos z1,z2]
            exact⟨H4,n4,by omega,ky,rfl,z3⟩
          · rw[if_neg (by rw[z1]; simp),z2]
            exact⟨H4,n4,by omega,ky,rfl,z3⟩
        | false=>
          have hl0:left≠0:=by have:=of_decide_eq_false hz0; omega
          exact absurd hle (by omega)
  | succ d ih=>
    intro L X left p H n hpd hL hK hX hl8 hI
    obtain⟨f1,f2,f3,f4,f5,f6⟩:=ar.facts H n hI
    have lLi:(ints L).length=8:=by rw[aK,hL.1]
    have lXi:(ints X).length=16:=by rw[aK,hX.1]
    unfold IW B118_0
    generalize hS:PQ (cal (l+5+(d+1))) KK KK=S1
    rw[cQ,cQ]
    simp only[bj,ptr]
    have b1:((H.set n (some (.cells (ints L) 121 false none))).set (n+1) (some (.cells (ints X) 111 false none))).get n=some (.cells (ints L) 121 false none):=by rw[Tr.get_set,if_neg (by omega),Tr.get_set,if_pos rfl]
    have b2:((H.set n (some (.cells (ints L) 121 false none))).set (n+1) (some (.cells (ints X) 111 false none))).get (n+1)=some (.cells (ints X) 111 false none):=by rw[Tr.get_set,if_pos rfl]
    have b3:∀ b,b<n→((H.set n (some (.cells (ints L) 121 false none))).set (n+1) (some (.cells (ints X) 111 false none))).get b=H.get b:=fun b hb=>by rw[Tr.get_set,if_neg (by omega),Tr.get_set,if_neg (by omega)]
    generalize (H.set n (some (.cells (ints L) 121 false none))).set (n+1) (some (.cells (ints X) 111 false none))=H2 at b1 b2 b3 ⊢
    have hI2:Inv H2 (n+1+1):=ar.same H n H2 (n+1+1) hI (by omega) fun b hb=>b3 b (by omega)
    obtain⟨_,g2,g3,g4,g5,g6⟩:=ar.facts H2 _ hI2
    obtain⟨r,H3,n3,r0,r1,r2,r3⟩:=OV (ρ:=Value × Hp × Nat) (l+3+(d+1)) (show g<n+1+1 by omega) g5 hs (g6.up (show base≤n+1+1 by omega)) hnp hX.1
    rw[show l+3+(d+1)+2=l+5+(d+1) by omega] at r1
    have hr:r=true↔nv js ks ps nj np L=true:=r0.trans (holds_iff hX hnp)
    have hI3:Inv H3 n3:=ar.same H2 _ H3 n3 hI2 (by omega) fun b hb=>r3 b (by omega)
    have k3:∀ b,base≤b→b<n→H3.get b=H.get b:=fun b _ hb=>by rw[r3 b (by omega),b3 b hb]
    rw[aJ,aj,jV g2 xZ rfl rfl,aj,aJ,aj,bZ b2 oV qz lXi,aj,r1]
    cases r with
    | false=>
      have hh:nv js ks ps nj np L=false:=by
        cases c:nv js ks ps nj np L with
        | false=>rfl
        | true=>exact absurd (hr.2 c) (by simp)
      rw[Hy (.inl hh),qy,aj]
      simp only[jQ,fZ,cZ,aj,eJ]
      exact⟨H3,n3,by omega,k3,rfl,hI3⟩
    | true=>
      have hh:=hr.1 rfl
      obtain⟨_,q2,q3,q4,q5,q6⟩:=ar.facts H3 _ hI3
      have lx:az P H3 31 ⟨g,0+0+0,none⟩=some x:=by
        have:=q5.load (P:=P) (k:=0) Bz (by omega)
        rw[hs.x] at this; exact this
      have hlx:lenV P 31 x=some (.int .i64 np):=q6.len_eq CJ
      have hIs:I64 ((np:Int)-(p:Int)):=by unfold I64; omega
      rw[ow,aj]
      simp only[iQ,aJ,aj,jV q2 xZ rfl rfl,kW,pw,sW,lx,hlx,ak (wy hIs),ak wx,dv]
      cases hc:decide (((np:Int)-(p:Int))<(left:Int)) with
      | true=>
        have:=of_decide_eq_true hc
        rw[Hy (.inr (by omega)),eJ]
        exact⟨H3,n3,by omega,k3,rfl,hI3⟩
      | false=>
        have hle:=of_decide_eq_false hc
        have l1:=bZ ((r3 n (by omega)).trans b1) pK mK lLi
        have l2:=bZ ((r3 (n+1) (by omega)).trans b2) oV qz lXi
        rw[dW,ak jv]
        cases hz0:decide ((left:Int)=0) with
        | true=>
          have:left=0:=by have:=of_decide_eq_true hz0; omega
          subst this
          obtain⟨H4,n4,y1,y2,y3⟩:=hY (l+(d+1)) L X H3 n3 hI3 hL.1 hX
          rw[show l+(d+1)+5=l+5+(d+1) by omega] at y3
          rw[eJ,jV q3 agg175 ar.holes.1 ar.holes.2,aj,l1,aj,l2,aj,findL_last hh]
          have ky:∀ b,base≤b→b<n→H4.get b=H.get b:=fun b hb hbn=>by rw[y2 b hb (by omega),k3 b hb hbn]
          rcases y3 with⟨z1,z2,z3⟩ | ⟨z1,z2,z3⟩
          · rw[if_pos z1,z2]
            exact⟨H4,n4,by omega,ky,rfl,z3⟩
          · rw[if_neg (by rw[z1]; simp),z2]
            exact⟨H4,n4,by omega,ky,rfl,z3⟩
        | false=>
          have hl0:left≠0:=by have:=of_decide_eq_false hz0; omega
          have hI1:I64 ((p:Int)+1):=by unfold I64; omega
          have hc1:((p:Int)+1)=((p+1:Nat):Int):=by omega
          have ep:np-(d+1)=p:=by omega
          have epl:=Kz (ρ:=Value × Hp × Nat) (l+5+d) (.agg ⟨ints L⟩) (.agg ⟨ints X⟩) (.int .i64 ((p+1:Nat):Int)) (.int .i64 left) sb yb pb
          rw[show l+5+d+1=l+5+(d+1) by omega] at epl
          obtain⟨H4,n4,y1,y2,y3⟩:=ih L X left (p+1) H3 n3 (by omega) hL.skip hK hX hl8 hI3
          rw[dW,jV q4 agg176 rfl rfl,aj,l1,aj,l2,aj,ak (bV hI1),hc1,epl,findL_step hh (by omega) hl0,ep]
          have ky:∀ b,base≤b→b<n3→H4.get b=H3.get b:=fun b hb hbn=>y2 b hb hbn
          cases hfd:nq (nw js ks ps nj np) (nv js ks ps nj np) (fitD js ks nj np) np nk d L left with
          | some M=>
            rw[hfd] at y3
            obtain⟨y3,y4⟩:=y3
            rw[y3,aj]
            dsimp only
            rw[qy,aj,eJ]
            exact⟨H4,n4,by omega,fun b hb hbn=>by rw[ky b hb (by omega),k3 b hb hbn],rfl,y4⟩
          | none=>
            rw[hfd] at y3
            obtain⟨y3,y4⟩:=y3
            obtain⟨_,w2,w3,w4,w5,w6⟩:=ar.facts H4 _ y4
            have lz:az P H4 33 ⟨g,0+0+2,none⟩=some z:=by
              have:=w5.load (P:=P) (k:=2) agg33 (by omega)
              rw[hs.z] at this; exact this
            rw[y3,aj]
            dsimp only
            rw[ow,aj,dW,jV w2 xZ rfl rfl,aj,kW,aj,pw,aj,Oy,aj,aJ,aj,lz,aj,hz,aj,← hS]
            have:=kinds_loop l KK (t:=n) (bL:=n) (bX:=n+1) ar hs hz hn hks hnp hnk (show p<np by omega) hL hK hX (by omega) hl8 f1 (by omega) (by omega) (by omega)
              (fun kd Z H n hkd hfit hZ hI=>ih (L.set p (kd:Int)) Z (left-1) (p+1) H n (by omega) hL.put (kinds_put hK hL.1 (by omega) hkd) hZ (by omega) hI)
              KK 0 L H4 n4 y4 (by omega) (by omega) hL.1 (fun a=>rfl) (by rw[ky n (by omega) (by omega),r3 n (by omega)]; exact b1) (by rw[ky (n+1) (by omega) (by omega),r3 (n+1) (by omega)]; exact b2) (Nat.zero_le _) (by unfold KK; omega)
            rw[Nat.sub_zero] at this
            exact this.from (by omega) (Nat.le_refl _) fun b hb hbn=>by rw[ky b hb (by omega),k3 b hb hbn]
end Go.Proofs.Ytgojjellogiglaa.spec
end
section
namespace Go.Proofs.Ytgojjellogiglaa.spec
open Go Go.Ev Go.Proofs.Ytgojjellogiglaa.nestFits Go.Proofs.Ytgojjellogiglaa.G
set_option maxRecDepth 100000
variable {ρ:Type}
noncomputable def code81:Code:=cq 81
noncomputable def kJ:List ResultVar:=dJ 81
noncomputable def loop81:Code:=cL (cR (cL (cR (cR (cL (cR code81))))))
noncomputable def tail81:Code:=cR (cR (cR (cL (cR code81))))
noncomputable def body81:Code:=cL loop81
noncomputable def rang81:Code:=cR (cR (cL (cL (cR (cR body81)))))
noncomputable def lj:Code:=asgOf (cL rang81)
noncomputable def lk:Code:=bodOf (cL rang81)
noncomputable def KE (c:Cal) (k:Nat):KC (Value × Hp × Nat):=ay P c (aw P c k) none 81 tail81 .leaf (av P kJ) X0 (av P kJ)
noncomputable def LP (c:Cal) (k m:Nat):KC (Value × Hp × Nat):=aw P c m .leaf none 81 loop81 (KE c k) (upX 0 (KE c k) X0) (av P kJ)
noncomputable def KN (c:Cal) (k m:Nat):KC (Value × Hp × Nat):=ay P c (aw P c m) none 81 (cR (cR (cR body81))) .leaf (fun T H n D=>LP c k m T H n D) (upX 0 (KE c k) X0) (av P kJ)
def upd (o:Nat→Value) (i:Nat) (v:Value):Nat→Value:=fun j=>match Nat.beq j i with
  | true=>v
  | false=>o j
noncomputable def TA (o:Nat→Value) (v1 v2 v4 v5 v16 v17:Value):Tm:=((((((((((((((((Tr.nil:Tm).set 0 (some (o 0))).set 1 (some v1)).set 2 (some v2)).set 3 (some (o 3))).set 4 (some v4)).set 5 (some v5)).set 9 (some (o 9))).set 10 (some (o 10))).set 11 (some (o 11))).set 12 (some (o 12))).set 13 (some (o 13))).set 14 (some (o 14))).set 15 (some (o 15))).set 16 (some v16)).set 17 (some v17))
noncomputable def TB (o:Nat→Value) (v1 v2 v4 v5 v16 v17:Value):Tm:=((((((((((((((((((((((Tr.nil:Tm).set 0 (some (o 0))).set 1 (some v1)).set 2 (some v2)).set 3 (some (o 3))).set 4 (some v4)).set 5 (some v5)).set 9 (some (o 9))).set 10 (some (o 10))).set 11 (some (o 11))).set 12 (some (o 12))).set 13 (some (o 13))).set 14 (some (o 14))).set 15 (some (o 15))).set 16 (some v16)).set 17 (some v17)).set 18 (some (o 18))).set 19 (some (o 19))).set 6 (some (o 6))).set 20 (some (o 20))).set 21 (some (o 21))).set 22 (some (o 22)))
noncomputable def TC (o:Nat→Value) (v1 v2 v4 v5 v16 v17:Value):Tm:=(((((((((((((((((((((((Tr.nil:Tm).set 0 (some (o 0))).set 1 (some v1)).set 2 (some v2)).set 3 (some (o 3))).set 4 (some v4)).set 5 (some v5)).set 9 (some (o 9))).set 10 (some (o 10))).set 11 (some (o 11))).set 12 (some (o 12))).set 13 (some (o 13))).set 14 (some (o 14))).set 15 (some (o 15))).set 16 (some v16)).set 17 (some v17)).set 18 (some (o 18))).set 19 (some (o 19))).set 6 (some (o 6))).set 20 (some (o 20))).set 21 (some (o 21))).set 22 (some (o 22))).set 29 (some (o 29)))
def o81 (v0 v9 v10 v11 v12 v13 v14 v15:Value):Nat→Value:=upd (upd (upd (upd (upd (upd (upd (upd (upd (fun _=>.nilIface) 0 v0) 3 (.bool false)) 9 v9) 10 v10) 11 v11) 12 v12) 13 v13) 14 v14) 15 v15
theorem pre81 (c:Cal) (k:Nat) (v0:Value) (H:Hp) (n:Nat):aZ P c A (k+1) 81 [v0] H n =
    (boxK 105 v0 H n fun v1 H n=>cX P 121 H n fun v2 H n=>aV P c 101 [] H n fun v9 H n=>cX P 121 H n fun v4 H n=>cX P 4 H n fun v5 H n=>aq (bx P 121 v4 v9 H) fun H=>aq (bx P 4 v5 (.bool false) H) fun H=>
      aq (aW v1) fun a=>aq (az P H 105 a) fun v10=>aq (nilV v10) fun v11=>aq (ax P 117 v11 0) fun v12=>aq (ax P 35 v12 0) fun v13=>aq (aW v13) fun a=>aq (az P H 31 a) fun v14=>aq (lenV P 31 v14) fun v15=>
      binK P .add 3 (.tmp 15) (.const (.int .i64 1)) v15 (.int .i64 1) fun v16=>LP c k (k+1) (TA (o81 v0 v9 v10 v11 v12 v13 v14 v15) v1 v2 v4 v5 v16 (.int .i64 0)) H n []):=by
  rw[bJ (fn:=Go.Proofs.Try.f81) (c:=code81) (rs:=kJ) (by kernel_rfl) (by kernel_rfl) (by kernel_rfl) (by kernel_rfl)]
  kernel_rfl
theorem loop81_A (c:Cal) (k m:Nat) (o:Nat→Value) (v1 v2 v4 v5 v16 v17:Value) (H:Hp) (n:Nat) (D:List Nat):LP c k (m+1) (TA o v1 v2 v4 v5 v16 v17) H n D =
    (binK P .lss 3 (.tmp 17) (.tmp 16) v17 v16 fun v18=>ifK v18
      (aq (aW v1) fun a=>aq (az P H 105 a) fun v20=>aV P c 110 [v20,v17] H n fun v22 H n=>
          wq P c none 81 v22 #[23,24] lj lk (KN c k m) (upX 2 (KN c k m) (upX 1 (KN c k m) (upX 0 (KE c k) X0))) (av P kJ) (TB (upd (upd (upd (upd (upd (upd o 18 v18) 19 v17) 6 v17) 20 v20) 21 v17) 22 v22) v1 v2 v4 v5 v16 v17) H n D)
      (KE c k ((TA o v1 v2 v4 v5 v16 v17).set 18 (some v18)) H n D)):=by
  kernel_rfl
theorem loop81_C (c:Cal) (k m:Nat) (o:Nat→Value) (v1 v2 v4 v5 v16 v17:Value) (H:Hp) (n:Nat) (D:List Nat):LP c k (m+1) (TC o v1 v2 v4 v5 v16 v17) H n D =
    (binK P .lss 3 (.tmp 17) (.tmp 16) v17 v16 fun v18=>ifK v18
      (aq (aW v1) fun a=>aq (az P H 105 a) fun v20=>aV P c 110 [v20,v17] H n fun v22 H n=>
          wq P c none 81 v22 #[23,24] lj lk (KN c k m) (upX 2 (KN c k m) (upX 1 (KN c k m) (upX 0 (KE c k) X0))) (av P kJ) (TC (upd (upd (upd (upd (upd (upd o 18 v18) 19 v17) 6 v17) 20 v20) 21 v17) 22 v22) v1 v2 v4 v5 v16 v17) H n D)
      (KE c k ((TC o v1 v2 v4 v5 v16 v17).set 18 (some v18)) H n D)):=by
  kernel_rfl
theorem next81_B (c:Cal) (k m:Nat) (o:Nat→Value) (v1 v2 v4 v5 v16 v17:Value) (H:Hp) (n:Nat) (D:List Nat):KN c k m (TB o v1 v2 v4 v5 v16 v17) H n D =
    (binK P .add 3 (.tmp 17) (.const (.int .i64 1)) v17 (.int .i64 1) fun v29=>LP c k m (TC (upd o 29 v29) v1 v2 v4 v5 v16 v29) H n D):=by
  kernel_rfl
theorem post81_B (c:Cal) (k:Nat) (o:Nat→Value) (v1 v2 v4 v5 v16 v17:Value) (H:Hp) (n:Nat) (D:List Nat):KE c k (TB o v1 v2 v4 v5 v16 v17) H n D =
    (aq (aW v4) fun a=>aq (az P H 121 a) fun v30=>aq (aW v5) fun a5=>aq (az P H 4 a5) fun v31=>effK P [.l 4 a5] H n (fun H n k=>aq (bx P 121 v2 v30 H) fun H=>k undef H n) fun _ H n=>
      getK (tw H D) fun H=>aq (resV P (((Tr.nil:Tm).set 3 (some v31)).set 2 (some v2)) H kJ) fun vs=>some (oneV vs,H,n)):=by
  kernel_rfl
theorem asg81_B (l lp:Nat) (o:Nat→Value) (v1 v2 v4 v5 v16 v17 p q:Value) (H:Hp) (n:Nat) :
    (cal (l+1)).body lp 81 lj { T:=((TB o v1 v2 v4 v5 v16 v17).set 23 (some p)).set 24 (some q),H,n,D:=[] } =
      (cX P 121 H n fun v7 H n=>aq (bx P 121 v7 p H) fun H=>cX P 111 H n fun v8 H n=>aq (bx P 111 v8 q H) fun H=>some (.norm,{ T:=((((TB o v1 v2 v4 v5 v16 v17).set 23 (some p)).set 24 (some q)).set 7 (some v7)).set 8 (some v8),H,n,D:=[] })):=by kernel_rfl
theorem bod81_B (l lp:Nat) (o:Nat→Value) (v1 v2 v4 v5 v16 v17 p q v7 v8:Value) (H:Hp) (n:Nat) :
    (cal (l+1)).body lp 81 lk { T:=((((TB o v1 v2 v4 v5 v16 v17).set 23 (some p)).set 24 (some q)).set 7 (some v7)).set 8 (some v8),H,n,D:=[] } =
      (aq (aW v1) fun a=>aq (az P H 105 a) fun v25=>aq (aW v8) fun a=>aq (az P H 111 a) fun v26=>aV P (cal l) 83 [v25,v26] H n fun v27 H n=>ifK v27
        (aq (aW v7) fun a=>aq (az P H 121 a) fun v28=>aq (bx P 121 v4 v28 H) fun H=>aq (bx P 4 v5 (.bool true) H) fun H=>
          some (.exit 0,{ T:=((((((((TB o v1 v2 v4 v5 v16 v17).set 23 (some p)).set 24 (some q)).set 7 (some v7)).set 8 (some v8)).set 25 (some v25)).set 26 (some v26)).set 27 (some v27)).set 28 (some v28),H,n,D:=[] }))
        (some (.norm,{ T:=(((((((TB o v1 v2 v4 v5 v16 v17).set 23 (some p)).set 24 (some q)).set 7 (some v7)).set 8 (some v8)).set 25 (some v25)).set 26 (some v26)).set 27 (some v27),H,n,D:=[] }))):=by kernel_rfl
theorem next81_C (c:Cal) (k m:Nat) (o:Nat→Value) (v1 v2 v4 v5 v16 v17:Value) (H:Hp) (n:Nat) (D:List Nat):KN c k m (TC o v1 v2 v4 v5 v16 v17) H n D =
    (binK P .add 3 (.tmp 17) (.const (.int .i64 1)) v17 (.int .i64 1) fun v29=>LP c k m (TC (upd o 29 v29) v1 v2 v4 v5 v16 v29) H n D):=by
  kernel_rfl
theorem post81_C (c:Cal) (k:Nat) (o:Nat→Value) (v1 v2 v4 v5 v16 v17:Value) (H:Hp) (n:Nat) (D:List Nat):KE c k (TC o v1 v2 v4 v5 v16 v17) H n D =
    (aq (aW v4) fun a=>aq (az P H 121 a) fun v30=>aq (aW v5) fun a5=>aq (az P H 4 a5) fun v31=>effK P [.l 4 a5] H n (fun H n k=>aq (bx P 121 v2 v30 H) fun H=>k undef H n) fun _ H n=>
      getK (tw H D) fun H=>aq (resV P (((Tr.nil:Tm).set 3 (some v31)).set 2 (some v2)) H kJ) fun vs=>some (oneV vs,H,n)):=by
  kernel_rfl
theorem asg81_C (l lp:Nat) (o:Nat→Value) (v1 v2 v4 v5 v16 v17 p q:Value) (H:Hp) (n:Nat) :
    (cal (l+1)).body lp 81 lj { T:=((TC o v1 v2 v4 v5 v16 v17).set 23 (some p)).set 24 (some q),H,n,D:=[] } =
      (cX P 121 H n fun v7 H n=>aq (bx P 121 v7 p H) fun H=>cX P 111 H n fun v8 H n=>aq (bx P 111 v8 q H) fun H=>some (.norm,{ T:=((((TC o v1 v2 v4 v5 v16 v17).set 23 (some p)).set 24 (some q)).set 7 (some v7)).set 8 (some v8),H,n,D:=[] })):=by kernel_rfl
theorem bod81_C (l lp:Nat) (o:Nat→Value) (v1 v2 v4 v5 v16 v17 p q v7 v8:Value) (H:Hp) (n:Nat) :
    (cal (l+1)).body lp 81 lk { T:=((((TC o v1 v2 v4 v5 v16 v17).set 23 (some p)).set 24 (some q)).set 7 (some v7)).set 8 (some v8),H,n,D:=[] } =
      (aq (aW v1) fun a=>aq (az P H 105 a) fun v25=>aq (aW v8) fun a=>aq (az P H 111 a) fun v26=>aV P (cal l) 83 [v25,v26] H n fun v27 H n=>ifK v27
        (aq (aW v7) fun a=>aq (az P H 121 a) fun v28=>aq (bx P 121 v4 v28 H) fun H=>aq (bx P 4 v5 (.bool true) H) fun H=>
          some (.exit 0,{ T:=((((((((TC o v1 v2 v4 v5 v16 v17).set 23 (some p)).set 24 (some q)).set 7 (some v7)).set 8 (some v8)).set 25 (some v25)).set 26 (some v26)).set 27 (some v27)).set 28 (some v28),H,n,D:=[] }))
        (some (.norm,{ T:=(((((((TC o v1 v2 v4 v5 v16 v17).set 23 (some p)).set 24 (some q)).set 7 (some v7)).set 8 (some v8)).set 25 (some v25)).set 26 (some v26)).set 27 (some v27),H,n,D:=[] }))):=by kernel_rfl
theorem set18_C (o:Nat→Value) (v1 v2 v4 v5 v16 v17 v18:Value):(TC o v1 v2 v4 v5 v16 v17).set 18 (some v18)=TC (upd o 18 v18) v1 v2 v4 v5 v16 v17:=by kernel_rfl
theorem call81 (l:Nat) (a:Value) (H:Hp) (n:Nat):(cal (l+1)).call 81 [a] H n=aZ P (cal l) A (KK+1) 81 [a] H n:=by kernel_rfl
theorem ntm81:ntm P 81=32:=by kernel_rfl
theorem results81_eq:kJ=[.cell 2 121,.tmp 3]:=by kernel_rfl
end Go.Proofs.Ytgojjellogiglaa.spec
end
section
namespace Go.Proofs.Ytgojjellogiglaa.spec
open Go Go.Ev Go.Proofs.Ytgojjellogiglaa.nestFits Go.Proofs.Ytgojjellogiglaa.G
set_option maxRecDepth 100000
variable {ρ:Type}
theorem agg4':eZ P 4=some false:=by kernel_rfl
theorem sz4':szT P 4=some 1:=by kernel_rfl
theorem zero4':kV P 4=some (.bool false):=by kernel_rfl
def Nq (T:Tm) (b1 b2 b4 b5:Nat) (v16 v17:Value):Prop:=(∃ o,T=TB o (.pointer (some ⟨b1,0,none⟩)) (.pointer (some ⟨b2,0,none⟩)) (.pointer (some ⟨b4,0,none⟩)) (.pointer (some ⟨b5,0,none⟩)) v16 v17)∨∃ o,T=TC o (.pointer (some ⟨b1,0,none⟩)) (.pointer (some ⟨b2,0,none⟩)) (.pointer (some ⟨b4,0,none⟩)) (.pointer (some ⟨b5,0,none⟩)) v16 v17
theorem asg_of (l lp:Nat) {T:Tm} {b1 b2 b4 b5:Nat} {v16 v17:Value} (hT:Nq T b1 b2 b4 b5 v16 v17) (p q:Value) (H:Hp) (n:Nat) :
    (cal (l+1)).body lp 81 lj { T:=(T.set 23 (some p)).set 24 (some q),H,n,D:=[] } =
      (cX P 121 H n fun v7 H n=>aq (bx P 121 v7 p H) fun H=>cX P 111 H n fun v8 H n=>aq (bx P 111 v8 q H) fun H=>some (.norm,{ T:=(((T.set 23 (some p)).set 24 (some q)).set 7 (some v7)).set 8 (some v8),H,n,D:=[] })):=by
  rcases hT with⟨o,rfl⟩ | ⟨o,rfl⟩
  · exact asg81_B ..
  · exact asg81_C ..
theorem bod_of (l lp:Nat) {T:Tm} {b1 b2 b4 b5:Nat} {v16 v17:Value} (hT:Nq T b1 b2 b4 b5 v16 v17) (p q v7 v8:Value) (H:Hp) (n:Nat):∃ U V:Value→Value→Value→Value→Tm,
    (cal (l+1)).body lp 81 lk { T:=(((T.set 23 (some p)).set 24 (some q)).set 7 (some v7)).set 8 (some v8),H,n,D:=[] } =
      (aq (aW (.pointer (some ⟨b1,0,none⟩))) fun a=>aq (az P H 105 a) fun v25=>aq (aW v8) fun a=>aq (az P H 111 a) fun v26=>aV P (cal l) 83 [v25,v26] H n fun v27 H n=>ifK v27
        (aq (aW v7) fun a=>aq (az P H 121 a) fun v28=>aq (bx P 121 (.pointer (some ⟨b4,0,none⟩)) v28 H) fun H=>aq (bx P 4 (.pointer (some ⟨b5,0,none⟩)) (.bool true) H) fun H=>
          some (.exit 0,{ T:=U v25 v26 v27 v28,H,n,D:=[] }))
        (some (.norm,{ T:=V v25 v26 v27 v27,H,n,D:=[] }))):=by
  rcases hT with⟨o,rfl⟩ | ⟨o,rfl⟩
  · exact⟨fun v25 v26 v27 v28=>_,fun v25 v26 v27 _=>_,bod81_B ..⟩
  · exact⟨fun v25 v26 v27 v28=>_,fun v25 v26 v27 _=>_,bod81_C ..⟩
theorem yield81 (l:Nat) {T:Tm} {H:Hp} {n lb b1 b2 b4 b5 g d np nj:Nat} {f:Nat→Value} {x y z v16 v17:Value} {ps js ks L X:List Int} (hT:Nq T b1 b2 b4 b5 v16 v17)
    (hl:H.get lb=some (.loop .ready none 81 T (ntm P 81) #[23,24] lj lk d)) (h1:H.get b1=some (.cells [.pointer (some ⟨g,0,none⟩)] 105 false none)) (h4:∃ w,H.get b4=some (.cells w 121 false none)∧w.length=8) (h5:∃ w,H.get b5=some (.cells [w] 4 false none))
    (hf:cx H g 859 117 f) (hs:SiteF f x y z js nj) (hx:dk H n 2 x np ps) (hnp:np≤8) (hL:L.length=8) (hX:Bk X js ks L nj np 8)
    (hlb:lb<n) (hb1:b1<n) (hb4:b4<n) (hb5:b5<n) (hg:g<n) (e1:b1≠lb) (e4:b4≠lb) (e5:b5≠lb) (eg:g≠lb) (e45:b4≠b5) (hxl:∀ H':Hp,(∀ b,b≠lb→H'.get b=H.get b)→dk H' n 2 x np ps) :
    ∃ H' n',n≤n'∧(∀ b,b<n→b≠lb→b≠b4→b≠b5→H'.get b=H.get b) ∧
      ((nw js ks ps nj np L=true∧(∀ k:Value→Hp→Nat→Option ρ,gk P (cal (l+5)) (.func (.yield lb) #[] #[]) [.agg ⟨ints L⟩,.agg ⟨ints X⟩] H n k=k (.bool false) H' n')∧H'.get b4=some (.cells (ints L) 121 false none)∧H'.get b5=some (.cells [.bool true] 4 false none)∧H'.get lb=some (.loop .done (some (.exit 0)) 81 T (ntm P 81) #[23,24] lj lk d)) ∨
       (nw js ks ps nj np L=false∧(∀ k:Value→Hp→Nat→Option ρ,gk P (cal (l+5)) (.func (.yield lb) #[] #[]) [.agg ⟨ints L⟩,.agg ⟨ints X⟩] H n k=k (.bool true) H' n')∧H'.get b4=H.get b4∧H'.get b5=H.get b5∧H'.get lb=H.get lb)):=by
  have lLi:(ints L).length=8:=by rw[aK,hL]
  have lXi:(ints X).length=16:=by rw[aK,hX.1]
  have hpar:vX T (ntm P 81) (#[23,24]:Array Tmp).toList [.agg ⟨ints L⟩,.agg ⟨ints X⟩]=some ((T.set 23 (some (.agg ⟨ints L⟩))).set 24 (some (.agg ⟨ints X⟩))):=by
    rw[ntm81]; rfl
  obtain⟨H1,k1,k2,k3⟩:=wJ (P:=P) (ρ:=Ex × St) (H:=H) (n:=n) (L:=ints L) Aw rfl mK lLi (eQ _)
  obtain⟨H2,k4,k5,k6⟩:=wJ (P:=P) (ρ:=Ex × St) (H:=H1) (n:=n+1) (L:=ints X) XJ rfl qz lXi (eQ _)
  have kk:Keep n H H2:=k1.trans k4 (by omega)
  have hasg:(cal (l+5)).body lb 81 lj { T:=(T.set 23 (some (.agg ⟨ints L⟩))).set 24 (some (.agg ⟨ints X⟩)),H,n,D:=[] }=some (.norm,{ T:=(((T.set 23 (some (.agg ⟨ints L⟩))).set 24 (some (.agg ⟨ints X⟩))).set 7 (some (.pointer (some ⟨n,0,none⟩)))).set 8 (some (.pointer (some ⟨n+1,0,none⟩))),H:=H2,n:=n+1+1,D:=[] }):=by
    rw[asg_of (l+4) lb hT,k3,k6]
  have hl2:=(kk lb hlb).trans hl
  have hrdy:vY H2 lb=true:=by unfold vY; rw[hl2]
  have hpen:ny H2 lb=none:=by unfold ny; rw[hl2]
  have hbusy:jK H2 lb .busy none=some (H2.set lb (some (.loop .busy none 81 T (ntm P 81) #[23,24] lj lk d))):=by unfold jK; rw[hl2]
  have ho:∀ b,b≠lb→(H2.set lb (some (.loop .busy none 81 T (ntm P 81) #[23,24] lj lk d))).get b=H2.get b:=fun b hb=>by rw[Tr.get_set,if_neg hb]
  have gl:(H2.set lb (some (.loop .busy none 81 T (ntm P 81) #[23,24] lj lk d))).get lb=some (.loop .busy none 81 T (ntm P 81) #[23,24] lj lk d):=by rw[Tr.get_set,if_pos rfl]
  have hx3:dk (H2.set lb (some (.loop .busy none 81 T (ntm P 81) #[23,24] lj lk d))) (n+1+1) 2 x np ps:=by
    have:=(hxl (H.set lb (some (.loop .busy none 81 T (ntm P 81) #[23,24] lj lk d))) fun b hb=>by rw[Tr.get_set,if_neg hb])
    refine(this.keep (m:=n) (fun b hb=>?_) (Nat.le_refl _)).up (by omega)
    rw[Tr.get_set,Tr.get_set]
    split
    · rfl
    · exact kk b hb
  generalize H2.set lb (some (.loop .busy none 81 T (ntm P 81) #[23,24] lj lk d))=H3 at hbusy ho gl hx3
  have low:∀ b,b<n→b≠lb→H3.get b=H.get b:=fun b hb hne=>(ho b hne).trans (kk b hb)
  have g7:H3.get n=some (.cells (ints L) 121 false none):=by rw[ho n (by omega),k4 n (by omega)]; exact k2
  have g8:H3.get (n+1)=some (.cells (ints X) 111 false none):=by rw[ho _ (by omega)]; exact k5
  have hf3:cx H3 g 859 117 f:=by
    obtain⟨c,a1,a2,a3⟩:=hf
    exact⟨c,(low g hg eg).trans a1,a2,a3⟩
  obtain⟨r,H4,n4,r0,r1,r2,r3⟩:=right_call (ρ:=Ex × St) l (show g<n+1+1 by omega) hf3 hs hx3 hnp hX.1
  have hr:r=true↔nw js ks ps nj np L=true:=by rw[r0,right_iff hX hnp,yj]
  have o4:∀ b,b<n→b≠lb→H4.get b=H.get b:=fun b hb hne=>(r3 b (by omega)).trans (low b hb hne)
  have gl4:H4.get lb=some (.loop .busy none 81 T (ntm P 81) #[23,24] lj lk d):=(r3 lb (by omega)).trans gl
  have l1:az P H3 105 ⟨b1,0,none⟩=some (.pointer (some ⟨g,0,none⟩)):=jV ((low b1 hb1 e1).trans h1) xZ rfl rfl
  obtain⟨U,V,hbd⟩:=bod_of (l+4) lb hT (.agg ⟨ints L⟩) (.agg ⟨ints X⟩) (.pointer (some ⟨n,0,none⟩)) (.pointer (some ⟨n+1,0,none⟩)) H3 (n+1+1)
  rw[aJ,aj,l1,aj,aJ,aj,bZ g8 oV qz lXi,aj,r1] at hbd
  have out:∀(j:Bool) (H':Hp) (n':Nat),(∀ k:Value→Hp→Nat→Option ρ,oQ (fun | some l'=>(cal (l+5)).body l' | none=>fun _ _ _=>none) P lb [.agg ⟨ints L⟩,.agg ⟨ints X⟩] (bare H n)=some (.bool j,{ bare H n with H:=H',n:=n' })→gk P (cal (l+5)) (.func (.yield lb) #[] #[]) [.agg ⟨ints L⟩,.agg ⟨ints X⟩] H n k=k (.bool j) H' n'):=by
    intro j H' n' k hy
    show stK (oQ (fun | some l'=>(cal (l+5)).body l' | none=>fun _ _ _=>none) P lb [.agg ⟨ints L⟩,.agg ⟨ints X⟩] (bare H n)) k=_
    rw[hy]
    rfl
  have hb:Nat.beq (ntm P 81) (ntm P 81)=true:=Nat.beq_refl _
  cases r with
  | false=>
    have hRf:nw js ks ps nj np L=false:=by
      cases c:nw js ks ps nj np L with
      | false=>rfl
      | true=>exact absurd (hr.2 c) (by simp)
    rw[dW] at hbd
    have hend:jK H4 lb .ready none=some (H4.set lb (some (.loop .ready none 81 T (ntm P 81) #[23,24] lj lk d))):=by unfold jK; rw[gl4]
    refine⟨H4.set lb (some (.loop .ready none 81 T (ntm P 81) #[23,24] lj lk d)),n4,by omega,fun b hbn h1 _ _=>by rw[Tr.get_set,if_neg h1]; exact o4 b hbn h1,.inr ⟨hRf,fun k=>out true _ _ k ?_,by rw[Tr.get_set,if_neg e4]; exact o4 b4 hb4 e4,by rw[Tr.get_set,if_neg e5]; exact o4 b5 hb5 e5,by rw[Tr.get_set,if_pos rfl,hl]⟩⟩
    unfold oQ
    have hx:GJ .norm=some none:=rfl
    simp only[bare,hl,hb,hpar,hasg,hrdy,hpen,hbusy,hbd,hx,Option.isNone_none,if_true,hend]
  | true=>
    obtain⟨w4,w41,w42⟩:=h4
    obtain⟨w5,w51⟩:=h5
    have g4:=(o4 b4 hb4 e4).trans w41
    have hst:=gJ (vs:=ints L) g4 (by rw[lLi,w42]) (eQ _)
    have g5:(H4.set b4 (some (.cells (ints L) 121 false none))).get b5=some (.cells [w5] 4 false none):=by rw[Tr.get_set,if_neg (Ne.symm e45)]; exact(o4 b5 hb5 e5).trans w51
    have hst5:=gJ (vs:=[.bool true]) g5 rfl rfl
    have l7:=bZ ((r3 n (by omega)).trans g7) pK mK lLi
    rw[eJ,aJ,aj,l7,aj,kv mK lLi,hst,aj,oX sz4' rfl,hst5,aj] at hbd
    have q1:((H4.set b4 (some (.cells (ints L) 121 false none))).set b5 (some (.cells [.bool true] 4 false none))).get b4=some (.cells (ints L) 121 false none):=by rw[Tr.get_set,if_neg e45,Tr.get_set,if_pos rfl]
    have q2:((H4.set b4 (some (.cells (ints L) 121 false none))).set b5 (some (.cells [.bool true] 4 false none))).get b5=some (.cells [.bool true] 4 false none):=by rw[Tr.get_set,if_pos rfl]
    have q3:∀ b,b≠b4→b≠b5→((H4.set b4 (some (.cells (ints L) 121 false none))).set b5 (some (.cells [.bool true] 4 false none))).get b=H4.get b:=fun b h1 h2=>by rw[Tr.get_set,if_neg h2,Tr.get_set,if_neg h1]
    generalize (H4.set b4 (some (.cells (ints L) 121 false none))).set b5 (some (.cells [.bool true] 4 false none))=H5 at hbd q1 q2 q3
    have hend:jK H5 lb .done (some (.exit 0))=some (H5.set lb (some (.loop .done (some (.exit 0)) 81 T (ntm P 81) #[23,24] lj lk d))):=by unfold jK; rw[q3 lb (Ne.symm e4) (Ne.symm e5),gl4]
    refine⟨H5.set lb (some (.loop .done (some (.exit 0)) 81 T (ntm P 81) #[23,24] lj lk d)),n4,by omega,fun b hbn h1 h2 h3=>by rw[Tr.get_set,if_neg h1,q3 b h2 h3]; exact o4 b hbn h1,.inl ⟨hr.1 rfl,fun k=>out false _ _ k ?_,by rw[Tr.get_set,if_neg e4]; exact q1,by rw[Tr.get_set,if_neg e5]; exact q2,by rw[Tr.get_set,if_pos rfl]⟩⟩
    unfold oQ
    have hx:GJ (.exit 0)=some (some (.exit 0)):=rfl
    have hn:(some (Code.exit 0)).isNone=false:=rfl
    have hff:¬ (false=true):=by simp
    simp only[bare,hl,hb,hpar,hasg,hrdy,hpen,hbusy,hbd,hx,hn,if_neg hff,hend]
end Go.Proofs.Ytgojjellogiglaa.spec
end
section
namespace Go.Proofs.Ytgojjellogiglaa.spec
open Go Go.Ev Go.Proofs.Ytgojjellogiglaa.nestFits Go.Proofs.Ytgojjellogiglaa.G
set_option maxRecDepth 100000
variable {ρ:Type}
end Go.Proofs.Ytgojjellogiglaa.spec
end
section
namespace Go.Proofs.Ytgojjellogiglaa.spec
open Go Go.Ev Go.Proofs.Ytgojjellogiglaa.nestFits Go.Proofs.Ytgojjellogiglaa.G
set_option maxRecDepth 100000
variable {ρ:Type}
end Go.Proofs.Ytgojjellogiglaa.spec
end
section
namespace Go.Proofs.Ytgojjellogiglaa.spec
open Go Go.Ev Go.Proofs.Ytgojjellogiglaa.nestFits Go.Proofs.Ytgojjellogiglaa.G
set_option maxRecDepth 100000
variable {ρ:Type}
end Go.Proofs.Ytgojjellogiglaa.spec
end
section
namespace Go.Proofs.Ytgojjellogiglaa.spec
open Go Go.Ev Go.Proofs.Ytgojjellogiglaa.nestFits Go.Proofs.Ytgojjellogiglaa.G
set_option maxRecDepth 100000
variable {ρ:Type}
def Wj (H:Hp) (base n:Nat) (v:Value) (xs:List Int):Prop:=(v=.slice none 0 0∧xs=[])∨∃ b cap,v=.slice (some ⟨b,0,none⟩) xs.length cap∧base≤b∧b<n∧H.get b=some (.cells (ints xs) 3 false (some 1))
theorem Wj.same {H H':Hp} {base n m:Nat} {v:Value} {xs:List Int} (h:Wj H base n v xs) (hm:n≤m) (hk:∀ b,base≤b→b<n→H'.get b=H.get b):Wj H' base m v xs:=by
  rcases h with h | ⟨b,cap,e,h1,h2,h3⟩
  · exact .inl h
  · exact .inr ⟨b,cap,e,h1,by omega,by rw[hk b h1 h2]; exact h3⟩
theorem Wj.list {H:Hp} {base n:Nat} {v:Value} {xs:List Int} (h:Wj H base n v xs) (hx:∀ x ∈ xs,I64 x):ListR H n v xs.length xs:=by
  refine⟨rfl,hx,?_⟩
  rcases h with⟨h1,h2⟩ | ⟨b,cap,e,h1,h2,h3⟩
  · exact .inl ⟨h1,by rw[h2]; rfl⟩
  · exact .inr ⟨b,0,cap,e,h2,fx h3⟩
theorem Wj.leaf {H:Hp} {base n:Nat} {v:Value} {xs:List Int} (h:Wj H base n v xs):pQ v=true:=by
  rcases h with⟨rfl,_⟩ | ⟨b,cap,rfl,_⟩ <;> rfl
theorem eq44 (p q:Operand) (b o l c:Nat):binV P .eql 44 p q (.slice (some ⟨b,o,none⟩) l c) (.slice none 0 0)=some (.bool false):=by kernel_rfl
theorem flat76:fw P 76=false:=by kernel_rfl
theorem call76 (l:Nat) (a:Value) (H:Hp) (n:Nat):(cal (l+1)).call 76 [a] H n=C76_0 (cal l) KK a H n:=by kernel_rfl
theorem clone76_at (l:Nat) {H:Hp} {n len:Nat} {v:Value} {xs:List Int} (h:ListR H n v len xs) (h0:len≠0) (hlen:len≤1000) :
    ∃ H' n',(∀ k:Value→Hp→Nat→Option ρ,aV P (cal (l+1)) 76 [v] H n k=k (.slice (some ⟨n+1,0,none⟩) len capV) H' n')∧n+1<n'∧Keep n H H'∧H'.get (n+1)=some (.cells (ints xs) 3 false (some 1)):=by
  obtain⟨H',n',e,h1,h2,h3⟩:=list_at (cal l) KK h h0 hlen
  have e':C76_0 (cal l) KK v H n=Nw (cal l) KK v H n:=by
    rcases h.2.2 with⟨_,z⟩ | ⟨b,o,cap,rfl,_⟩
    · exact absurd z h0
    · unfold C76_0 B76_0 Nw B23_0
      rw[ak (eq44 ..),dW]
  refine⟨H',n',fun k=>?_,h1,h2,h3⟩
  unfold aV
  rw[flat76,call76,e',e]
  rfl
theorem ints_take_list {H:Hp} {b n k:Nat} {xs:List Int} {e:TypeId} {vec:Option Nat} (h:H.get b=some (.cells (ints xs) e false vec)) (hb:b<n) (hk:k≤xs.length) (hx:∀ x ∈ xs,I64 x) {cap:Nat}:ListR H n (.slice (some ⟨b,0,none⟩) k cap) k (xs.take k):=by
  refine⟨by simp; omega,fun x hx'=>hx x (List.mem_of_mem_take hx'),.inr ⟨b,0,cap,rfl,hb,_,ints xs,h,rfl,fun q v hv=>?_⟩⟩
  have:(ints (xs.take k))[q]?=if q<k then(ints xs)[q]? else none:=by
    unfold ints
    rw[List.map_take,List.getElem?_take]
  rw[this] at hv
  split at hv
  · rw[Nat.zero_add]; exact hv
  · cases hv
end Go.Proofs.Ytgojjellogiglaa.spec
end
section
namespace Go.Proofs.Ytgojjellogiglaa.spec
open Go Go.Ev Go.Proofs.Ytgojjellogiglaa.nestFits Go.Proofs.Ytgojjellogiglaa.G
set_option maxRecDepth 100000
variable {ρ:Type}
end Go.Proofs.Ytgojjellogiglaa.spec
end
section
namespace Go.Proofs.Ytgojjellogiglaa.spec
open Go Go.Ev Go.Proofs.Ytgojjellogiglaa.nestFits Go.Proofs.Ytgojjellogiglaa.G
set_option maxRecDepth 100000
variable {ρ:Type}
theorem zero176:kV P 176=some .nilFunc:=by kernel_rfl
theorem sz176:szT P 176=some 1:=by kernel_rfl
theorem build111':fK P 111 []=some (.agg ⟨ints (List.replicate 16 0)⟩):=by kernel_rfl
def noL:List Int:=List.replicate 8 (-1)
theorem noL_get {q:Nat} (h:q<8):noL.getD q 0=-1:=by
  rw[List.getD_eq_getElem?_getD,noL,List.getElem?_replicate,if_pos h]; rfl
theorem Rj:Open noL 0:=⟨rfl,fun _ _ h=>noL_get h⟩
theorem noL_kinds (np nk:Nat):oJ noL np nk:=fun _ hi=>.inl (noL_get hi)
theorem noL_row (js ks:List Int) (nj np:Nat):Bk (List.replicate 16 0) js ks noL nj np 8:=by
  refine⟨rfl,fun q hq=>?_⟩
  have z:∀ k,(List.replicate 16 (0:Int)).getD k 0=0:=fun k=>by
    rw[List.getD_eq_getElem?_getD,List.getElem?_replicate]; split <;> rfl
  have s:∀ e,bsum js ks noL nj np 8 e q=0:=fun e=>by
    unfold bsum
    have:∀ i,i≤8→dV (fun p=>if noL.getD p 0=-1 then 0 else ext (ks.getD ((noL.getD p 0).toNat * 5) 0) (shP js ks nj np p (noL.getD p 0).toNat) e q) i=0:=by
      intro i
      induction i with
      | zero=>intro _; rfl
      | succ i ih=>
        intro hi
        simp only[dV]
        rw[ih (by omega),if_pos (noL_get (by omega))]
        rfl
    exact this 8 (Nat.le_refl _)
  rw[z,z,s,s]
  exact⟨rfl,rfl⟩
def LayOut (H:Hp) (n lb b4 b5:Nat) (T:Tm) (d:Nat) (o:Option (List Int)) (H':Hp):Prop:=match o with
  | some M=>(∀ b,b<n→b≠lb→b≠b4→b≠b5→H'.get b=H.get b)∧H'.get b4=some (.cells (ints M) 121 false none)∧H'.get b5=some (.cells [.bool true] 4 false none)∧H'.get lb=some (.loop .done (some (.exit 0)) 81 T (ntm P 81) #[23,24] lj lk d)
  | none=>∀ b,b<n→H'.get b=H.get b
theorem layouts_spec (l:Nat) {T:Tm} {H:Hp} {n lb b1 b2 b4 b5 sb nb g d np nj nk nests m0:Nat} {f:Nat→Value} {x y z v16 v17:Value} {ps js ks:List Int} (hT:Nq T b1 b2 b4 b5 v16 v17)
    (hl:H.get lb=some (.loop .ready none 81 T (ntm P 81) #[23,24] lj lk d)) (h1:H.get b1=some (.cells [.pointer (some ⟨g,0,none⟩)] 105 false none)) (h4:∃ w,H.get b4=some (.cells w 121 false none)∧w.length=8) (h5:∃ w,H.get b5=some (.cells [w] 4 false none))
    (hsb:H.get sb=some (.cells [.pointer (some ⟨g,0,none⟩)] 105 false none)) (hnb:H.get nb=some (.cells [.int .i64 nests] 3 false none))
    (hf:cx H g 859 117 f) (hs:SiteF f x y z js nj) (hz:lenV P 33 z=some (.int .i64 nk)) (hn:∀ p kd,p<np→kd<nk→pZ f js ks nj np p kd) (hks:kj ks nk) (hx:dk H m0 2 x np ps) (hnp:np≤8) (hnk:nk≤3) (hnests:nests≤8)
    (hm0:m0≤lb) (hlb:lb<n) (hb1:b1<n) (hb4:b4<n) (hb5:b5<n) (hsbn:sb<n) (hnbn:nb<n) (hg:g<n) (e1:b1≠lb) (e4:b4≠lb) (e5:b5≠lb) (eg:g≠lb) (e45:b4≠b5) :
    ∃ H' n',n≤n'∧PJ (cal (l+5+np+1)) KK (.func (.yield lb) #[] #[]) (.pointer (some ⟨sb,0,none⟩)) (.pointer (some ⟨nb,0,none⟩)) H n=some (.tuple ⟨[]⟩,H',n') ∧
      LayOut H n lb b4 b5 T d (nq (nw js ks ps nj np) (nv js ks ps nj np) (fitD js ks nj np) np nk np noL nests) H':=by
  unfold PJ B117_0
  rw[cQ,dZ zero176]
  simp only[bj,ptr]
  have g0:((H.set n (some (.cells [.func (.yield lb) #[] #[]] 175 false none))).set (n+1) (some (.cells [.nilFunc] 176 false none))).get (n+1)=some (.cells [.nilFunc] 176 false none):=by rw[Tr.get_set,if_pos rfl]
  have hst:=gJ (vs:=[Hw sb n (n+1)]) g0 rfl rfl
  have hst':bx P 176 (.pointer (some ⟨n+1,0,none⟩)) (.func (.func 118) ⟨[]⟩ ⟨[.pointer (some ⟨sb,0,none⟩),.pointer (some ⟨n,0,none⟩),.pointer (some ⟨n+1,0,none⟩)]⟩) ((H.set n (some (.cells [.func (.yield lb) #[] #[]] 175 false none))).set (n+1) (some (.cells [.nilFunc] 176 false none)))=_:=(oX sz176 rfl).trans hst
  rw[hst',aj]
  have q1:(((H.set n (some (.cells [.func (.yield lb) #[] #[]] 175 false none))).set (n+1) (some (.cells [.nilFunc] 176 false none))).set (n+1) (some (.cells [Hw sb n (n+1)] 176 false none))).get n=some (.cells [.func (.yield lb) #[] #[]] 175 false none):=by rw[Tr.get_set,if_neg (by omega),Tr.get_set,if_neg (by omega),Tr.get_set,if_pos rfl]
  have q2:(((H.set n (some (.cells [.func (.yield lb) #[] #[]] 175 false none))).set (n+1) (some (.cells [.nilFunc] 176 false none))).set (n+1) (some (.cells [Hw sb n (n+1)] 176 false none))).get (n+1)=some (.cells [Hw sb n (n+1)] 176 false none):=by rw[Tr.get_set,if_pos rfl]
  have q3:Keep n H (((H.set n (some (.cells [.func (.yield lb) #[] #[]] 175 false none))).set (n+1) (some (.cells [.nilFunc] 176 false none))).set (n+1) (some (.cells [Hw sb n (n+1)] 176 false none))):=(((Keep.refl n H).set (Nat.le_refl _) _).set (by omega) _).set (by omega) _
  generalize ((H.set n (some (.cells [.func (.yield lb) #[] #[]] 175 false none))).set (n+1) (some (.cells [.nilFunc] 176 false none))).set (n+1) (some (.cells [Hw sb n (n+1)] 176 false none))=H2 at q1 q2 q3 ⊢
  have l1:=jV q2 agg176 rfl rfl
  have l2:az P H2 3 ⟨nb,0,none⟩=some (.int .i64 nests):=bw (o:=0) (k:=0) (fx ((q3 nb hnbn).trans hnb)) agg3 rfl
  rw[aJ,aj,l1,aj,build111',aj,aJ,aj,l2,aj]
  obtain⟨H3,s3,c3⟩:=uv (P:=P) (ρ:=Value × Hp × Nat) (ex:=[.l 3 ⟨nb,0,none⟩,.l 176 ⟨n+1,0,none⟩]) (H:=H2) (n:=n+1+1) (v:=.agg ⟨ints noL⟩)
    (op:=fun H n k=>aV P (cal (l+5+np+1)) 101 [] H n fun v H n=>k v H n)
    ⟨fun q hq=>.inl (by
      simp only[List.mem_cons,List.not_mem_nil,or_false] at hq
      rcases hq with rfl | rfl
      · exact⟨_,_,rfl,.inl ⟨_,_,_,_,(q3 nb hnbn).trans hnb⟩⟩
      · exact⟨_,_,rfl,.inl ⟨_,_,_,_,q2⟩⟩),fun t a id c e h1 h2=>by simp at h2⟩ (fun H k=>TJ (l+5+np) H _ _)
  rw[c3]
  have low:∀ b,b<n→H3.get b=H.get b:=fun b hb=>by rw[s3,q3 b hb]
  have ar:Around (fun H' n'=>n+2≤n'∧∀ b,b<n+2→H'.get b=H3.get b) (n+2) sb n (n+1) g np f x (.func (.yield lb) #[] #[]) ps:=by
    refine⟨fun H' n' ⟨hn',hk'⟩=>⟨hn',by rw[hk' _ (by omega),low _ hsbn]; exact hsb,by rw[hk' _ (by omega),s3]; exact q1,by rw[hk' _ (by omega),s3]; exact q2,?_,?_⟩,fun H1 n1 H' n' ⟨_,hk1⟩ hn' hk'=>⟨hn',fun b hb=>(hk' b hb).trans (hk1 b hb)⟩,⟨by omega,by omega,by omega,by omega⟩,rfl,rfl⟩
    · obtain⟨c,a1,a2,a3⟩:=hf
      exact⟨c,by rw[hk' g (by omega),low g hg]; exact a1,a2,a3⟩
    · exact(hx.keep (m:=m0) (fun b hb=>by rw[hk' b (by omega),low b (by omega)]) (Nat.le_refl _)).up (by omega)
  have hY:Yields (fun H' n'=>n+2≤n'∧∀ b,b<n+2→H'.get b=H3.get b) (fun M H' n'=>LayOut H n lb b4 b5 T d (some M) H') (n+2) np nj js ks ps (.func (.yield lb) #[] #[]):=by
    intro lv L X Hc nc ⟨hnc,hkc⟩ hL hX
    have lowc:∀ b,b<n→Hc.get b=H.get b:=fun b hb=>(hkc b (by omega)).trans (low b hb)
    obtain⟨H',n',r1,r2,r3⟩:=yield81 (ρ:=Value × Hp × Nat) lv (H:=Hc) (n:=nc) (lb:=lb) (g:=g) (d:=d) (x:=x) (y:=y) (z:=z) (f:=f) (js:=js) (ks:=ks) (ps:=ps) (L:=L) (X:=X) (np:=np) (nj:=nj) hT ((lowc lb hlb).trans hl) ((lowc b1 hb1).trans h1)
      (by obtain⟨w,w1,w2⟩:=h4; exact⟨w,(lowc b4 hb4).trans w1,w2⟩) (by obtain⟨w,w1⟩:=h5; exact⟨w,(lowc b5 hb5).trans w1⟩)
      (by
        obtain⟨c,a1,a2,a3⟩:=hf
        exact⟨c,by rw[lowc g hg]; exact a1,a2,a3⟩) hs ((hx.keep (m:=m0) (fun b hb=>lowc b (by omega)) (Nat.le_refl _)).up (by omega)) hnp hL hX (by omega) (by omega) (by omega) (by omega) (by omega) e1 e4 e5 eg e45
      (fun H' hk=>(hx.keep (m:=m0) (fun b hb=>by rw[hk b (by omega),lowc b (by omega)]) (Nat.le_refl _)).up (by omega))
    refine⟨H',n',r1,fun b hb hbn=>r2 b hbn (by omega) (by omega) (by omega),?_⟩
    rcases r3 with⟨z1,z2,z3,z4,z5⟩ | ⟨z1,z2,z3,z4,z5⟩
    · exact .inl ⟨z1,z2,fun b hb i1 i2 i3=>by rw[r2 b (by omega) i1 i2 i3,lowc b hb],z3,z4,z5⟩
    · refine .inr ⟨z1,z2,by omega,fun b hb=>?_⟩
      by_cases i1:b=lb
      · rw[i1,z5,hkc lb (by omega)]
      · by_cases i2:b=b4
        · rw[i2,z3,hkc b4 (by omega)]
        · by_cases i3:b=b5
          · rw[i3,z4,hkc b5 (by omega)]
          · rw[r2 b (by omega) i1 i2 i3,hkc b hb]
  have hp:=place_spec l ar hs hz hn hks hnp hnk hY np noL (List.replicate 16 0) nests 0 H3 (n+1+1) (by omega) Rj (noL_kinds np nk) (noL_row ..) hnests ⟨by omega,fun _ _=>rfl⟩
  have epl:=Kz (ρ:=Value × Hp × Nat) (l+5+np) (.agg ⟨ints noL⟩) (.agg ⟨ints (List.replicate 16 0)⟩) (.int .i64 ((0:Nat):Int)) (.int .i64 nests) sb n (n+1)
  have ez:(Value.int IntKind.i64 0)=.int .i64 ((0:Nat):Int):=rfl
  rw[ez,epl]
  obtain⟨H4,n4,y1,_,y3⟩:=hp
  refine⟨H4,n4,by omega,?_,?_⟩
  · cases hfd:nq (nw js ks ps nj np) (nv js ks ps nj np) (fitD js ks nj np) np nk np noL nests with
    | some M=>rw[hfd] at y3; rw[y3.1]; rfl
    | none=>rw[hfd] at y3; rw[y3.1]; rfl
  · cases hfd:nq (nw js ks ps nj np) (nv js ks ps nj np) (fitD js ks nj np) np nk np noL nests with
    | some M=>rw[hfd] at y3; exact y3.2
    | none=>
      rw[hfd] at y3
      exact fun b hb=>by rw[y3.2.2 b (by omega),low b hb]
end Go.Proofs.Ytgojjellogiglaa.spec
end
section
namespace Go.Proofs.Ytgojjellogiglaa.spec
open Go Go.Ev Go.Proofs.Ytgojjellogiglaa.nestFits Go.Proofs.Ytgojjellogiglaa.G
set_option maxRecDepth 100000
variable {ρ:Type}
theorem flat110:fw P 110=false:=by kernel_rfl
theorem call110 (l:Nat) (a b:Value) (H:Hp) (n:Nat):(cal (l+1)).call 110 [a,b] H n=C110_0 (cal l) KK a b H n:=by kernel_rfl
theorem call117 (l:Nat) (a b c:Value) (H:Hp) (n:Nat):(cal (l+1)).call 117 [a,b,c] H n=PJ (cal l) KK a b c H n:=by kernel_rfl
theorem layouts_call (l:Nat) (g:Nat) (i:Int) (H:Hp) (n:Nat) (k:Value→Hp→Nat→Option ρ):aV P (cal (l+1)) 110 [.pointer (some ⟨g,0,none⟩),.int .i64 i] H n k =
    k (.func (.func 117) ⟨[]⟩ ⟨[.pointer (some ⟨n,0,none⟩),.pointer (some ⟨n+1,0,none⟩)]⟩) ((H.set n (some (.cells [.pointer (some ⟨g,0,none⟩)] 105 false none))).set (n+1) (some (.cells [.int .i64 i] 3 false none))) (n+2):=by
  unfold aV
  rw[flat110,call110]
  rfl
theorem layouts_range (l:Nat) (a b c:Value) (H:Hp) (n:Nat) (k:Value→Hp→Nat→Option ρ) (hb:bz b=false):aV P (cal (l+1)) 117 [a,b,c] H n k=aq (PJ (cal l) KK a b c H n) fun r=>k r.1 r.2.1 r.2.2:=by
  unfold aV
  have:(fw P 117 && bW [a,b,c])=false:=by simp [bW,hb]
  rw[this,call117]
theorem range81 (c:Cal) (a b:Value) (K:KC (Value × Hp × Nat)) (X:XC (Value × Hp × Nat)) (Kr:KC (Value × Hp × Nat)) (T:Tm) (H:Hp) (n:Nat) (D:List Nat) :
    wq P c none 81 (.func (.func 117) ⟨[]⟩ ⟨[a,b]⟩) #[23,24] lj lk K X Kr T H n D =
      aV P c 117 [.func (.yield (n+1)) #[] #[],a,b] ((H.set n (some .deferred)).set (n+1) (some (.loop .ready none 81 T (ntm P 81) #[23,24] lj lk n))) (n+2) fun _ H n'=>fin K X Kr (kZ (n+1) { T:=T,H,n:=n',D:=n::D }):=rfl
theorem takeD_ok:∀(D:List Nat) (H:Hp),D.Nodup→(∀ d,d ∈ D→H.get d=some .deferred)→∃ H',tw H D=some H'∧∀ b,b ∉ D→H'.get b=H.get b
  | [],H,_,_=>⟨H,rfl,fun _ _=>rfl⟩
  | d::D,H,hD,h=>by
    obtain⟨h1,h2⟩:=List.nodup_cons.1 hD
    obtain⟨H',q1,q2⟩:=takeD_ok D (H.set d none) h2 fun e he=>by
      have:e≠d:=fun c=>h1 (c ▸ he)
      rw[Tr.get_set,if_neg this]
      exact h e (List.mem_cons_of_mem _ he)
    refine⟨H',?_,fun b hb=>?_⟩
    · unfold tw
      simp only[h d (List.mem_cons_self ..),q1]
    · have hb1:b≠d:=fun c=>hb (c ▸ List.mem_cons_self ..)
      rw[q2 b fun c=>hb (List.mem_cons_of_mem _ c),Tr.get_set,if_neg hb1]
theorem res81 (b2:Nat) (v:Value) (M:List Int) (H:Hp) (hM:M.length=8) (h:H.get b2=some (.cells (ints M) 121 false none)):resV P (((Tr.nil:Tm).set 3 (some v)).set 2 (some (.pointer (some ⟨b2,0,none⟩)))) H kJ=some [.agg ⟨ints M⟩,v]:=by
  rw[results81_eq]
  have t2:(((Tr.nil:Tm).set 3 (some v)).set 2 (some (.pointer (some ⟨b2,0,none⟩)))).get 2=some (.pointer (some ⟨b2,0,none⟩)):=by rw[Tr.get_set,if_pos rfl]
  have t3:(((Tr.nil:Tm).set 3 (some v)).set 2 (some (.pointer (some ⟨b2,0,none⟩)))).get 3=some v:=by rw[Tr.get_set,if_neg (by omega),Tr.get_set,if_pos rfl]
  simp only[resV,t2,t3,bZ h pK mK (by rw[aK,hM])]
theorem TV {t:TypeId} {a:Addr} (b:Nat):ldOf [.l t a] b↔b=a.block:=by
  constructor
  · rintro⟨t',a',h1,h2⟩
    simp only[List.mem_cons,List.not_mem_nil,or_false,Extra.l.injEq] at h1
    obtain⟨_,rfl⟩:=h1
    exact h2.symm
  · rintro rfl
    exact⟨t,a,by simp,rfl⟩
theorem end81 (c:Cal) (k:Nat) {T:Tm} {b1 b2 b4 b5:Nat} {v16 v17:Value} (hT:Nq T b1 b2 b4 b5 v16 v17) {H:Hp} {n:Nat} {D:List Nat} {M:List Int} {r:Bool} (hM:M.length=8) (h2:∃ w,H.get b2=some (.cells w 121 false none)∧w.length=8) (h4:H.get b4=some (.cells (ints M) 121 false none)) (h5:H.get b5=some (.cells [.bool r] 4 false none)) (e2:b2≠b5) (hD:D.Nodup) (hd:∀ d,d ∈ D→H.get d=some .deferred) :
    ∃ H',KE c k T H n D=some (.tuple ⟨[.agg ⟨ints M⟩,.bool r]⟩,H',n)∧∀ b,b ∉ D→b≠b2→H'.get b=H.get b:=by
  obtain⟨w,w1,w2⟩:=h2
  have lM:(ints M).length=8:=by rw[aK,hM]
  have l4:=bZ h4 pK mK lM
  have l5:az P H 4 ⟨b5,0,none⟩=some (.bool r):=bq (o:=0) (k:=0) (fx h5) agg4' rfl rfl rfl
  have hb5D:b5 ∉ D:=fun h=>by have:=hd b5 h; rw[h5] at this; cases this
  have hb2D:b2 ∉ D:=fun h=>by have:=hd b2 h; rw[w1] at this; cases this
  obtain⟨H1,H2,n2,q1,⟨rfl,q2,q3⟩,q4,q5⟩:=effK_gen (P:=P) (ρ:=Value × Hp × Nat) (ex:=[.l 4 ⟨b5,0,none⟩]) (H:=H) (n:=n) (v:=undef)
    (op:=fun H n k=>aq (bx P 121 (.pointer (some ⟨b2,0,none⟩)) (.agg ⟨ints M⟩) H) fun H=>k undef H n)
    (R:=fun H' n'=>n'=n∧H'.get b2=some (.cells (ints M) 121 false none)∧∀ b,b≠b2→b≠b5→H'.get b=H.get b)
    (fun q hq=>by
      simp only[List.mem_cons,List.not_mem_nil,or_false] at hq
      subst hq
      exact⟨_,_,rfl,.inl ⟨_,_,_,_,h5⟩⟩)
    (fun Hm hm=>by
      have g2:Hm.get b2=some (.cells w 121 false none):=by rw[hm b2 (fun h=>e2 ((TV b2).1 h))]; exact w1
      have hst:=gJ (vs:=ints M) g2 (by rw[lM,w2]) (eQ _)
      refine⟨Hm.set b2 (some (.cells (ints M) 121 false none)),n,fun k=>by rw[kv mK lM,hst,aj],fun b hb=>?_,rfl,by rw[Tr.get_set,if_pos rfl],fun b hb hb'=>?_⟩
      · have:=(TV b).1 hb
        rw[Tr.get_set,if_neg (by intro h; exact e2 (h.symm.trans this))]
      · rw[Tr.get_set,if_neg hb,hm b (fun h=>hb' ((TV b).1 h))])
  have g5:H1.get b5=H.get b5:=q4 b5 ((TV b5).2 rfl)
  have g2:H1.get b2=some (.cells (ints M) 121 false none):=by rw[q5 b2 (fun h=>e2 ((TV b2).1 h))]; exact q2
  have go:∀ b,b≠b2→H1.get b=H.get b:=fun b hb=>by
    by_cases c:b=b5
    · rw[c,g5]
    · rw[q5 b (fun h=>c ((TV b).1 h)),q3 b hb c]
  obtain⟨H3,t1,t2⟩:=takeD_ok D H1 hD fun d h=>by rw[go d (fun c=>hb2D (c ▸ h))]; exact hd d h
  refine⟨H3,?_,fun b hb hb2=>by rw[t2 b hb,go b hb2]⟩
  have key:(aq (aW (.pointer (some ⟨b4,0,none⟩))) fun a=>aq (az P H 121 a) fun v30=>aq (aW (.pointer (some ⟨b5,0,none⟩))) fun a5=>aq (az P H 4 a5) fun v31=>effK P [.l 4 a5] H n2 (fun H n k=>aq (bx P 121 (.pointer (some ⟨b2,0,none⟩)) v30 H) fun H=>k undef H n) fun _ H n=>
      getK (tw H D) fun H=>aq (resV P (((Tr.nil:Tm).set 3 (some v31)).set 2 (some (.pointer (some ⟨b2,0,none⟩)))) H kJ) fun vs=>some (oneV vs,H,n))=some (.tuple ⟨[.agg ⟨ints M⟩,.bool r]⟩,H3,n2):=by
    rw[aJ,aj,l4,aj,aJ,aj,l5,aj,q1,t1]
    show(aq (resV P (((Tr.nil:Tm).set 3 (some (.bool r))).set 2 (some (.pointer (some ⟨b2,0,none⟩)))) H3 kJ) fun vs=>some (oneV vs,H3,n2))=_
    rw[res81 b2 _ M H3 hM ((t2 b2 hb2D).trans g2)]
    rfl
  rcases hT with⟨o,rfl⟩ | ⟨o,rfl⟩
  · rw[post81_B]; exact key
  · rw[post81_C]; exact key
def IsL81 (T:Tm) (b1 b2 b4 b5:Nat) (v16:Value) (i:Nat):Prop:=(i=0∧∃ o,T=TA o (.pointer (some ⟨b1,0,none⟩)) (.pointer (some ⟨b2,0,none⟩)) (.pointer (some ⟨b4,0,none⟩)) (.pointer (some ⟨b5,0,none⟩)) v16 (.int .i64 i))∨∃ o,T=TC o (.pointer (some ⟨b1,0,none⟩)) (.pointer (some ⟨b2,0,none⟩)) (.pointer (some ⟨b4,0,none⟩)) (.pointer (some ⟨b5,0,none⟩)) v16 (.int .i64 i)
theorem head81 (c:Cal) (k m:Nat) {T:Tm} {b1 b2 b4 b5 g N i:Nat} (hT:IsL81 T b1 b2 b4 b5 (.int .i64 N) i) (hi:i<N):∃ TT:Value→Tm,(∀ v,Nq (TT v) b1 b2 b4 b5 (.int .i64 N) (.int .i64 i))∧∀(H:Hp) (n:Nat) (D:List Nat),az P H 105 ⟨b1,0,none⟩=some (.pointer (some ⟨g,0,none⟩)) →
    LP c k (m+1) T H n D=aV P c 110 [.pointer (some ⟨g,0,none⟩),.int .i64 i] H n fun v22 H n=>wq P c none 81 v22 #[23,24] lj lk (KN c k m) (upX 2 (KN c k m) (upX 1 (KN c k m) (upX 0 (KE c k) X0))) (av P kJ) (TT v22) H n D:=by
  rcases hT with⟨_,o,rfl⟩ | ⟨o,rfl⟩
  · refine⟨fun v22=>TB (upd (upd (upd (upd (upd (upd o 18 (.bool (decide ((i:Int)<(N:Int))))) 19 (.int .i64 i)) 6 (.int .i64 i)) 20 (.pointer (some ⟨g,0,none⟩))) 21 (.int .i64 i)) 22 v22) (.pointer (some ⟨b1,0,none⟩)) (.pointer (some ⟨b2,0,none⟩)) (.pointer (some ⟨b4,0,none⟩)) (.pointer (some ⟨b5,0,none⟩)) (.int .i64 N) (.int .i64 i),fun v=>.inl ⟨_,rfl⟩,fun H n D hl=>?_⟩
    rw[loop81_A,ak cY,iJ,if_pos (by omega),aJ,aj,hl,aj]
  · refine⟨fun v22=>TC (upd (upd (upd (upd (upd (upd o 18 (.bool (decide ((i:Int)<(N:Int))))) 19 (.int .i64 i)) 6 (.int .i64 i)) 20 (.pointer (some ⟨g,0,none⟩))) 21 (.int .i64 i)) 22 v22) (.pointer (some ⟨b1,0,none⟩)) (.pointer (some ⟨b2,0,none⟩)) (.pointer (some ⟨b4,0,none⟩)) (.pointer (some ⟨b5,0,none⟩)) (.int .i64 N) (.int .i64 i),fun v=>.inr ⟨_,rfl⟩,fun H n D hl=>?_⟩
    rw[loop81_C,ak cY,iJ,if_pos (by omega),aJ,aj,hl,aj]
theorem last81 (c:Cal) (k m:Nat) {T:Tm} {b1 b2 b4 b5 N:Nat} (hT:IsL81 T b1 b2 b4 b5 (.int .i64 N) N) (hN:N≠0):∃ T',Nq T' b1 b2 b4 b5 (.int .i64 N) (.int .i64 N)∧∀(H:Hp) (n:Nat) (D:List Nat),LP c k (m+1) T H n D=KE c k T' H n D:=by
  rcases hT with⟨h,_⟩ | ⟨o,rfl⟩
  · exact absurd h hN
  · refine⟨(TC o (.pointer (some ⟨b1,0,none⟩)) (.pointer (some ⟨b2,0,none⟩)) (.pointer (some ⟨b4,0,none⟩)) (.pointer (some ⟨b5,0,none⟩)) (.int .i64 N) (.int .i64 N)).set 18 (some (.bool (decide ((N:Int)<(N:Int))))),.inr ⟨_,set18_C ..⟩,fun H n D=>?_⟩
    rw[loop81_C,ak cY,iJ,if_neg (by omega)]
theorem next81 (c:Cal) (k m:Nat) {T:Tm} {b1 b2 b4 b5 i:Nat} {v16:Value} (hT:Nq T b1 b2 b4 b5 v16 (.int .i64 i)) (hi:i≤1000):∃ T',IsL81 T' b1 b2 b4 b5 v16 (i+1)∧∀(H:Hp) (n:Nat) (D:List Nat),KN c k m T H n D=LP c k m T' H n D:=by
  have hI1:I64 ((i:Int)+1):=by unfold I64; omega
  have hcast:((i:Int)+1)=((i+1:Nat):Int):=by omega
  rcases hT with⟨o,rfl⟩ | ⟨o,rfl⟩
  · refine⟨TC (upd o 29 (.int .i64 ((i+1:Nat):Int))) (.pointer (some ⟨b1,0,none⟩)) (.pointer (some ⟨b2,0,none⟩)) (.pointer (some ⟨b4,0,none⟩)) (.pointer (some ⟨b5,0,none⟩)) v16 (.int .i64 ((i+1:Nat):Int)),.inr ⟨_,rfl⟩,fun H n D=>?_⟩
    rw[next81_B,ak (bV hI1),hcast]
  · refine⟨TC (upd o 29 (.int .i64 ((i+1:Nat):Int))) (.pointer (some ⟨b1,0,none⟩)) (.pointer (some ⟨b2,0,none⟩)) (.pointer (some ⟨b4,0,none⟩)) (.pointer (some ⟨b5,0,none⟩)) v16 (.int .i64 ((i+1:Nat):Int)),.inr ⟨_,rfl⟩,fun H n D=>?_⟩
    rw[next81_C,ak (bV hI1),hcast]
end Go.Proofs.Ytgojjellogiglaa.spec
end
section
namespace Go.Proofs.Ytgojjellogiglaa.spec
open Go Go.Ev Go.Proofs.Ytgojjellogiglaa.nestFits Go.Proofs.Ytgojjellogiglaa.G
set_option maxRecDepth 100000
variable {ρ:Type}
structure Stand (H:Hp) (n m0 b1 b4 b5 g np nj nk:Nat) (f:Nat→Value) (x y z:Value) (ps js ks:List Int):Prop where
  at1:H.get b1=some (.cells [.pointer (some ⟨g,0,none⟩)] 105 false none)
  at4:∃ w,H.get b4=some (.cells w 121 false none)∧w.length=8
  at5:∃ w,H.get b5=some (.cells [w] 4 false none)
  cells:cx H g 859 117 f
  site:SiteF f x y z js nj
  kinds:lenV P 33 z=some (.int .i64 nk)
  nests:∀ p kd,p<np→kd<nk→pZ f js ks nj np p kd
  ok:kj ks nk
  pads:dk H m0 2 x np ps
  np8:np≤8
  nk3:nk≤3
  low:m0≤n∧b1<n∧b4<n∧b5<n∧g<n
  apart:b4≠b5
theorem Stand.keep {H H':Hp} {n n' m0 b1 b4 b5 g np nj nk:Nat} {f:Nat→Value} {x y z:Value} {ps js ks:List Int} (h:Stand H n m0 b1 b4 b5 g np nj nk f x y z ps js ks) (hk:Keep n H H') (hn:n≤n'):Stand H' n' m0 b1 b4 b5 g np nj nk f x y z ps js ks:=by
  obtain⟨l1,l2,l3,l4,l5⟩:=h.low
  refine⟨(hk _ l2).trans h.at1,?_,?_,h.cells.keep hk l5,h.site,h.kinds,h.nests,h.ok,h.pads.keep (hk.le l1) (Nat.le_refl _),h.np8,h.nk3,⟨by omega,by omega,by omega,by omega,by omega⟩,h.apart⟩
  · obtain⟨w,q1,q2⟩:=h.at4
    exact⟨w,(hk _ l3).trans q1,q2⟩
  · obtain⟨w,q1⟩:=h.at5
    exact⟨w,(hk _ l4).trans q1⟩
noncomputable def Wq (ps js ks:List Int) (nj np nk:Nat) (i:Nat):Option (List Int):=nq (nw js ks ps nj np) (nv js ks ps nj np) (fitD js ks nj np) np nk np noL i
theorem round81 (l:Nat) {H:Hp} {n m0 b1 b2 b4 b5 g np nj nk i:Nat} {f:Nat→Value} {x y z v16 v17:Value} {ps js ks:List Int} (st:Stand H n m0 b1 b4 b5 g np nj nk f x y z ps js ks) (hi:i≤np) {TT:Value→Tm} (hTT:∀ v,Nq (TT v) b1 b2 b4 b5 v16 v17) (K E:KC (Value × Hp × Nat)) (Kr:KC (Value × Hp × Nat)) (D:List Nat) :
    ∃ T H' n',Nq T b1 b2 b4 b5 v16 v17∧n+4≤n'∧H'.get (n+2)=some .deferred∧(∀ b,b<n→b≠b4→b≠b5→H'.get b=H.get b) ∧
      (aV P (cal (l+5+np+2)) 110 [.pointer (some ⟨g,0,none⟩),.int .i64 i] H n fun v22 H n=>wq P (cal (l+5+np+2)) none 81 v22 #[23,24] lj lk K (upX 2 K (upX 1 K (upX 0 E X0))) Kr (TT v22) H n D) =
        (match Wq ps js ks nj np nk i with
        | some _=>E T H' n' ((n+2)::D)
        | none=>K T H' n' ((n+2)::D)) ∧
      match Wq ps js ks nj np nk i with
      | some M=>H'.get b4=some (.cells (ints M) 121 false none)∧H'.get b5=some (.cells [.bool true] 4 false none)
      | none=>H'.get b4=H.get b4∧H'.get b5=H.get b5:=by
  obtain⟨o1,o2,o3,o4,o5⟩:=st.low
  have hnp:=st.np8
  have hap:=st.apart
  rw[layouts_call (l+5+np+1)]
  have a1:((H.set n (some (.cells [.pointer (some ⟨g,0,none⟩)] 105 false none))).set (n+1) (some (.cells [.int .i64 i] 3 false none))).get n=some (.cells [.pointer (some ⟨g,0,none⟩)] 105 false none):=by rw[Tr.get_set,if_neg (by omega),Tr.get_set,if_pos rfl]
  have a2:((H.set n (some (.cells [.pointer (some ⟨g,0,none⟩)] 105 false none))).set (n+1) (some (.cells [.int .i64 i] 3 false none))).get (n+1)=some (.cells [.int .i64 i] 3 false none):=by rw[Tr.get_set,if_pos rfl]
  have a3:Keep n H ((H.set n (some (.cells [.pointer (some ⟨g,0,none⟩)] 105 false none))).set (n+1) (some (.cells [.int .i64 i] 3 false none))):=((Keep.refl n H).set (Nat.le_refl _) _).set (by omega) _
  generalize (H.set n (some (.cells [.pointer (some ⟨g,0,none⟩)] 105 false none))).set (n+1) (some (.cells [.int .i64 i] 3 false none))=H5 at a1 a2 a3 ⊢
  rw[range81,layouts_range (l+5+np+1) _ _ _ _ _ _ rfl]
  have hT:=hTT (.func (.func 117) ⟨[]⟩ ⟨[.pointer (some ⟨n,0,none⟩),.pointer (some ⟨n+1,0,none⟩)]⟩)
  generalize TT (.func (.func 117) ⟨[]⟩ ⟨[.pointer (some ⟨n,0,none⟩),.pointer (some ⟨n+1,0,none⟩)]⟩)=T at hT ⊢
  have r1:∀ b,b<n+2→((H5.set (n+2) (some .deferred)).set (n+2+1) (some (.loop .ready none 81 T (ntm P 81) #[23,24] lj lk (n+2)))).get b=H5.get b:=fun b hb=>by rw[Tr.get_set,if_neg (by omega),Tr.get_set,if_neg (by omega)]
  have r2:((H5.set (n+2) (some .deferred)).set (n+2+1) (some (.loop .ready none 81 T (ntm P 81) #[23,24] lj lk (n+2)))).get (n+2)=some .deferred:=by rw[Tr.get_set,if_neg (by omega),Tr.get_set,if_pos rfl]
  have r3:((H5.set (n+2) (some .deferred)).set (n+2+1) (some (.loop .ready none 81 T (ntm P 81) #[23,24] lj lk (n+2)))).get (n+2+1)=some (.loop .ready none 81 T (ntm P 81) #[23,24] lj lk (n+2)):=by rw[Tr.get_set,if_pos rfl]
  generalize (H5.set (n+2) (some .deferred)).set (n+2+1) (some (.loop .ready none 81 T (ntm P 81) #[23,24] lj lk (n+2)))=H6 at r1 r2 r3 ⊢
  have low:∀ b,b<n→H6.get b=H.get b:=fun b hb=>by rw[r1 b (by omega),a3 b hb]
  have st6:Stand H6 n m0 b1 b4 b5 g np nj nk f x y z ps js ks:=st.keep low (Nat.le_refl _)
  obtain⟨H7,n7,s1,s2,s3⟩:=layouts_spec l (H:=H6) (n:=n+2+2) (lb:=n+2+1) (sb:=n) (nb:=n+1) (nests:=i) (m0:=m0) hT r3 st6.at1 st6.at4 st6.at5 ((r1 n (by omega)).trans a1) ((r1 (n+1) (by omega)).trans a2) st6.cells st6.site st6.kinds st6.nests st6.ok st6.pads st6.np8 st6.nk3 (by omega) (by omega) (by omega) (by omega) (by omega) (by omega) (by omega) (by omega) (by omega) (by omega) (by omega) (by omega) (by omega) st.apart
  rw[s2,aj]
  dsimp only
  have hw:Wq ps js ks nj np nk i=nq (nw js ks ps nj np) (nv js ks ps nj np) (fitD js ks nj np) np nk np noL i:=rfl
  rw[← hw] at s3
  cases hc:Wq ps js ks nj np nk i with
  | none=>
    rw[hc] at s3
    have s3:∀ b,b<n+2+2→H7.get b=H6.get b:=s3
    have hout:kZ (n+2+1) { T:=T,H:=H7,n:=n7,D:=(n+2)::D }=some (.norm,{ T:=T,H:=H7.set (n+2+1) (some (.loop .exhausted none 81 T (ntm P 81) #[23,24] lj lk (n+2))),n:=n7,D:=(n+2)::D }):=by
      unfold kZ
      simp only[s3 (n+2+1) (by omega),r3]
    rw[hout]
    have ot:∀ b,b<n+2+1→(H7.set (n+2+1) (some (.loop .exhausted none 81 T (ntm P 81) #[23,24] lj lk (n+2)))).get b=H6.get b:=fun b hb=>by rw[Tr.get_set,if_neg (by omega),s3 b (by omega)]
    exact⟨T,_,n7,hT,by omega,(ot _ (by omega)).trans r2,fun b hb _ _=>by rw[ot b (by omega),low b hb],rfl,by rw[ot b4 (by omega),low b4 o3],by rw[ot b5 (by omega),low b5 o4]⟩
  | some M=>
    rw[hc] at s3
    obtain⟨t1,t2,t3,t4⟩:=s3
    have hout:kZ (n+2+1) { T:=T,H:=H7,n:=n7,D:=(n+2)::D }=some (.exit 0,{ T:=T,H:=H7.set (n+2+1) (some (.loop .exhausted (some (.exit 0)) 81 T (ntm P 81) #[23,24] lj lk (n+2))),n:=n7,D:=(n+2)::D }):=by
      unfold kZ
      simp only[t4]
    rw[hout]
    have ot:∀ b,b<n+2+1→(H7.set (n+2+1) (some (.loop .exhausted (some (.exit 0)) 81 T (ntm P 81) #[23,24] lj lk (n+2)))).get b=H7.get b:=fun b hb=>by rw[Tr.get_set,if_neg (by omega)]
    exact⟨T,_,n7,hT,by omega,by rw[ot _ (by omega),t1 _ (by omega) (by omega) (by omega) (by omega)]; exact r2,fun b hb i1 i2=>by rw[ot b (by omega),t1 b (by omega) (by omega) i1 i2,low b hb],rfl,by rw[ot b4 (by omega)]; exact t2,by rw[ot b5 (by omega)]; exact t3⟩
noncomputable def Fw (ps js ks:List Int) (nj np nk:Nat):Option (List Int):=sX (Wq ps js ks nj np nk) (np+1) (np+1)
def bestV (o:Option (List Int)):Value:=match o with
  | some M=>.tuple ⟨[.agg ⟨ints M⟩,.bool true]⟩
  | none=>.tuple ⟨[.agg ⟨ints noL⟩,.bool false]⟩
theorem withN_len {ps js ks M:List Int} {nj np nk i:Nat} (hnp:np≤8) (hks:kj ks nk) (h:Wq ps js ks nj np nk i=some M):M.length=8:=
  ((OW hnp (qcv hnp hks) np noL i 0 (by omega) Rj).1 M h).1.len
theorem loop81_spec (l k:Nat) {H0:Hp} {base n0 m0 b1 b2 b4 b5 g np nj nk:Nat} {f:Nat→Value} {x y z:Value} {ps js ks:List Int} (st:Stand H0 base m0 b1 b4 b5 g np nj nk f x y z ps js ks) (h2:∃ w,H0.get b2=some (.cells w 121 false none)∧w.length=8) (h4:H0.get b4=some (.cells (ints noL) 121 false none)) (h5:H0.get b5=some (.cells [.bool false] 4 false none))
    (hb2:b2<base) (e24:b2≠b4) (e25:b2≠b5) (n2:n0≤b2) (n4:n0≤b4) (n5:n0≤b5) :
    ∀(j i:Nat) (T:Tm) (H:Hp) (n:Nat) (D:List Nat),IsL81 T b1 b2 b4 b5 (.int .i64 ((np+1:Nat):Int)) i→i≤np+1→np+1-i≤j→base≤n→(∀ b,b<base→H.get b=H0.get b)→D.Nodup→(∀ d,d ∈ D→H.get d=some .deferred∧base≤d∧d<n) →
    ∃ H' n',LP (cal (l+5+np+2)) k (j+1) T H n D=some (bestV (sX (Wq ps js ks nj np nk) (np+1) (np+1-i)),H',n')∧n≤n'∧∀ b,b<n0→H'.get b=H0.get b:=by
  obtain⟨o1,o2,o3,o4,o5⟩:=st.low
  have hnp:=st.np8
  intro j
  induction j with
  | zero=>
    intro i T H n D hT hi hij hb hk hD hd
    have:i=np+1:=by omega
    subst this
    obtain⟨T',q1,q2⟩:=last81 (cal (l+5+np+2)) k 0 hT (by omega)
    obtain⟨H',e1,e2⟩:=end81 (cal (l+5+np+2)) k q1 (H:=H) (n:=n) (D:=D) (M:=noL) (r:=false) rfl (by obtain⟨w,w1,w2⟩:=h2; exact⟨w,(hk b2 hb2).trans w1,w2⟩) ((hk b4 o3).trans h4) ((hk b5 o4).trans h5) e25 hD fun d h=>(hd d h).1
    refine⟨H',n,?_,Nat.le_refl _,fun b hbn=>?_⟩
    · rw[q2,e1,Nat.sub_self]
      rfl
    · rw[e2 b (fun h=>by have:=(hd b h).2; omega) (by omega),hk b (by omega)]
  | succ j ih=>
    intro i T H n D hT hi hij hb hk hD hd
    by_cases hlt:i<np+1
    · have stH:Stand H n m0 b1 b4 b5 g np nj nk f x y z ps js ks:=st.keep hk hb
      have l1:az P H 105 ⟨b1,0,none⟩=some (.pointer (some ⟨g,0,none⟩)):=jV stH.at1 xZ rfl rfl
      obtain⟨TT,q1,q2⟩:=head81 (g:=g) (cal (l+5+np+2)) k (j+1) hT hlt
      obtain⟨T',H1,n1,r1,r2,r3,r4,r5,r6⟩:=round81 l stH (show i≤np by omega) q1 (KN (cal (l+5+np+2)) k (j+1)) (KE (cal (l+5+np+2)) k) (av P kJ) D
      have hD1:((n+2)::D).Nodup:=List.nodup_cons.2 ⟨fun h=>by have:=(hd _ h).2; omega,hD⟩
      have hd1:∀ d,d ∈ (n+2)::D→H1.get d=some .deferred∧base≤d∧d<n1:=by
        intro d h
        rcases List.mem_cons.1 h with rfl | h
        · exact⟨r3,by omega,by omega⟩
        · obtain⟨d1,d2,d3⟩:=hd d h
          exact⟨by rw[r4 d d3 (by omega) (by omega)]; exact d1,d2,by omega⟩
      rw[q2 H n D l1,r5,CY hlt]
      cases hc:Wq ps js ks nj np nk i with
      | none=>
        rw[hc] at r6
        obtain⟨r6,r7⟩:=r6
        dsimp only
        obtain⟨T'',t1,t2⟩:=next81 (cal (l+5+np+2)) k (j+1) r1 (by omega)
        rw[t2]
        obtain⟨H',n',u1,u2,u3⟩:=ih (i+1) T'' H1 n1 ((n+2)::D) t1 (by omega) (by omega) (by omega) (fun b hbb=>by
          by_cases c4:b=b4
          · rw[c4,r6,hk b4 o3]
          · by_cases c5:b=b5
            · rw[c5,r7,hk b5 o4]
            · rw[r4 b (by omega) c4 c5,hk b hbb]) hD1 hd1
        exact⟨H',n',u1,by omega,u3⟩
      | some M=>
        rw[hc] at r6
        obtain⟨r6,r7⟩:=r6
        dsimp only
        have hM:=withN_len hnp st.ok hc
        obtain⟨H',e1,e2⟩:=end81 (cal (l+5+np+2)) k r1 (H:=H1) (n:=n1) (D:=(n+2)::D) (M:=M) (r:=true) hM (by obtain⟨w,w1,w2⟩:=h2; exact⟨w,by rw[r4 b2 (by omega) e24 e25,hk b2 hb2]; exact w1,w2⟩) r6 r7 e25 hD1 fun d h=>(hd1 d h).1
        refine⟨H',n1,e1,by omega,fun b hbn=>?_⟩
        rw[e2 b (fun h=>by have:=(hd1 b h).2; omega) (by omega),r4 b (by omega) (by omega) (by omega),hk b (by omega)]
    · have:i=np+1:=by omega
      subst this
      obtain⟨T',q1,q2⟩:=last81 (cal (l+5+np+2)) k (j+1) hT (by omega)
      obtain⟨H',e1,e2⟩:=end81 (cal (l+5+np+2)) k q1 (H:=H) (n:=n) (D:=D) (M:=noL) (r:=false) rfl (by obtain⟨w,w1,w2⟩:=h2; exact⟨w,(hk b2 hb2).trans w1,w2⟩) ((hk b4 o3).trans h4) ((hk b5 o4).trans h5) e25 hD fun d h=>(hd d h).1
      refine⟨H',n,?_,Nat.le_refl _,fun b hbn=>?_⟩
      · rw[q2,e1,Nat.sub_self]
        rfl
      · rw[e2 b (fun h=>by have:=(hd b h).2; omega) (by omega),hk b (by omega)]
end Go.Proofs.Ytgojjellogiglaa.spec
end
section
namespace Go.Proofs.Ytgojjellogiglaa.spec
open Go Go.Ev Go.Proofs.Ytgojjellogiglaa.nestFits Go.Proofs.Ytgojjellogiglaa.G
set_option maxRecDepth 100000
variable {ρ:Type}
theorem best_spec (l:Nat) {H:Hp} {n g np nj nk:Nat} {f:Nat→Value} {x y z:Value} {ps js ks:List Int} (hf:cx H g 859 117 f) (hs:SiteF f x y z js nj) (hz:lenV P 33 z=some (.int .i64 nk)) (hn:∀ p kd,p<np→kd<nk→pZ f js ks nj np p kd) (hks:kj ks nk) (hx:dk H n 2 x np ps) (hnp:np≤8) (hnk:nk≤3) (hg:g<n) :
    Ret ((cal (l+5+np+3)).call 81 [.pointer (some ⟨g,0,none⟩)] H n) n H (bestV (Fw ps js ks nj np nk)):=by
  have lN:(ints noL).length=8:=rfl
  rw[call81 (l+5+np+2),pre81,cQ,dZ Aw,TJ (l+5+np+1),dZ Aw,dZ zero4']
  simp only[ptr]
  have c1:bj (.pointer (some ⟨g,0,none⟩))=[.pointer (some ⟨g,0,none⟩)]:=rfl
  have c2:bj (.agg ⟨ints (List.replicate 8 0)⟩)=ints (List.replicate 8 0):=rfl
  have c3:bj (.bool false)=[.bool false]:=rfl
  rw[c1,c2,c3]
  have a1:((((H.set n (some (.cells [.pointer (some ⟨g,0,none⟩)] 105 false none))).set (n+1) (some (.cells (ints (List.replicate 8 0)) 121 false none))).set (n+1+1) (some (.cells (ints (List.replicate 8 0)) 121 false none))).set (n+1+1+1) (some (.cells [.bool false] 4 false none))).get n=some (.cells [.pointer (some ⟨g,0,none⟩)] 105 false none):=by rw[Tr.get_set,if_neg (by omega),Tr.get_set,if_neg (by omega),Tr.get_set,if_neg (by omega),Tr.get_set,if_pos rfl]
  have a2:((((H.set n (some (.cells [.pointer (some ⟨g,0,none⟩)] 105 false none))).set (n+1) (some (.cells (ints (List.replicate 8 0)) 121 false none))).set (n+1+1) (some (.cells (ints (List.replicate 8 0)) 121 false none))).set (n+1+1+1) (some (.cells [.bool false] 4 false none))).get (n+1)=some (.cells (ints (List.replicate 8 0)) 121 false none):=by rw[Tr.get_set,if_neg (by omega),Tr.get_set,if_neg (by omega),Tr.get_set,if_pos rfl]
  have a3:((((H.set n (some (.cells [.pointer (some ⟨g,0,none⟩)] 105 false none))).set (n+1) (some (.cells (ints (List.replicate 8 0)) 121 false none))).set (n+1+1) (some (.cells (ints (List.replicate 8 0)) 121 false none))).set (n+1+1+1) (some (.cells [.bool false] 4 false none))).get (n+1+1)=some (.cells (ints (List.replicate 8 0)) 121 false none):=by rw[Tr.get_set,if_neg (by omega),Tr.get_set,if_pos rfl]
  have a4:((((H.set n (some (.cells [.pointer (some ⟨g,0,none⟩)] 105 false none))).set (n+1) (some (.cells (ints (List.replicate 8 0)) 121 false none))).set (n+1+1) (some (.cells (ints (List.replicate 8 0)) 121 false none))).set (n+1+1+1) (some (.cells [.bool false] 4 false none))).get (n+1+1+1)=some (.cells [.bool false] 4 false none):=by rw[Tr.get_set,if_pos rfl]
  have a5:Keep n H ((((H.set n (some (.cells [.pointer (some ⟨g,0,none⟩)] 105 false none))).set (n+1) (some (.cells (ints (List.replicate 8 0)) 121 false none))).set (n+1+1) (some (.cells (ints (List.replicate 8 0)) 121 false none))).set (n+1+1+1) (some (.cells [.bool false] 4 false none))):=((((Keep.refl n H).set (Nat.le_refl _) _).set (by omega) _).set (by omega) _).set (by omega) _
  generalize (((H.set n (some (.cells [.pointer (some ⟨g,0,none⟩)] 105 false none))).set (n+1) (some (.cells (ints (List.replicate 8 0)) 121 false none))).set (n+1+1) (some (.cells (ints (List.replicate 8 0)) 121 false none))).set (n+1+1+1) (some (.cells [.bool false] 4 false none))=H1 at a1 a2 a3 a4 a5 ⊢
  have eN:(List.replicate 8 (-1):List Int)=noL:=rfl
  rw[eN]
  have s1:=gJ (vs:=ints noL) a3 rfl (eQ _)
  rw[kv mK lN,s1,aj]
  have b1:(H1.set (n+1+1) (some (.cells (ints noL) 121 false none))).get (n+1+1+1)=some (.cells [.bool false] 4 false none):=by rw[Tr.get_set,if_neg (by omega)]; exact a4
  have s2:=gJ (vs:=[.bool false]) b1 rfl rfl
  rw[oX sz4' rfl,s2,aj]
  have o1:∀ b,b<n+2→((H1.set (n+1+1) (some (.cells (ints noL) 121 false none))).set (n+1+1+1) (some (.cells [.bool false] 4 false none))).get b=H1.get b:=fun b hb=>by rw[Tr.get_set,if_neg (by omega),Tr.get_set,if_neg (by omega)]
  have o2:((H1.set (n+1+1) (some (.cells (ints noL) 121 false none))).set (n+1+1+1) (some (.cells [.bool false] 4 false none))).get (n+1+1)=some (.cells (ints noL) 121 false none):=by rw[Tr.get_set,if_neg (by omega),Tr.get_set,if_pos rfl]
  have o3:((H1.set (n+1+1) (some (.cells (ints noL) 121 false none))).set (n+1+1+1) (some (.cells [.bool false] 4 false none))).get (n+1+1+1)=some (.cells [.bool false] 4 false none):=by rw[Tr.get_set,if_pos rfl]
  generalize (H1.set (n+1+1) (some (.cells (ints noL) 121 false none))).set (n+1+1+1) (some (.cells [.bool false] 4 false none))=H2 at o1 o2 o3 ⊢
  have kk:Keep n H H2:=fun b hb=>by rw[o1 b (by omega),a5 b hb]
  have g1:H2.get n=some (.cells [.pointer (some ⟨g,0,none⟩)] 105 false none):=(o1 n (by omega)).trans a1
  have f2:=hf.keep kk hg
  have lx:az P H2 31 ⟨g,0+0+0,none⟩=some x:=by
    have:=f2.load (P:=P) (k:=0) Bz (by omega)
    rw[hs.x] at this; exact this
  have hI:I64 ((np:Int)+1):=by unfold I64; omega
  have hlx:lenV P 31 x=some (.int .i64 np):=hx.len_eq CJ
  have hcast:((np:Int)+1)=((np+1:Nat):Int):=by omega
  rw[aJ,aj,jV g1 xZ rfl rfl,aj,kW,aj,pw,aj,sW,aj,aJ,aj,lx,aj,hlx,aj,ak (bV hI),hcast]
  have st:Stand H2 (n+4) n n (n+1+1) (n+1+1+1) g np nj nk f x y z ps js ks:=⟨g1,⟨_,o2,rfl⟩,⟨_,o3⟩,f2,hs,hz,hn,hks,hx.keep kk (Nat.le_refl _),hnp,hnk,⟨by omega,by omega,by omega,by omega,by omega⟩,by omega⟩
  obtain⟨H',n',e1,e2,e3⟩:=loop81_spec l KK (n0:=n) (b2:=n+1) st ⟨_,(o1 (n+1) (by omega)).trans a2,rfl⟩ o2 o3 (by omega) (by omega) (by omega) (by omega) (by omega) (by omega) KK 0 _ H2 (n+4) [] (.inl ⟨rfl,_,rfl⟩) (by omega) (by unfold KK; omega) (Nat.le_refl _) (fun _ _=>rfl) List.nodup_nil (fun d h=>by cases h)
  exact⟨H',n',e1,by omega,fun b hb=>by rw[e3 b hb,kk b hb]⟩
theorem best_call (l:Nat) {H:Hp} {n g np nj nk:Nat} {f:Nat→Value} {x y z:Value} {ps js ks:List Int} (hf:cx H g 859 117 f) (hs:SiteF f x y z js nj) (hz:lenV P 33 z=some (.int .i64 nk)) (hn:∀ p kd,p<np→kd<nk→pZ f js ks nj np p kd) (hks:kj ks nk) (hx:dk H n 2 x np ps) (hnp:np≤8) (hnk:nk≤3) (hg:g<n) :
    ∃ H' n',(∀ k:Value→Hp→Nat→Option ρ,aV P (cal (l+16)) 81 [.pointer (some ⟨g,0,none⟩)] H n k=k (bestV (Fw ps js ks nj np nk)) H' n')∧n≤n'∧Keep n H H':=by
  obtain⟨H',n',e1,e2,e3⟩:=best_spec (l+(8-np)) hf hs hz hn hks hx hnp hnk hg
  rw[show l+(8-np)+5+np+3=l+16 by omega] at e1
  refine⟨H',n',fun k=>?_,e2,e3⟩
  unfold aV
  have:(fw P 81 && bW [.pointer (some ⟨g,0,none⟩)])=false:=by simp [bW,bz]
  rw[this,e1]
  rfl
end Go.Proofs.Ytgojjellogiglaa.spec
end
section
namespace Go.Proofs.Ytgojjellogiglaa.spec
open Go Go.Ev Go.Proofs.Ytgojjellogiglaa.nestFits Go.Proofs.Ytgojjellogiglaa.G
set_option maxRecDepth 100000
variable {ρ:Type}
noncomputable def code82:Code:=cq 82
noncomputable def yq:List ResultVar:=dJ 82
noncomputable def tJ:Code:=asgOf (cL (cR (cL (cR (cR code82)))))
noncomputable def tQ:Code:=bodOf (cL (cR (cL (cR (cR code82)))))
noncomputable def K82 (c:Cal) (k:Nat):KC (Value × Hp × Nat):=ay P c (aw P c k) none 82 (cR (cR (cR code82))) .leaf (av P yq) X0 (av P yq)
noncomputable def T82 (v0 v1 v3 v5 v7 v8:Value):Tm:=((((((((Tr.nil:Tm).set 0 (some v0)).set 1 (some v1)).set 3 (some v3)).set 4 (some (.int .i64 0))).set 5 (some v5)).set 6 (some v0)).set 7 (some v7)).set 8 (some v8)
theorem pre82 (c:Cal) (k:Nat) (v0 v1:Value) (H:Hp) (n:Nat):aZ P c A (k+1) 82 [v0,v1] H n =
    (boxK 121 v1 H n fun v3 H n=>cX P 3 H n fun v5 H n=>aq (bx P 3 v5 (.int .i64 0) H) fun H=>aq (aW v3) fun a=>aq (az P H 121 a) fun v7=>aV P c 74 [v0,v7] H n fun v8 H n=>
      wq P c none 82 v8 #[9,10] tJ tQ (K82 c k) (upX 0 (K82 c k) X0) (av P yq) (T82 v0 v1 v3 v5 v7 v8) H n []):=by
  rw[bJ (fn:=Go.Proofs.Try.f82) (c:=code82) (rs:=yq) (by kernel_rfl) (by kernel_rfl) (by kernel_rfl) (by kernel_rfl)]
  kernel_rfl
theorem post82 (c:Cal) (k:Nat) (v0 v1 v3 v5 v7 v8:Value) (H:Hp) (n:Nat) (D:List Nat):K82 c k (T82 v0 v1 v3 v5 v7 v8) H n D =
    (aq (aW v5) fun a=>aq (az P H 3 a) fun v13=>getK (tw H D) fun H=>aq (resV P ((Tr.nil:Tm).set 4 (some v13)) H yq) fun vs=>some (oneV vs,H,n)):=by
  kernel_rfl
theorem call82 (l:Nat) (a b:Value) (H:Hp) (n:Nat):(cal (l+1)).call 82 [a,b] H n=aZ P (cal l) A (KK+1) 82 [a,b] H n:=by kernel_rfl
theorem asg82_eq (l lp:Nat) (v0 v1 v3 v5 v7 v8 p q:Value) (H:Hp) (n:Nat) :
    (cal (l+1)).body lp 82 tJ { T:=((T82 v0 v1 v3 v5 v7 v8).set 9 (some p)).set 10 (some q),H,n,D:=[] }=some (.norm,{ T:=((T82 v0 v1 v3 v5 v7 v8).set 9 (some p)).set 10 (some q),H,n,D:=[] }):=by kernel_rfl
theorem bod82_eq (l lp:Nat) (v0 v1 v3 v5 v7 v8 p q:Value) (H:Hp) (n:Nat) :
    (cal (l+1)).body lp 82 tQ { T:=((T82 v0 v1 v3 v5 v7 v8).set 9 (some p)).set 10 (some q),H,n,D:=[] } =
      (aq (aW v5) fun a=>aq (az P H 3 a) fun v11=>binK P .add 3 (.tmp 11) (.const (.int .i64 1)) v11 (.int .i64 1) fun v12=>aq (bx P 3 v5 v12 H) fun H=>
        some (.norm,{ T:=((((T82 v0 v1 v3 v5 v7 v8).set 9 (some p)).set 10 (some q)).set 11 (some v11)).set 12 (some v12),H,n,D:=[] })):=by kernel_rfl
theorem res82 (v:Value) (H:Hp):resV P ((Tr.nil:Tm).set 4 (some v)) H yq=some [v]:=by kernel_rfl
theorem ntm82:ntm P 82=14:=by kernel_rfl
theorem range82 (c:Cal) (a b:Value) (K:KC (Value × Hp × Nat)) (X:XC (Value × Hp × Nat)) (Kr:KC (Value × Hp × Nat)) (T:Tm) (H:Hp) (n:Nat) :
    wq P c none 82 (.func (.func 104) ⟨[]⟩ ⟨[a,b]⟩) #[9,10] tJ tQ K X Kr T H n [] =
      aV P c 104 [.func (.yield (n+1)) #[] #[],a,b] ((H.set n (some .deferred)).set (n+1) (some (.loop .ready none 82 T (ntm P 82) #[9,10] tJ tQ n))) (n+2) fun _ H n'=>fin K X Kr (kZ (n+1) { T:=T,H,n:=n',D:=[n] }):=rfl
theorem yield82 (L:Nat) {H:Hp} {n lb b5 d:Nat} {v0 v1 v3 v7 v8 q0 q1:Value} {c:Int} (hl:H.get lb=some (.loop .ready none 82 (T82 v0 v1 v3 (.pointer (some ⟨b5,0,none⟩)) v7 v8) (ntm P 82) #[9,10] tJ tQ d))
    (h5:H.get b5=some (.cells [.int .i64 c] 3 false none)) (hc:I64 (c+1)) (n5:b5≠lb) :
    ∃ H',(∀ k:Value→Hp→Nat→Option ρ,gk P (cal (L+1)) (.func (.yield lb) #[] #[]) [q0,q1] H n k=k (.bool true) H' n)∧H'.get lb=H.get lb ∧
      H'.get b5=some (.cells [.int .i64 (c+1)] 3 false none)∧∀ b,b≠lb→b≠b5→H'.get b=H.get b:=by
  have hpar:vX (T82 v0 v1 v3 (.pointer (some ⟨b5,0,none⟩)) v7 v8) (ntm P 82) (#[9,10]:Array Tmp).toList [q0,q1]=some (((T82 v0 v1 v3 (.pointer (some ⟨b5,0,none⟩)) v7 v8).set 9 (some q0)).set 10 (some q1)):=by
    rw[ntm82]; rfl
  have hasg:=asg82_eq L lb v0 v1 v3 (.pointer (some ⟨b5,0,none⟩)) v7 v8 q0 q1 H n
  have hrdy:vY H lb=true:=by unfold vY; rw[hl]
  have hpen:ny H lb=none:=by unfold ny; rw[hl]
  have hbd:=fun H=>bod82_eq L lb v0 v1 v3 (.pointer (some ⟨b5,0,none⟩)) v7 v8 q0 q1 H n
  generalize T82 v0 v1 v3 (.pointer (some ⟨b5,0,none⟩)) v7 v8=T at hl hpar hasg hbd
  have hbusy:jK H lb .busy none=some (H.set lb (some (.loop .busy none 82 T (ntm P 82) #[9,10] tJ tQ d))):=by unfold jK; rw[hl]
  have g5:(H.set lb (some (.loop .busy none 82 T (ntm P 82) #[9,10] tJ tQ d))).get b5=some (.cells [.int .i64 c] 3 false none):=by rw[Tr.get_set,if_neg n5]; exact h5
  have gl:(H.set lb (some (.loop .busy none 82 T (ntm P 82) #[9,10] tJ tQ d))).get lb=some (.loop .busy none 82 T (ntm P 82) #[9,10] tJ tQ d):=by rw[Tr.get_set,if_pos rfl]
  have ho:∀ b,b≠lb→(H.set lb (some (.loop .busy none 82 T (ntm P 82) #[9,10] tJ tQ d))).get b=H.get b:=fun b hb=>by rw[Tr.get_set,if_neg hb]
  generalize H.set lb (some (.loop .busy none 82 T (ntm P 82) #[9,10] tJ tQ d))=H2 at hbusy g5 gl ho
  have hst:=gJ (vs:=[.int .i64 (c+1)]) g5 rfl rfl
  have l5:az P H2 3 ⟨b5,0,none⟩=some (.int .i64 c):=bw (o:=0) (k:=0) (fx g5) agg3 rfl
  have hbody:=hbd H2
  rw[aJ,aj,l5,aj,ak (bV hc),oX sz3 rfl,hst,aj] at hbody
  have q5:(H2.set b5 (some (.cells [.int .i64 (c+1)] 3 false none))).get b5=some (.cells [.int .i64 (c+1)] 3 false none):=by rw[Tr.get_set,if_pos rfl]
  have ql:(H2.set b5 (some (.cells [.int .i64 (c+1)] 3 false none))).get lb=some (.loop .busy none 82 T (ntm P 82) #[9,10] tJ tQ d):=by rw[Tr.get_set,if_neg (Ne.symm n5)]; exact gl
  have qo:∀ b,b≠lb→b≠b5→(H2.set b5 (some (.cells [.int .i64 (c+1)] 3 false none))).get b=H.get b:=fun b hb hb5=>by rw[Tr.get_set,if_neg hb5]; exact ho b hb
  generalize H2.set b5 (some (.cells [.int .i64 (c+1)] 3 false none))=H3 at q5 ql qo hbody
  have hend:jK H3 lb .ready none=some (H3.set lb (some (.loop .ready none 82 T (ntm P 82) #[9,10] tJ tQ d))):=by unfold jK; rw[ql]
  refine⟨H3.set lb (some (.loop .ready none 82 T (ntm P 82) #[9,10] tJ tQ d)),fun k=>?_,by rw[Tr.get_set,if_pos rfl,hl],by rw[Tr.get_set,if_neg n5]; exact q5,fun b hb hb5=>by rw[Tr.get_set,if_neg hb,qo b hb hb5]⟩
  show stK (oQ (fun | some l=>(cal (L+1)).body l | none=>fun _ _ _=>none) P lb [q0,q1] (bare H n)) k=_
  have hy:oQ (fun | some l=>(cal (L+1)).body l | none=>fun _ _ _=>none) P lb [q0,q1] (bare H n)=some (.bool true,{ bare H n with H:=H3.set lb (some (.loop .ready none 82 T (ntm P 82) #[9,10] tJ tQ d)),n:=n }):=by
    unfold oQ
    have hb:Nat.beq (ntm P 82) (ntm P 82)=true:=Nat.beq_refl _
    have hx:GJ .norm=some none:=rfl
    simp only[bare,hl,hb,hpar,hasg,hrdy,hpen,hbusy,hbody,hx,Option.isNone_none,if_true,hend]
  rw[hy]
  rfl
noncomputable def cntI (L:List Int) (i:Nat):Int:=dV (fun p=>if L.getD p 0=-1 then 0 else 1) i
theorem cntI_range (L:List Int):∀ i,0≤cntI L i∧cntI L i≤i
  | 0=>⟨Int.le_refl _,Int.le_refl _⟩
  | i+1=>by
    obtain⟨h1,h2⟩:=cntI_range L i
    unfold cntI at h1 h2 ⊢
    simp only[dV]
    split <;> omega
theorem count_call (l:Nat) {H:Hp} {n g np nj nk:Nat} {f:Nat→Value} {js ks L:List Int} (hf:cx H g 859 117 f) (hn:∀ p kd,p<np→kd<nk→pZ f js ks nj np p kd) (hL:L.length=8) (hK:oJ L np nk) (hnp:np≤8) (hnk:nk≤3) (hg:g<n) :
    ∃ H' n',(∀ k:Value→Hp→Nat→Option ρ,aV P (cal (l+3)) 82 [.pointer (some ⟨g,0,none⟩),.agg ⟨ints L⟩] H n k=k (.int .i64 (cntI L 8)) H' n')∧n≤n'∧Keep n H H':=by
  have lens:(ints L).length=8:=by rw[aK,hL]
  have key:Ret ((cal (l+3)).call 82 [.pointer (some ⟨g,0,none⟩),.agg ⟨ints L⟩] H n) n H (.int .i64 (cntI L 8)):=by
    rw[call82 (l+2),pre82,cQ,dZ zero3]
    have c1:bj (.agg ⟨ints L⟩)=ints L:=rfl
    have c2:bj (.int .i64 0)=[.int .i64 0]:=rfl
    simp only[ptr]
    rw[c1,c2]
    have a1:((H.set n (some (.cells (ints L) 121 false none))).set (n+1) (some (.cells [.int .i64 0] 3 false none))).get (n+1)=some (.cells [.int .i64 0] 3 false none):=by rw[Tr.get_set,if_pos rfl]
    have a0:((H.set n (some (.cells (ints L) 121 false none))).set (n+1) (some (.cells [.int .i64 0] 3 false none))).get n=some (.cells (ints L) 121 false none):=by rw[Tr.get_set,if_neg (by omega),Tr.get_set,if_pos rfl]
    have a2:Keep n H ((H.set n (some (.cells (ints L) 121 false none))).set (n+1) (some (.cells [.int .i64 0] 3 false none))):=((Keep.refl n H).set (Nat.le_refl _) _).set (by omega) _
    generalize (H.set n (some (.cells (ints L) 121 false none))).set (n+1) (some (.cells [.int .i64 0] 3 false none))=H1 at a0 a1 a2 ⊢
    have s1:=gJ (vs:=[.int .i64 0]) a1 rfl rfl
    rw[oX sz3 rfl,s1,aj]
    have b1:(H1.set (n+1) (some (.cells [.int .i64 0] 3 false none))).get (n+1)=some (.cells [.int .i64 0] 3 false none):=by rw[Tr.get_set,if_pos rfl]
    have b0:(H1.set (n+1) (some (.cells [.int .i64 0] 3 false none))).get n=some (.cells (ints L) 121 false none):=by rw[Tr.get_set,if_neg (by omega)]; exact a0
    have b2:Keep n H (H1.set (n+1) (some (.cells [.int .i64 0] 3 false none))):=a2.set (by omega) _
    generalize H1.set (n+1) (some (.cells [.int .i64 0] 3 false none))=H2 at b0 b1 b2 ⊢
    rw[aJ,aj,bZ b0 pK mK lens,aj,placed_call (l+1),range82]
    generalize hH5:(H2.set (n+1+1) (some (.cells [.pointer (some ⟨g,0,none⟩)] 105 false none))).set (n+1+1+1) (some (.cells (ints L) 121 false none))=H5
    have q1:∀ b,b<n+2→H5.get b=H2.get b:=fun b hb=>by rw[← hH5,Tr.get_set,if_neg (by omega),Tr.get_set,if_neg (by omega)]
    have q3:H5.get (n+2)=some (.cells [.pointer (some ⟨g,0,none⟩)] 105 false none):=by rw[← hH5,Tr.get_set,if_neg (by omega),Tr.get_set,if_pos rfl]
    have q4:H5.get (n+3)=some (.cells (ints L) 121 false none):=by rw[← hH5,Tr.get_set,if_pos rfl]
    clear hH5
    have hc104:∀(a b c:Value) (H:Hp) (n:Nat) (k:Value→Hp→Nat→Res),bz b=false→aV P (cal (l+2)) 104 [a,b,c] H n k=aq (DZ (cal (l+1)) KK a b c H n) fun r=>k r.1 r.2.1 r.2.2:=by
      intro a b c H n k hb
      unfold aV
      have:(fw P 104 && bW [a,b,c])=false:=by simp [bW,hb]
      rw[this,call104]
    rw[hc104 _ _ _ _ _ _ rfl]
    have e4:n+1+1+2=n+4:=by omega
    have e5:n+1+1+2+1=n+5:=by omega
    have e6:n+1+1+2+2=n+6:=by omega
    have e3:n+1+1+1=n+3:=by omega
    have e2:n+1+1=n+2:=by omega
    simp only[e4,e5,e6,e3,e2]
    generalize hT:T82 _ _ _ _ _ _=T
    generalize hH6:(H5.set (n+4) (some .deferred)).set (n+5) (some (.loop .ready none 82 T (ntm P 82) #[9,10] tJ tQ (n+4)))=H6
    have r1:∀ b,b<n+4→H6.get b=H5.get b:=fun b hb=>by rw[← hH6,Tr.get_set,if_neg (by omega),Tr.get_set,if_neg (by omega)]
    have r2:H6.get (n+4)=some .deferred:=by rw[← hH6,Tr.get_set,if_neg (by omega),Tr.get_set,if_pos rfl]
    have r3:H6.get (n+5)=some (.loop .ready none 82 T (ntm P 82) #[9,10] tJ tQ (n+4)):=by rw[← hH6,Tr.get_set,if_pos rfl]
    clear hH6
    have low:∀ b,b<n→H6.get b=H.get b:=fun b hb=>by rw[r1 b (by omega),q1 b (by omega),b2 b hb]
    have l104:az P H6 121 ⟨n+3,0,none⟩=some (.agg ⟨ints L⟩):=bZ (by rw[r1 _ (by omega)]; exact q4) pK mK lens
    obtain⟨H7,n7,i0,i1,i2,i3,i4⟩:=iter104_loop (cal (l+1)) KK (.func (.yield (n+5)) #[] #[]) (n+2) g np nj nk js ks L hL hK hnp hnk
      (fun i Hc nc=>n+6≤nc∧Hc.get (n+5)=some (.loop .ready none 82 T (ntm P 82) #[9,10] tJ tQ (n+4))∧Hc.get (n+1)=some (.cells [.int .i64 (cntI L i)] 3 false none)∧∀ b,b<n+6→b≠n+5→b≠n+1→Hc.get b=H6.get b)
      (fun i Hc nc ⟨_,_,_,h⟩=>by
        refine⟨jV (by rw[h _ (by omega) (by omega) (by omega),r1 _ (by omega)]; exact q3) xZ rfl rfl,fun p kd hp hkd=>?_⟩
        have cg:cx Hc g 859 117 f:=by
          obtain⟨c,a1,a2,a3⟩:=hf
          exact⟨c,by rw[h _ (by omega) (by omega) (by omega),low g hg]; exact a1,a2,a3⟩
        exact Tk cg (hn p kd hp hkd) (by omega) (by omega))
      (fun i Hc nc kd B ⟨h1,h2,h3,h4⟩ hip hkd hLi _=>by
        have hr:=cntI_range L i
        rw[← hT] at h2
        obtain⟨H',z1,z2,z3,z4⟩:=yield82 (ρ:=Value × Hp × Nat) l (n:=nc) (q0:=.int .i64 i) (q1:=.agg ⟨ints (bK (ks.getD (kd * 5) 0) (shP js ks nj np i kd) B)⟩) h2 h3 (by unfold I64; omega) (by omega)
        refine⟨H',nc,z1,h1,by rw[z2,h2,hT],?_,fun b hb hb1 hb2=>(z4 b hb1 hb2).trans (h4 b hb hb1 hb2)⟩
        rw[z3]
        unfold cntI
        simp only[dV]
        rw[if_neg (by omega)])
      (fun i Hc nc ⟨h1,h2,h3,h4⟩ hLi=>⟨h1,h2,by
        rw[h3]
        unfold cntI
        simp only[dV]
        rw[if_pos hLi,Int.add_zero],h4⟩)
      KK 0 H6 (n+6) ⟨Nat.le_refl _,r3,by rw[r1 _ (by omega),q1 _ (by omega)]; exact b1,fun _ _ _ _=>rfl⟩ (by omega) (by unfold KK; omega)
    have e3':DZ (cal (l+1)) KK (.func (.yield (n+5)) #[] #[]) (.pointer (some ⟨n+3,0,none⟩)) (.pointer (some ⟨n+2,0,none⟩)) H6 (n+6)=some (.tuple ⟨[]⟩,H7,n7):=by
      unfold DZ B104_0
      rw[aJ,aj,l104,aj]
      exact i0
    rw[e3',aj]
    have hout:kZ (n+5) { T:=T,H:=H7,n:=n7,D:=[n+4] }=some (.norm,{ T:=T,H:=H7.set (n+5) (some (.loop .exhausted none 82 T (ntm P 82) #[9,10] tJ tQ (n+4))),n:=n7,D:=[n+4] }):=by
      unfold kZ
      simp only[i2]
    rw[hout]
    show Ret (K82 (cal (l+2)) KK T (H7.set (n+5) (some (.loop .exhausted none 82 T (ntm P 82) #[9,10] tJ tQ (n+4)))) n7 [n+4]) n H (.int .i64 (cntI L 8))
    generalize hH8:H7.set (n+5) (some (.loop .exhausted none 82 T (ntm P 82) #[9,10] tJ tQ (n+4)))=H8
    have o1:∀ b,b<n+5→H8.get b=H7.get b:=fun b hb=>by rw[← hH8,Tr.get_set,if_neg (by omega)]
    clear hH8 hout
    have l5:az P H8 3 ⟨n+1,0,none⟩=some (.int .i64 (cntI L 8)):=bw (o:=0) (k:=0) (fx (by rw[o1 _ (by omega)]; exact i3)) agg3 rfl
    have ht:tw H8 [n+4]=some (H8.set (n+4) none):=by
      have:H8.get (n+4)=some .deferred:=by rw[o1 _ (by omega),i4 _ (by omega) (by omega) (by omega)]; exact r2
      unfold tw
      simp only[this]
      rfl
    rw[← hT,post82,aJ,aj,l5,aj,ht]
    show Ret (aq (resV P ((Tr.nil:Tm).set 4 (some (.int .i64 (cntI L 8)))) (H8.set (n+4) none) yq) fun vs=>some (oneV vs,H8.set (n+4) none,n7)) n H _
    rw[res82]
    refine⟨_,_,rfl,by omega,fun b hb=>?_⟩
    rw[Tr.get_set,if_neg (by omega),o1 _ (by omega),i4 _ (by omega) (by omega) (by omega),low b hb]
  obtain⟨H',n',e1,e2,e3⟩:=key
  refine⟨H',n',fun k=>?_,e2,e3⟩
  unfold aV
  have:(fw P 82 && bW [.pointer (some ⟨g,0,none⟩),.agg ⟨ints L⟩])=false:=by simp [bW,bz]
  rw[this,e1]
  rfl
end Go.Proofs.Ytgojjellogiglaa.spec
end
section
namespace Go.Proofs.Ytgojjellogiglaa.spec
open Go Go.Ev Go.Proofs.Ytgojjellogiglaa.nestFits Go.Proofs.Ytgojjellogiglaa.G
set_option maxRecDepth 100000
variable {ρ:Type}
def Same (H Hm:Hp):Prop:=∀ b o vs,aX H b o vs→aX Hm b o vs
theorem OY {H Hm:Hp} {n s len:Nat} {v:Value} {xs:List Int} (hr:Same H Hm) (h:SliceI H n s v len xs):SliceI Hm n s v len xs:=by
  obtain⟨h1,h2,h3⟩:=h
  refine⟨h1,h2,?_⟩
  rcases h3 with h3 | ⟨b,o,cap,e,a1,a2,a3,a4⟩
  · exact .inl h3
  · exact .inr ⟨b,o,cap,e,a1,a2,a3,a4.imp id fun z=>hr _ _ _ z⟩
theorem same_grove {H Hm:Hp} {n np nj nk:Nat} {v:Value} {ps js ks:List Int} (hr:Same H Hm) (h:GroveI H n v np nj nk ps js ks):GroveI Hm n v np nj nk ps js ks:=by
  obtain⟨a,b,c,e,h1,h2,h3⟩:=h.eq
  exact⟨⟨a,b,c,e,OY hr h1,OY hr h2,OY hr h3⟩⟩
theorem same_list {H Hm:Hp} {n len:Nat} {v:Value} {xs:List Int} (hr:Same H Hm) (h:ListR H n v len xs):ListR Hm n v len xs:=by
  obtain⟨h1,h2,h3⟩:=h
  refine⟨h1,h2,?_⟩
  rcases h3 with h3 | ⟨b,o,cap,e,a,c⟩
  · exact .inl h3
  · exact .inr ⟨b,o,cap,e,a,hr _ _ _ c⟩
theorem block_of {H:Hp} {b o:Nat} {vs:List Value} (h:aX H b o vs):(∃ c e ro vec,H.get b=some (.cells c e ro vec))∨∃ c,H.get b=some (.rows c):=by
  obtain⟨B,c,h1,h2,_⟩:=h
  cases B with
  | cells c e ro vec=>exact .inl ⟨_,_,_,_,h1⟩
  | rows c=>exact .inr ⟨_,h1⟩
  | _=>cases h2
theorem effK_read {ex:List Extra} {H:Hp} {n:Nat} {v:Value} {op:Hp→Nat→(Value→Hp→Nat→Option ρ)→Option ρ}
    (hex:∀ y ∈ ex,∃ t a,y=.l t a∧a.block<n∧((∃ c e ro vec,H.get a.block=some (.cells c e ro vec))∨∃ c,H.get a.block=some (.rows c)))
    (hop:∀ Hm,Same H Hm→∃ H2 n2,(∀ k,op Hm n k=k v H2 n2)∧n≤n2∧Keep n Hm H2) :
    ∃ H' n2,(∀ k,effK P ex H n op k=k v H' n2)∧n≤n2∧Keep n H H':=by
  cases ex with
  | nil=>
    obtain⟨H2,n2,h1,h2,h3⟩:=hop H (fun _ _ _ h=>h)
    exact⟨H2,n2,fun k=>by unfold effK; exact h1 k,h2,h3⟩
  | cons y l=>
    have hl:∀ z ∈ y::l,∃ t a,z=.l t a:=fun z hz=>by obtain⟨t,a,e,_⟩:=hex z hz; exact⟨t,a,e⟩
    obtain⟨H1,e1,e2⟩:=xW (ex:=y::l) (H:=H) fun z hz=>by obtain⟨t,a,e,_,h⟩:=hex z hz; exact .inl ⟨t,a,e,h⟩
    have hnw:∀ b,¬ nwOf (y::l) b:=fun b ⟨id,c,e,h1,_⟩=>by obtain⟨t,a,q⟩:=hl _ h1; cases q
    obtain⟨H2,n2,h1,h2,h3⟩:=hop (pY (y::l) H1) fun b o vs hc=>by
      obtain⟨B,c,g1,g2,g3⟩:=hc
      have em:=(kw (ex:=y::l) (H:=H1) b).2 (hnw _)
      rcases e2 b with q | ⟨⟨c',e,ro,vec,q1,q2⟩,_⟩
      · exact⟨B,c,by rw[em,q]; exact g1,g2,g3⟩
      · rw[q1] at g1
        cases g1
        exact⟨.cells c' e true vec,c,by rw[em]; exact q2,g2,g3⟩
    have hsome:∀ z ∈ y::l,(∃ t a,z=.l t a∧(H2.get a.block).isSome)∨∃ id c e,z=.a id c e:=by
      intro z hz
      obtain⟨t,a,rfl,hb,hc⟩:=hex z hz
      refine .inl ⟨t,a,rfl,?_⟩
      rw[h3 _ hb,(kw (H:=H1) a.block).2 (hnw _)]
      have hs:(H.get a.block).isSome:=by rcases hc with⟨c,e,ro,vec,hc⟩ | ⟨c,hc⟩ <;> rw[hc] <;> rfl
      rcases e2 a.block with q | ⟨⟨c,e,ro,vec,_,q⟩,_⟩
      · rw[q]; exact hs
      · rw[q]; rfl
    obtain⟨H3,f1,f2,f3⟩:=xX (H0:=H) hsome
    have hck:chkX P (mJ (y::l) H H3) (y::l)=true:=Fj fun z hz=>.inl (hl z hz)
    refine⟨mJ (y::l) H H3,n2,fun k=>?_,h2,fun b hb=>?_⟩
    · unfold effK
      simp only[e1,aj,h1,f1,hck]
      rfl
    · rw[(pj b).2 (hnw b)]
      by_cases q:ldOf (y::l) b
      · exact f2 b q
      · rw[f3 b q,h3 b hb,(kw (H:=H1) b).2 (hnw b)]
        rcases e2 b with z | ⟨_,z⟩
        · exact z
        · exact absurd z q
theorem fv55_0 (a b:Value):Nk P 55 (.agg ⟨[a,b]⟩) 0=some a:=by kernel_rfl
theorem fv55_1 (a b:Value):Nk P 55 (.agg ⟨[a,b]⟩) 1=some b:=by kernel_rfl
theorem limit_spec (l:Nat) {np nj nk q:Nat} {ps js ks ls:List Int} (good:Good np nj nk ps js ks) (hok:kz js ks ls nj np nk) (hq:q<np) {H:Hp} {n:Nat} {v w:Value} (hg:GroveI H n v np nj nk ps js ks) (hw:ListR H n w np ls) :
    Ret (C28_0 (cal (l+5)) KK v w (.int .i64 q) H n) n H (.bool (decide (bsum js ks (cV ls np) nj np 8 0 q<ps.getD (q * 2) 0))) ∧
    Ret (C29_0 (cal (l+5)) KK v w (.int .i64 q) H n) n H (.bool (decide (ps.getD (q * 2+1) 0<bsum js ks (cV ls np) nj np 8 1 q))):=by
  have hg0:=hg
  obtain⟨x,y,z,rfl,h1,h2,h3⟩:=hg.eq
  have hk:Keep n H (H.set n (some (.cells [x,y,z] 26 false none))):=(Keep.refl n H).set (Nat.le_refl _) _
  have hb:(H.set n (some (.cells [x,y,z] 26 false none))).get n=some (.cells [x,y,z] 26 false none):=by rw[Tr.get_set,if_pos rfl]
  unfold C28_0 B28_0 C29_0 B29_0
  rw[cQ,cQ]
  simp only[bj,ptr]
  generalize H.set n (some (.cells [x,y,z] 26 false none))=H1 at hk hb ⊢
  have hg1:GroveI H1 (n+1) (.agg ⟨[x,y,z]⟩) np nj nk ps js ks:=hg0.keep hk (by omega)
  have lx:az P H1 22 ⟨n,0+0,none⟩=some x:=bq (mV hb) IY rfl h1.hole.1 h1.hole.2
  obtain⟨rb,o,hix,hrb,hc⟩:=((h1.keep hk (Nat.le_refl _)).up (show n≤n+1 by omega)).at_ EY sz95 hq
  have hl:q * 2+2≤ps.length:=by rw[h1.1]; omega
  have a0:az P H1 3 ⟨rb,o+q * 2+0,none⟩=some (.int .i64 (ps.getD (q * 2) 0)):=by
    rw[show o+q * 2+0=o+(q * 2) by omega]; exact bw hc agg3 (nX (getD_some (by omega)))
  have a1:az P H1 3 ⟨rb,o+q * 2+1,none⟩=some (.int .i64 (ps.getD (q * 2+1) 0)):=by
    rw[show o+q * 2+1=o+(q * 2+1) by omega]; exact bw hc agg3 (nX (getD_some (by omega)))
  have go:∀(oo:Nat),∃ H' n2,(∀ k:Value→Hp→Nat→Res,effK P [.l 3 ⟨rb,oo,none⟩,.l 22 ⟨n,0+0,none⟩] H1 (n+1) (fun H n k=>aV P (cal (l+5)) 27 [.agg ⟨[x,y,z]⟩,w,.int .i64 q] H n fun v H n=>k v H n) k =
      k (.agg ⟨[.int .i64 (bsum js ks (cV ls np) nj np 8 0 q),.int .i64 (bsum js ks (cV ls np) nj np 8 1 q)]⟩) H' n2)∧n+1≤n2∧Keep (n+1) H1 H':=fun oo=>
    effK_read (fun y hy=>by
      simp only[List.mem_cons,List.not_mem_nil,or_false] at hy
      rcases hy with rfl | rfl
      · exact⟨_,_,rfl,hrb,block_of hc⟩
      · exact⟨_,_,rfl,by show n<n+1; omega,.inl ⟨_,_,_,_,hb⟩⟩)
      (fun Hm hm=>by
        obtain⟨H2,n2,e1,e2,e3⟩:=rbounds_call (ρ:=Value × Hp × Nat) l good hok hq (same_grove hm hg1) (same_list hm (hw.keep hk (show n≤n+1 by omega)))
        exact⟨H2,n2,fun k=>e1 _,e2,e3⟩)
  constructor
  · obtain⟨H',n2,e1,e2,e3⟩:=go (o+q * 2+0)
    rw[aJ,aj,wk (mV hb) h1.hole.1 h2.hole.1 h3.hole.1,aj,wz,aj,aJ,aj,lx,aj,hix,aj,fa95_0,aj,aJ,aj,a0,aj,e1,fv55_0,aj,ak cY]
    exact⟨H',n2,rfl,by omega,hk.trans e3 (by omega)⟩
  · obtain⟨H',n2,e1,e2,e3⟩:=go (o+q * 2+1)
    rw[aJ,aj,wk (mV hb) h1.hole.1 h2.hole.1 h3.hole.1,aj,wz,aj,aJ,aj,lx,aj,hix,aj,fa95_1,aj,aJ,aj,a1,aj,e1,fv55_1,aj,ak wx]
    exact⟨H',n2,rfl,by omega,hk.trans e3 (by omega)⟩
theorem call28 (l:Nat) (a b c:Value) (H:Hp) (n:Nat):(cal (l+1)).call 28 [a,b,c] H n=C28_0 (cal l) KK a b c H n:=by kernel_rfl
theorem call29 (l:Nat) (a b c:Value) (H:Hp) (n:Nat):(cal (l+1)).call 29 [a,b,c] H n=C29_0 (cal l) KK a b c H n:=by kernel_rfl
theorem missedR_call (l:Nat) {np nj nk q:Nat} {ps js ks ls:List Int} (good:Good np nj nk ps js ks) (hok:kz js ks ls nj np nk) (hq:q<np) {H:Hp} {n:Nat} {v w:Value} (hg:GroveI H n v np nj nk ps js ks) (hw:ListR H n w np ls) :
    ∃ H' n',(∀ k:Value→Hp→Nat→Option ρ,aV P (cal (l+6)) 28 [v,w,.int .i64 q] H n k=k (.bool (decide (bsum js ks (cV ls np) nj np 8 0 q<ps.getD (q * 2) 0))) H' n')∧n≤n'∧Keep n H H':=by
  obtain⟨r,H',n',rfl,e1,e2,e3⟩:=dq (ρ:=ρ) (P:=P) (cal:=cal (l+6)) (f:=28) (args:=[v,w,.int .i64 q]) (H:=H) (n:=n)
    (Pre:=fun H n=>GroveI H n v np nj nk ps js ks∧ListR H n w np ls) (Q:=fun r=>r=.bool (decide (bsum js ks (cV ls np) nj np 8 0 q<ps.getD (q * 2) 0)))
    (fun H n h=>⟨_,by rw[call28]; exact(limit_spec l good hok hq h.1 h.2).1,rfl⟩) (fun r e _=>by subst e; rfl) ⟨hg,hw⟩ (fun hp=>by
        simp only[bW,Bool.and_eq_true] at hp
        exact⟨hg.nil hp.1,hw.nil hp.2.1⟩)
  exact⟨H',n',e1,e2,e3⟩
theorem overR_call (l:Nat) {np nj nk q:Nat} {ps js ks ls:List Int} (good:Good np nj nk ps js ks) (hok:kz js ks ls nj np nk) (hq:q<np) {H:Hp} {n:Nat} {v w:Value} (hg:GroveI H n v np nj nk ps js ks) (hw:ListR H n w np ls) :
    ∃ H' n',(∀ k:Value→Hp→Nat→Option ρ,aV P (cal (l+6)) 29 [v,w,.int .i64 q] H n k=k (.bool (decide (ps.getD (q * 2+1) 0<bsum js ks (cV ls np) nj np 8 1 q))) H' n')∧n≤n'∧Keep n H H':=by
  obtain⟨r,H',n',rfl,e1,e2,e3⟩:=dq (ρ:=ρ) (P:=P) (cal:=cal (l+6)) (f:=29) (args:=[v,w,.int .i64 q]) (H:=H) (n:=n)
    (Pre:=fun H n=>GroveI H n v np nj nk ps js ks∧ListR H n w np ls) (Q:=fun r=>r=.bool (decide (ps.getD (q * 2+1) 0<bsum js ks (cV ls np) nj np 8 1 q)))
    (fun H n h=>⟨_,by rw[call29]; exact(limit_spec l good hok hq h.1 h.2).2,rfl⟩) (fun r e _=>by subst e; rfl) ⟨hg,hw⟩ (fun hp=>by
        simp only[bW,Bool.and_eq_true] at hp
        exact⟨hg.nil hp.1,hw.nil hp.2.1⟩)
  exact⟨H',n',e1,e2,e3⟩
end Go.Proofs.Ytgojjellogiglaa.spec
end
section
namespace Go.Proofs.Ytgojjellogiglaa.spec
open Go Go.Ev Go.Proofs.Ytgojjellogiglaa.nestFits Go.Proofs.Ytgojjellogiglaa.G
set_option maxRecDepth 100000
variable {ρ:Type}
theorem effK_readR {ex:List Extra} {H:Hp} {n:Nat} {v:Value} {op:Hp→Nat→(Value→Hp→Nat→Option ρ)→Option ρ} {R:Hp→Nat→Prop}
    (hex:∀ y ∈ ex,∃ t a,y=.l t a∧a.block<n∧((∃ c e ro vec,H.get a.block=some (.cells c e ro vec))∨∃ c,H.get a.block=some (.rows c)))
    (hop:∀ Hm,Same H Hm→∃ H2 n2,(∀ k,op Hm n k=k v H2 n2)∧n≤n2∧Keep n Hm H2∧R H2 n2) :
    ∃ H' H2 n2,(∀ k,effK P ex H n op k=k v H' n2)∧n≤n2∧Keep n H H'∧R H2 n2∧∀ b,n≤b→H'.get b=H2.get b:=by
  cases ex with
  | nil=>
    obtain⟨H2,n2,h1,h2,h3,h4⟩:=hop H (fun _ _ _ h=>h)
    exact⟨H2,H2,n2,fun k=>by unfold effK; exact h1 k,h2,h3,h4,fun _ _=>rfl⟩
  | cons y l=>
    have hl:∀ z ∈ y::l,∃ t a,z=.l t a:=fun z hz=>by obtain⟨t,a,e,_⟩:=hex z hz; exact⟨t,a,e⟩
    obtain⟨H1,e1,e2⟩:=xW (ex:=y::l) (H:=H) fun z hz=>by obtain⟨t,a,e,_,h⟩:=hex z hz; exact .inl ⟨t,a,e,h⟩
    have hnw:∀ b,¬ nwOf (y::l) b:=fun b ⟨id,c,e,h1,_⟩=>by obtain⟨t,a,q⟩:=hl _ h1; cases q
    obtain⟨H2,n2,h1,h2,h3,h4⟩:=hop (pY (y::l) H1) fun b o vs hc=>by
      obtain⟨B,c,g1,g2,g3⟩:=hc
      have em:=(kw (ex:=y::l) (H:=H1) b).2 (hnw _)
      rcases e2 b with q | ⟨⟨c',e,ro,vec,q1,q2⟩,_⟩
      · exact⟨B,c,by rw[em,q]; exact g1,g2,g3⟩
      · rw[q1] at g1
        cases g1
        exact⟨.cells c' e true vec,c,by rw[em]; exact q2,g2,g3⟩
    have hsome:∀ z ∈ y::l,(∃ t a,z=.l t a∧(H2.get a.block).isSome)∨∃ id c e,z=.a id c e:=by
      intro z hz
      obtain⟨t,a,rfl,hb,hc⟩:=hex z hz
      refine .inl ⟨t,a,rfl,?_⟩
      rw[h3 _ hb,(kw (H:=H1) a.block).2 (hnw _)]
      have hs:(H.get a.block).isSome:=by rcases hc with⟨c,e,ro,vec,hc⟩ | ⟨c,hc⟩ <;> rw[hc] <;> rfl
      rcases e2 a.block with q | ⟨⟨c,e,ro,vec,_,q⟩,_⟩
      · rw[q]; exact hs
      · rw[q]; rfl
    obtain⟨H3,f1,f2,f3⟩:=xX (H0:=H) hsome
    have hck:chkX P (mJ (y::l) H H3) (y::l)=true:=Fj fun z hz=>.inl (hl z hz)
    refine⟨mJ (y::l) H H3,H2,n2,fun k=>?_,h2,fun b hb=>?_,h4,fun b hb=>?_⟩
    · unfold effK
      simp only[e1,aj,h1,f1,hck]
      rfl
    · rw[(pj b).2 (hnw b)]
      by_cases q:ldOf (y::l) b
      · exact f2 b q
      · rw[f3 b q,h3 b hb,(kw (H:=H1) b).2 (hnw b)]
        rcases e2 b with z | ⟨_,z⟩
        · exact z
        · exact absurd z q
    · rw[(pj b).2 (hnw b),f3 b]
      rintro⟨t,a,q1,q2⟩
      obtain⟨t',a',e,hlt,_⟩:=hex _ q1
      cases e
      omega
theorem slice121h (b:Nat) {np:Nat} (h:np≤8):Gk P 121 (.pointer (some ⟨b,0,none⟩)) none (some (.int .i64 np))=some (.slice (some ⟨b,0,none⟩) np 8):=by
  show Gk P 121 (.pointer (some ⟨b,0,none⟩)) none (some (.int .i64 (.ofNat np)))=_
  unfold Gk
  simp [und121,sz3,Lj,hiV,loV,bndIn,h,capV,addA]
theorem flat42:fw P 42=false:=by kernel_rfl
theorem call42 (l:Nat) (a:Value) (H:Hp) (n:Nat):(cal (l+1)).call 42 [a] H n=Ry (cal l) KK a H n:=by kernel_rfl
theorem TW (l:Nat) (a:Value) (H:Hp) (n:Nat) (k:Value→Hp→Nat→Option ρ):aV P (cal (l+1)) 42 [a] H n k=aq (Ry (cal l) KK a H n) fun r=>k r.1 r.2.1 r.2.2:=by
  unfold aV
  rw[flat42,call42]
  rfl
theorem OZ {ps js ks M:List Int} {nj np nk:Nat} (hnp:np≤8) (hks:kj ks nk) (h:Fw ps js ks nj np nk=some M):∃ i,i≤np∧GoesOn (fitD js ks nj np) nk noL 0 np i M∧oW js ks ps M nj np ∧
    (∀ N,GoesOn (fitD js ks nj np) nk noL 0 np i N→oW js ks ps N nj np→M=N∨Jq M N 0 np)∧∀ j N,j<i→GoesOn (fitD js ks nj np) nk noL 0 np j N→¬ oW js ks ps N nj np:=by
  obtain⟨i,h1,h2,h3,h4⟩:=Kx (Nat.le_refl _) h
  have sp:=fun i=>OW hnp (qcv (js:=js) (ps:=ps) (nj:=nj) hnp hks) np noL i 0 (show 0+np=np by omega) Rj
  obtain⟨g1,g2,g3⟩:=(sp i).1 M h3
  refine⟨i,by omega,g1,yj.1 g2,fun N hN hR=>g3 N hN (yj.2 hR),fun j N hj hN hR=>?_⟩
  exact(sp j).2 (h4 j (by omega) hj) N hN (yj.2 hR)
theorem bestL_none {ps js ks:List Int} {nj np nk:Nat} (hnp:np≤8) (hks:kj ks nk) (h:Fw ps js ks nj np nk=none):∀ j N,j≤np→GoesOn (fitD js ks nj np) nk noL 0 np j N→¬ oW js ks ps N nj np:=fun j N hj hN hR=>
  (OW hnp (qcv hnp hks) np noL j 0 (show 0+np=np by omega) Rj).2 (Ky (Nat.le_refl _) h j (by omega) (by omega)) N hN (yj.2 hR)
theorem GoesOn.kindsIn {tk:Nat→Nat→Bool} {nk np i:Nat} {M:List Int} (h:GoesOn tk nk noL 0 np i M):oJ M np nk:=by
  intro q hq
  by_cases c:q<np
  · rcases h.kinds q (Nat.zero_le _) (by omega) with z | ⟨kd,h1,_,h3⟩
    · exact .inl z
    · exact .inr ⟨c,kd,h1,h3⟩
  · exact .inl (h.after q (by omega) hq)
theorem kinds_I64 {M:List Int} {np nk:Nat} (hM:M.length=8) (hK:oJ M np nk) (hnk:nk≤3):∀ x ∈ M,I64 x:=by
  intro x hx
  obtain⟨k,hk,e⟩:=List.mem_iff_getElem.1 hx
  have:M.getD k 0=x:=by rw[List.getD_eq_getElem?_getD,List.getElem?_eq_getElem hk,e]; rfl
  rw[hM] at hk
  rcases hK k hk with z | ⟨_,kd,h1,h2⟩
  · rw[← this,z]; unfold I64; omega
  · rw[← this,h2]; unfold I64; omega
theorem Best_spec (l:Nat) {np nj nk:Nat} {ps js ks:List Int} {H:Hp} {n:Nat} {v:Value} (hg:iy H n v np nj nk ps js ks) (hnp:np≤1000) (hnj:nj≤1000) (hnk:nk≤1000) :
    (dX np nj nk ps js ks≠0→Ret (Ry (cal (l+16)) KK v H n) n H (.tuple ⟨[.slice none 0 0,.int .i64 0,.int .i64 (dX np nj nk ps js ks)]⟩)) ∧
    (dX np nj nk ps js ks=0→Fw ps js ks nj np nk=none→Ret (Ry (cal (l+16)) KK v H n) n H (.tuple ⟨[.slice none 0 0,.int .i64 0,.int .i64 10]⟩)) ∧
    (dX np nj nk ps js ks=0→∀ M,Fw ps js ks nj np nk=some M→∃ w H' n',Ry (cal (l+16)) KK v H n=some (.tuple ⟨[w,.int .i64 (cntI M 8),.int .i64 0]⟩,H',n')∧n≤n'∧Keep n H H'∧Wj H' n n' w (M.take np)):=by
  have hg0:=hg
  obtain⟨x,y,z,rfl,h1,h2,h3⟩:=hg
  unfold Ry B42_0
  rw[cQ]
  simp only[bj,ptr]
  have hk:Keep n H (H.set n (some (.cells [x,y,z] 35 false none))):=(Keep.refl n H).set (Nat.le_refl _) _
  have hb:aX (H.set n (some (.cells [x,y,z] 35 false none))) n 0 [x,y,z]:=aX.new
  generalize H.set n (some (.cells [x,y,z] 35 false none))=H1 at hk hb ⊢
  have lg:az P H1 35 ⟨n,0,none⟩=some (.agg ⟨[x,y,z]⟩):=bY (o:=0) (k:=0) hb QY sz35 (by simp) (by simp [h1.hole.1,h2.hole.1,h3.hole.1])
  obtain⟨o1,o2⟩:=open_spec (l+10) (hg0.keep hk (show n≤n+1 by omega)) hnp hnj hnk
  rw[aJ,aj,lg,aj,open_call (l+10)]
  by_cases he:dX np nj nk ps js ks=0
  · refine⟨fun h=>absurd he h,?_⟩
    obtain⟨g,x',y',z',f,H2,n2,e1,e2,e3,e4,e5,e6,e7,e8,e9⟩:=o2 he
    simp only[Value.agg.injEq,Array.mk.injEq,List.cons.injEq,and_true] at e6
    obtain⟨rfl,rfl,rfl⟩:=e6
    have good:=CW he
    have np8:=good.np8
    have nk3:=good.nk3
    have kk:Keep n H H2:=hk.trans e3 (by omega)
    have t0:tupV (.tuple ⟨[.pointer (some ⟨g,0,none⟩),.int .i64 0]⟩) 0=some (.pointer (some ⟨g,0,none⟩)):=rfl
    have t1:tupV (.tuple ⟨[.pointer (some ⟨g,0,none⟩),.int .i64 0]⟩) 1=some (.int .i64 0):=rfl
    have d0:decide ((0:Int)=0)=true:=rfl
    rw[e1,aj,t0,aj,t1,aj,ak lw,d0,Bool.not_true,dW]
    dsimp only
    obtain⟨H3,n3,b1,b2,b3⟩:=best_call (ρ:=Value × Hp × Nat) l e7 e8 (h3.len_eq VZ) e9 good.kinds ((h1.keep kk (Nat.le_refl _)).up (show n≤n2 by omega)) np8 nk3 e5
    rw[b1]
    have l8:(ints (List.replicate 8 (0:Int))).length=8:=rfl
    have k3:Keep n H H3:=fun b hb=>by rw[b3 b (by omega),kk b hb]
    cases hc:Fw ps js ks nj np nk with
    | none=>
      refine⟨fun _ _=>?_,fun _ M h=>by cases h⟩
      have u0:tupV (bestV none) 0=some (.agg ⟨ints noL⟩):=rfl
      have u1:tupV (bestV none) 1=some (.bool false):=rfl
      obtain⟨H4,k4,_,k6⟩:=wJ (P:=P) (ρ:=Value × Hp × Nat) (H:=H3) (n:=n3) (L:=ints noL) Aw rfl mK rfl (eQ _)
      rw[u0,aj,u1,aj,k6,qy,aj,eJ]
      exact⟨H4,n3+1,rfl,by omega,k3.trans k4 (by omega)⟩
    | some M=>
      refine⟨fun _ h=>(by cases h),fun _ M' h=>?_⟩
      cases h
      obtain⟨i,i1,i2,i3,_⟩:=OZ np8 good.kinds hc
      have hM:=i2.len
      have hK:=i2.kindsIn
      have lM:(ints M).length=8:=by rw[aK,hM]
      have u0:tupV (bestV (some M)) 0=some (.agg ⟨ints M⟩):=rfl
      have u1:tupV (bestV (some M)) 1=some (.bool true):=rfl
      obtain⟨H4,k4,k5,k6⟩:=wJ (P:=P) (ρ:=Value × Hp × Nat) (H:=H3) (n:=n3) (L:=ints M) Aw rfl mK lM (eQ _)
      have kg:Keep n2 H2 H4:=fun b hb=>by rw[k4 b (by omega),b3 b hb]
      have f4:=e7.keep kg e5
      have lx:az P H4 31 ⟨g,0+0+0,none⟩=some x:=by
        have:=f4.load (P:=P) (k:=0) Bz (by omega)
        rw[e8.x] at this; exact this
      have hlx:lenV P 31 x=some (.int .i64 np):=h1.len_eq CJ
      rw[u0,aj,u1,aj,k6,ow,aj,dW,kW,aj,pw,aj,sW,aj,aJ,aj,lx,aj,hlx,aj,slice121h n3 np8,aj,aJ,aj,bZ k5 pK mK lM,aj]
      have hI:=kinds_I64 hM hK nk3
      obtain⟨H5,H6,n6,q1,q2,q3,⟨q4,q5⟩,q6⟩:=effK_readR (ρ:=Value × Hp × Nat) (ex:=[.l 121 ⟨n3,0,none⟩]) (H:=H4) (n:=n3+1) (v:=.slice (some ⟨n3+1+1,0,none⟩) np capV)
        (op:=fun H n k=>aV P (cal (l+16)) 76 [.slice (some ⟨n3,0,none⟩) np 8] H n fun v H n=>k v H n)
        (R:=fun H' n'=>n3+1+1<n'∧H'.get (n3+1+1)=some (.cells (ints (M.take np)) 3 false (some 1)))
        (fun q hq=>by
          simp only[List.mem_cons,List.not_mem_nil,or_false] at hq
          subst hq
          exact⟨_,_,rfl,Nat.lt_succ_self _,.inl ⟨_,_,_,_,k5⟩⟩)
        (fun Hm hm=>by
          have hw:ListR Hm (n3+1) (.slice (some ⟨n3,0,none⟩) np 8) np (M.take np):=same_list hm (ints_take_list k5 (Nat.lt_succ_self _) (by omega) hI)
          obtain⟨H2,n2,z1,z2,z3,z4⟩:=clone76_at (ρ:=Value × Hp × Nat) (l+15) hw good.np1 hnp
          exact⟨H2,n2,fun k=>z1 _,by omega,z3,z2,z4⟩)
      have kg5:Keep n2 H2 H5:=fun b hb=>by rw[q3 b (by omega),kg b hb]
      obtain⟨H7,n7,w1,w2,w3⟩:=count_call (ρ:=Value × Hp × Nat) (l+13) (n:=n6) (e7.keep kg5 e5) e9 hM hK np8 nk3 (by omega)
      rw[q1,w1]
      have lt:(M.take np).length=np:=by simp [hM]; omega
      refine⟨_,H7,n7,rfl,by omega,fun b hb=>by rw[w3 b (by omega),kg5 b (by omega),kk b hb],.inr ⟨n3+1+1,capV,by rw[lt],by omega,by omega,?_⟩⟩
      rw[w3 _ (by omega),q6 _ (by omega),q5]
  · refine⟨fun _=>?_,fun h=>absurd h he,fun h=>absurd h he⟩
    obtain⟨H2,n2,e1,e2,e3⟩:=o1 he
    have t0:tupV (.tuple ⟨[.pointer none,.int .i64 (dX np nj nk ps js ks)]⟩) 0=some (.pointer none):=rfl
    have t1:tupV (.tuple ⟨[.pointer none,.int .i64 (dX np nj nk ps js ks)]⟩) 1=some (.int .i64 (dX np nj nk ps js ks)):=rfl
    rw[e1,aj,t0,aj,t1,aj,ak lw,decide_eq_false he,Bool.not_false,eJ]
    exact⟨H2,n2,rfl,by omega,hk.trans e3 (by omega)⟩
end Go.Proofs.Ytgojjellogiglaa.spec
end
section
namespace Go.Proofs.Ytgojjellogiglaa.spec
open Go Go.Ev Go.Proofs.Ytgojjellogiglaa.nestFits Go.Proofs.Ytgojjellogiglaa.G
set_option maxRecDepth 100000
variable {ρ:Type}
theorem call43 (l:Nat) (a b c:Value) (H:Hp) (n:Nat):(cal (l+1)).call 43 [a,b,c] H n=C43_0 (cal l) KK a b c H n:=by kernel_rfl
theorem ProveLayout_spec (l:Nat) {np nj nk nl:Nat} {ps js ks ls:List Int} {H:Hp} {n:Nat} {v w:Value} (hg:iy H n v np nj nk ps js ks) (hw:ListR H n w nl ls) (hnp:np≤1000) (hnj:nj≤1000) (hnk:nk≤1000) (a:Int) :
    ∃ r:Bool,Ret (C43_0 (cal (l+7)) KK v w (.int .i64 a) H n) n H (.bool r)∧(r=true↔kY np nj nk nl ps js ks ls=0∧oW js ks ps (cV ls np) nj np∧cntI (cV ls np) 8≤a):=by
  have hg0:=hg
  obtain⟨x,y,z,rfl,h1,h2,h3⟩:=hg
  unfold C43_0 B43_0
  rw[cQ]
  simp only[bj,ptr]
  have hk:Keep n H (H.set n (some (.cells [x,y,z] 35 false none))):=(Keep.refl n H).set (Nat.le_refl _) _
  have hb:aX (H.set n (some (.cells [x,y,z] 35 false none))) n 0 [x,y,z]:=aX.new
  generalize H.set n (some (.cells [x,y,z] 35 false none))=H1 at hk hb ⊢
  have lg:az P H1 35 ⟨n,0,none⟩=some (.agg ⟨[x,y,z]⟩):=bY (o:=0) (k:=0) hb QY sz35 (by simp) (by simp [h1.hole.1,h2.hole.1,h3.hole.1])
  obtain⟨o1,o2⟩:=openLaid_spec l (hg0.keep hk (show n≤n+1 by omega)) (hw.keep hk (show n≤n+1 by omega)) hnp hnj hnk
  rw[aJ,aj,lg,aj,openLaid_call]
  by_cases he:kY np nj nk nl ps js ks ls=0
  · obtain⟨⟨g,x',y',z',f,H2,n2,e1,e2,e3,e4,e5,e6,e7,e8,e9⟩,hnl,hok,hft⟩:=o2 he
    simp only[Value.agg.injEq,Array.mk.injEq,List.cons.injEq,and_true] at e6
    obtain⟨rfl,rfl,rfl⟩:=e6
    have good:=CW hft
    subst hnl
    have np8:=good.np8
    have nk3:=good.nk3
    have l8:=Fv hw.1 good.np8
    have hK:oJ (cV ls nl) nl nk:=OQ hw.1 hok
    generalize hLL:cV ls nl=L at *
    have lens:(ints L).length=8:=by rw[aK,l8]
    have t0:tupV (.tuple ⟨[.pointer (some ⟨g,0,none⟩),.agg ⟨ints L⟩,.int .i64 0]⟩) 0=some (.pointer (some ⟨g,0,none⟩)):=rfl
    have t1:tupV (.tuple ⟨[.pointer (some ⟨g,0,none⟩),.agg ⟨ints L⟩,.int .i64 0]⟩) 1=some (.agg ⟨ints L⟩):=rfl
    have t2:tupV (.tuple ⟨[.pointer (some ⟨g,0,none⟩),.agg ⟨ints L⟩,.int .i64 0]⟩) 2=some (.int .i64 0):=rfl
    have d0:decide ((0:Int)=0)=true:=rfl
    obtain⟨H3,k1,k2,k3⟩:=wJ (P:=P) (ρ:=Value × Hp × Nat) (H:=H2) (n:=n2) (L:=ints L) Aw rfl mK lens (eQ _)
    have kk:Keep (n+1) H1 H3:=e3.trans k1 e2
    have f3:=e7.keep k1 e5
    obtain⟨X,H4,n4,hX,b1,b2,b3⟩:=bounds_call (ρ:=Value × Hp × Nat) (l+3) (show g<n2+1 by omega) f3 e9 good.kinds np8 nk3 l8 hK
    have f4:=f3.keep b3 (show g<n2+1 by omega)
    have k4:Keep n H H4:=fun b hb=>by rw[b3 b (by omega),kk b (by omega),hk b hb]
    obtain⟨r,H5,n5,c0,c1,c2,c3⟩:=right_call (ρ:=Value × Hp × Nat) (l+3) (show g<n4 by omega) f4 e8 ((h1.keep k4 (Nat.le_refl _)).up (by omega)) np8 hX.1
    have hr:r=true↔oW js ks ps L nj nl:=by rw[c0,right_iff hX np8]
    rw[e1,aj,t0,aj,t1,aj,t2,aj]
    dsimp only
    rw[k3,ak jv,d0]
    have lL:az P H3 121 ⟨n2,0,none⟩=some (.agg ⟨ints L⟩):=bZ k2 pK mK lens
    simp only[dw,aJ,aj,lL,b1,c1,cZ]
    cases r with
    | false=>
      simp only[dK,aj,dv]
      exact⟨false,⟨H5,n5,rfl,by omega,fun b hb=>by rw[c3 b (by omega),k4 b hb]⟩,⟨fun h=>(by cases h),fun h=>absurd (hr.2 h.2.1) (by simp)⟩⟩
    | true=>
      have lL5:az P H5 121 ⟨n2,0,none⟩=some (.agg ⟨ints L⟩):=bZ (by rw[c3 _ (by omega),b3 _ (by omega)]; exact k2) pK mK lens
      obtain⟨H6,n6,q1,q2,q3⟩:=count_call (ρ:=Value × Hp × Nat) (l+4) (n:=n5) (f4.keep c3 (by omega)) e9 l8 hK np8 nk3 (by omega)
      simp only[dw,aj,lL5,q1,ak rX,cZ]
      refine⟨decide (cntI L 8≤a),⟨H6,n6,rfl,by omega,fun b hb=>by rw[q3 b (by omega),c3 b (by omega),k4 b hb]⟩,?_⟩
      rw[decide_eq_true_iff]
      exact⟨fun h=>⟨he,hr.1 rfl,h⟩,fun h=>h.2.2⟩
  · obtain⟨H2,n2,e1,e2,e3⟩:=o1 he
    have t0:tupV (.tuple ⟨[.pointer none,.agg ⟨ints (List.replicate 8 0)⟩,.int .i64 (kY np nj nk nl ps js ks ls)]⟩) 0=some (.pointer none):=rfl
    have t1:tupV (.tuple ⟨[.pointer none,.agg ⟨ints (List.replicate 8 0)⟩,.int .i64 (kY np nj nk nl ps js ks ls)]⟩) 1=some (.agg ⟨ints (List.replicate 8 0)⟩):=rfl
    have t2:tupV (.tuple ⟨[.pointer none,.agg ⟨ints (List.replicate 8 0)⟩,.int .i64 (kY np nj nk nl ps js ks ls)]⟩) 2=some (.int .i64 (kY np nj nk nl ps js ks ls)):=rfl
    obtain⟨H3,k1,_,k3⟩:=wJ (P:=P) (ρ:=Value × Hp × Nat) (H:=H2) (n:=n2) (L:=ints (List.replicate 8 0)) Aw rfl mK rfl (eQ _)
    rw[e1,aj,t0,aj,t1,aj,t2,aj]
    dsimp only
    rw[k3,ak jv,decide_eq_false he]
    simp only[dK,aj,dv]
    exact⟨false,⟨H3,n2+1,rfl,by omega,(hk.trans e3 (by omega)).trans k1 (by omega)⟩,⟨fun h=>(by cases h),fun h=>absurd h.1 he⟩⟩
theorem ProveLayout_call (l:Nat) {np nj nk nl:Nat} {ps js ks ls:List Int} {H:Hp} {n:Nat} {v w:Value} (hg:iy H n v np nj nk ps js ks) (hw:ListR H n w nl ls) (hnp:np≤1000) (hnj:nj≤1000) (hnk:nk≤1000) (a:Int) :
    ∃(r:Bool) (H':Hp) (n':Nat),(r=true↔kY np nj nk nl ps js ks ls=0∧oW js ks ps (cV ls np) nj np∧cntI (cV ls np) 8≤a)∧(∀ k:Value→Hp→Nat→Option ρ,aV P (cal (l+8)) 43 [v,w,.int .i64 a] H n k=k (.bool r) H' n')∧n≤n'∧Keep n H H':=by
  obtain⟨r,H',n',⟨b,rfl,hb⟩,e1,e2,e3⟩:=dq (ρ:=ρ) (P:=P) (cal:=cal (l+8)) (f:=43) (args:=[v,w,.int .i64 a]) (H:=H) (n:=n)
    (Pre:=fun H n=>iy H n v np nj nk ps js ks∧ListR H n w nl ls) (Q:=fun r=>∃ b:Bool,r=.bool b∧(b=true↔kY np nj nk nl ps js ks ls=0∧oW js ks ps (cV ls np) nj np∧cntI (cV ls np) 8≤a))
    (fun H n ⟨hg,hw⟩=>by
      obtain⟨r,e,h⟩:=ProveLayout_spec l hg hw hnp hnj hnk a
      exact⟨.bool r,by rw[call43]; exact e,r,rfl,h⟩) (fun r ⟨b,e,_⟩ _=>by subst e; rfl) ⟨hg,hw⟩ (fun hp=>by
        simp only[bW,Bool.and_eq_true] at hp
        exact⟨hg.nil hp.1,hw.nil hp.2.1⟩)
  exact⟨b,H',n',hb,e1,e2,e3⟩
end Go.Proofs.Ytgojjellogiglaa.spec
end
section
namespace Go.Proofs.Ytgojjellogiglaa.spec
open Go Go.Ev Go.Proofs.Ytgojjellogiglaa.nestFits Go.Proofs.Ytgojjellogiglaa.G
set_option maxRecDepth 100000
variable {ρ:Type}
noncomputable def gj (L:List Int) (i:Nat):Int:=dV (fun p=>if 0≤L.getD p 0 then 1 else 0) i
theorem nestsR_range (L:List Int):∀ i,0≤gj L i∧gj L i≤i
  | 0=>⟨Int.le_refl _,Int.le_refl _⟩
  | i+1=>by
    obtain⟨h1,h2⟩:=nestsR_range L i
    unfold gj at h1 h2 ⊢
    simp only[dV]
    split <;> omega
theorem nests_loop (c:Cal) (k:Nat) {nl:Nat} {ls:List Int} {v:Value} {H:Hp} {n:Nat} (hv:ListR H n v nl ls) (hnl:nl≤1000):∀(m i:Nat),i≤nl→nl-i≤m →
    S45_1 c k m v (.int .i64 (gj ls i)) (.int .i64 i) H n=some (.int .i64 (gj ls nl),H,n):=by
  have body:∀(b1:Value→Value→Value→Hp→Nat→Res) (m i:Nat),i≤nl →
      (i<nl→b1 v (.int .i64 (gj ls (i+1))) (.int .i64 ((i+1:Nat):Int)) H n=some (.int .i64 (gj ls nl),H,n)) →
      C45_1 c k m b1 v (.int .i64 (gj ls i)) (.int .i64 i) H n=some (.int .i64 (gj ls nl),H,n):=by
    intro b1 m i hi ih
    unfold C45_1 B45_1
    rw[hv.len_eq,aj,ak cY,iJ]
    by_cases hlt:i<nl
    · obtain⟨b,o,a1,_,a3⟩:=hv.at_ hlt
      have hI1:I64 ((i:Int)+1):=by unfold I64; omega
      have hcast:((i:Int)+1)=((i+1:Nat):Int):=by omega
      have hr:=nestsR_range ls i
      have hI2:I64 (gj ls i+1):=by unfold I64; omega
      rw[if_pos (by omega),a1,aj,aJ,aj,a3,aj,ak Av,iJ]
      unfold C45_2 B45_2
      rw[ak (bV hI1),ak (bV hI2),ak (bV hI1),hcast]
      have:=ih hlt
      by_cases h0:0≤ls.getD i 0
      · rw[if_pos h0]
        have e:gj ls (i+1)=gj ls i+1:=by unfold gj; simp only[dV]; rw[if_pos h0]
        rw[e] at this
        exact this
      · rw[if_neg h0]
        have e:gj ls (i+1)=gj ls i:=by unfold gj; simp only[dV]; rw[if_neg h0]; omega
        rw[e] at this
        exact this
    · have:i=nl:=by omega
      subst this
      rw[if_neg (by omega)]
  intro m
  induction m with
  | zero=>intro i h1 h2; exact body _ 0 i h1 (fun h=>by omega)
  | succ m ih=>intro i h1 h2; exact body _ (m+1) i h1 (fun h=>ih (i+1) (by omega) (by omega))
theorem call45 (l:Nat) (a:Value) (H:Hp) (n:Nat):(cal (l+1)).call 45 [a] H n=C45_0 (cal l) KK a H n:=by kernel_rfl
theorem Hz (l:Nat) {nl:Nat} {ls:List Int} {v:Value} {H:Hp} {n:Nat} (hv:ListR H n v nl ls) (hnl:nl≤1000) :
    ∃ H' n',(∀ k:Value→Hp→Nat→Option ρ,aV P (cal (l+1)) 45 [v] H n k=k (.int .i64 (gj ls nl)) H' n')∧n≤n'∧Keep n H H':=by
  obtain⟨r,H',n',rfl,e1,e2,e3⟩:=dq (ρ:=ρ) (P:=P) (cal:=cal (l+1)) (f:=45) (args:=[v]) (H:=H) (n:=n)
    (Pre:=fun H n=>ListR H n v nl ls) (Q:=fun r=>r=.int .i64 (gj ls nl))
    (fun H n hv=>⟨_,by
      rw[call45]
      exact⟨H,n,nests_loop (cal l) KK hv hnl KK 0 (Nat.zero_le _) (by unfold KK; omega),Nat.le_refl _,Keep.refl _ _⟩,rfl⟩) (fun r e _=>by subst e; rfl) hv (fun hp=>by
        simp only[bW,Bool.and_eq_true] at hp
        exact hv.nil hp.1)
  exact⟨H',n',e1,e2,e3⟩
def Fx (a b:List Int) (np:Nat):Prop:=gj a np<gj b np∨(gj a np=gj b np∧Jq a b 0 np)
theorem less_loop (c:Cal) (k:Nat) {np:Nat} {us bs:List Int} {v w:Value} {H:Hp} {n:Nat} (hv:ListR H n v np us) (hw:ListR H n w np bs) (hnp:np≤1000):∀(m i:Nat),i≤np→np-i≤m →
    ∃ r:Bool,S59_1 c k m v w (.int .i64 i) H n=some (.bool r,H,n)∧(r=true↔Jq us bs i np):=by
  have body:∀(b1:Value→Value→Value→Hp→Nat→Res) (m i:Nat),i≤np →
      (i<np→∃ r:Bool,b1 v w (.int .i64 ((i+1:Nat):Int)) H n=some (.bool r,H,n)∧(r=true↔Jq us bs (i+1) np)) →
      ∃ r:Bool,C59_1 c k m b1 v w (.int .i64 i) H n=some (.bool r,H,n)∧(r=true↔Jq us bs i np):=by
    intro b1 m i hi ih
    unfold C59_1 B59_1
    rw[hv.len_eq,aj,ak cY,iJ]
    by_cases hlt:i<np
    · obtain⟨b,o,a1,_,a3⟩:=hv.at_ hlt
      obtain⟨b',o',c1,_,c3⟩:=hw.at_ hlt
      have hI1:I64 ((i:Int)+1):=by unfold I64; omega
      have hcast:((i:Int)+1)=((i+1:Nat):Int):=by omega
      rw[if_pos (by omega),a1,aj,aJ,aj,a3,aj,c1,aj,aJ,aj,c3,aj,ak lw]
      by_cases he:us.getD i 0=bs.getD i 0
      · rw[decide_eq_true he,Bool.not_true,dW,ak (bV hI1),hcast]
        obtain⟨r,r1,r2⟩:=ih hlt
        refine⟨r,r1,r2.trans ⟨fun⟨q,q1,q2,q3,q4⟩=>⟨q,by omega,q2,q3,fun k k1 k2=>?_⟩,fun⟨q,q1,q2,q3,q4⟩=>⟨q,?_,q2,q3,fun k k1 k2=>q4 k (by omega) k2⟩⟩⟩
        · by_cases e:k=i
          · rw[e]; exact he
          · exact q4 k (by omega) k2
        · rcases Nat.eq_or_lt_of_le q1 with e | e
          · subst e; omega
          · exact e
      · rw[decide_eq_false he,Bool.not_false,eJ,aj,aJ,aj,a3,aj,aj,aJ,aj,c3,aj,ak cY]
        refine⟨_,rfl,?_⟩
        rw[decide_eq_true_iff]
        constructor
        · intro h
          exact⟨i,Nat.le_refl _,hlt,h,fun k k1 k2=>absurd k2 (by omega)⟩
        · rintro⟨q,q1,q2,q3,q4⟩
          rcases Nat.eq_or_lt_of_le q1 with e | e
          · subst e; exact q3
          · exact absurd (q4 i (Nat.le_refl _) e) he
    · rw[if_neg (by omega)]
      exact⟨false,rfl,⟨fun h=>(by cases h),fun⟨q,q1,q2,_⟩=>absurd q2 (by omega)⟩⟩
  intro m
  induction m with
  | zero=>intro i h1 h2; exact body _ 0 i h1 (fun h=>by omega)
  | succ m ih=>intro i h1 h2; exact body _ (m+1) i h1 (fun h=>ih (i+1) (by omega) (by omega))
theorem call59 (l:Nat) (a b:Value) (H:Hp) (n:Nat):(cal (l+1)).call 59 [a,b] H n=C59_0 (cal l) KK a b H n:=by kernel_rfl
theorem less_spec (l:Nat) {np:Nat} {us bs:List Int} {v w:Value} {H:Hp} {n:Nat} (hv:ListR H n v np us) (hw:ListR H n w np bs) (hnp:np≤1000) :
    ∃ r:Bool,Ret (C59_0 (cal (l+1)) KK v w H n) n H (.bool r)∧(r=true↔Fx us bs np):=by
  unfold C59_0 B59_0
  obtain⟨H1,n1,a1,a2,a3⟩:=Hz (ρ:=Value × Hp × Nat) l hv hnp
  obtain⟨H2,n2,b1,b2,b3⟩:=Hz (ρ:=Value × Hp × Nat) l (hw.keep a3 a2) hnp
  rw[a1,b1,ak lw]
  have kk:Keep n H H2:=a3.trans b3 a2
  by_cases he:gj us np=gj bs np
  · rw[decide_eq_true he,Bool.not_true,dW]
    obtain⟨r,r1,r2⟩:=less_loop (cal (l+1)) KK (hv.keep kk (show n≤n2 by omega)) (hw.keep kk (show n≤n2 by omega)) hnp KK 0 (Nat.zero_le _) (by unfold KK; omega)
    refine⟨r,⟨H2,n2,r1,by omega,kk⟩,r2.trans ⟨fun h=>.inr ⟨he,h⟩,fun h=>?_⟩⟩
    rcases h with h | h
    · omega
    · exact h.2
  · rw[decide_eq_false he,Bool.not_false,eJ,ak cY]
    refine⟨_,⟨H2,n2,rfl,by omega,kk⟩,?_⟩
    rw[decide_eq_true_iff]
    exact⟨fun h=>.inl h,fun h=>by rcases h with h | h; exact h; exact absurd h.1 he⟩
theorem less_call (l:Nat) {np:Nat} {us bs:List Int} {v w:Value} {H:Hp} {n:Nat} (hv:ListR H n v np us) (hw:ListR H n w np bs) (hnp:np≤1000) :
    ∃(r:Bool) (H':Hp) (n':Nat),(r=true↔Fx us bs np)∧(∀ k:Value→Hp→Nat→Option ρ,aV P (cal (l+2)) 59 [v,w] H n k=k (.bool r) H' n')∧n≤n'∧Keep n H H':=by
  obtain⟨r,H',n',⟨b,rfl,hb⟩,e1,e2,e3⟩:=dq (ρ:=ρ) (P:=P) (cal:=cal (l+2)) (f:=59) (args:=[v,w]) (H:=H) (n:=n)
    (Pre:=fun H n=>ListR H n v np us∧ListR H n w np bs) (Q:=fun r=>∃ b:Bool,r=.bool b∧(b=true↔Fx us bs np))
    (fun H n ⟨hv,hw⟩=>by
      obtain⟨r,e,h⟩:=less_spec l hv hw hnp
      exact⟨.bool r,by rw[call59]; exact e,r,rfl,h⟩) (fun r ⟨b,e,_⟩ _=>by subst e; rfl) ⟨hv,hw⟩ (fun hp=>by
        simp only[bW,Bool.and_eq_true] at hp
        exact⟨hv.nil hp.1,hw.nil hp.2.1⟩)
  exact⟨b,H',n',hb,e1,e2,e3⟩
end Go.Proofs.Ytgojjellogiglaa.spec
end
section
namespace Go.Proofs.Ytgojjellogiglaa.spec
open Go Go.Ev Go.Proofs.Ytgojjellogiglaa.nestFits Go.Proofs.Ytgojjellogiglaa.G
set_option maxRecDepth 100000
variable {ρ:Type}
theorem bin_quo {t:TypeId} {x y:Operand} {a b:Int} (hb:b≠0) (h:I64 (a.tdiv b)):binV P .quo t x y (.int .i64 a) (.int .i64 b)=some (.int .i64 (a.tdiv b)):=by
  refine wv (by simp [binOp,Op.intDiv,hb,Qz h]) rfl ?_
  rintro m n rfl rfl
  exact .inr rfl
theorem quo_small {a n:Nat}:((a:Int).tdiv (n:Int))=((a / n:Nat):Int):=by
  rw[Int.tdiv_eq_ediv_of_nonneg (by omega)]
  rfl
theorem by3':xJ P 3=some 8:=by kernel_rfl
theorem make44 (H:Hp) (n:Nat) {np:Nat} (h:np≤1000):oK P 44 (.int .i64 np) (.int .i64 np) (bare H n)=some (.slice (some ⟨n,0,none⟩) np np,bare (H.set n (some (.cells (ints (List.replicate np 0)) 3 false none))) (n+1)):=by
  show oK P 44 (.int .i64 (.ofNat np)) (.int .i64 (.ofNat np)) (bare H n)=_
  unfold oK
  have hb:xy np 1 8=true:=by unfold xy; simp; omega
  simp only[sl44,sz3,by3',zero3]
  rw[if_pos ⟨Nat.le_refl _,hb,rfl⟩]
  have:repl np (bj (.int .i64 0))=ints (List.replicate np 0):=by
    show repl np [.int .i64 0]=_
    rw[repl_one]
    unfold ints
    rw[List.map_replicate]
  rw[this]
  rfl
def nthL (np nk m:Nat):List Int:=(List.range np).map fun p=>((m / (nk+1) ^ (np-1-p) % (nk+1):Nat):Int)-1
theorem Kk {np nk m:Nat}:(nthL np nk m).length=np:=by simp [nthL]
theorem nthL_get {np nk m p:Nat} (hp:p<np):(nthL np nk m).getD p 0=((m / (nk+1) ^ (np-1-p) % (nk+1):Nat):Int)-1:=by
  unfold nthL
  rw[List.getD_eq_getElem?_getD,List.getElem?_map,List.getElem?_range hp]
  rfl
theorem TX {L M:List Int} (h:L.length=M.length) (he:∀ q,q<L.length→L.getD q 0=M.getD q 0):L=M:=by
  apply List.ext_getElem?
  intro k
  by_cases hk:k<L.length
  · rw[getD_some hk,getD_some (by omega),he k hk]
  · rw[List.getElem?_eq_none (by omega),List.getElem?_eq_none (by omega)]
theorem nth_loop (c:Cal) (k:Nat) {np nk m0 g b:Nat} {x y z:Value} (hz:lenV P 24 z=some (.int .i64 nk)) (hzh:iw z=true∧oy z=true) (hnk:nk≤1000) (hm0:m0≤1000000) (hnp:np≤1000) (hgb:g≠b):∀(m i:Nat) (X:List Int) (H:Hp) (n:Nat),aX H g 0 [x,y,z]→H.get b=some (.cells (ints X) 3 false none)→X.length=np→(∀ q,i≤q→q<np→X.getD q 0=(nthL np nk m0).getD q 0)→i≤np→i≤m →
    ∃ H',S84_1 c k m (.int .i64 ((m0 / (nk+1) ^ (np-i):Nat):Int)) (.pointer (some ⟨g,0,none⟩)) (.slice (some ⟨b,0,none⟩) np np) (.int .i64 ((i:Int)-1)) H n=some (.slice (some ⟨b,0,none⟩) np np,H',n)∧H'.get b=some (.cells (ints (nthL np nk m0)) 3 false none)∧∀ q,q≠b→H'.get q=H.get q:=by
  have body:∀(b1:Value→Value→Value→Value→Hp→Nat→Res) (m i:Nat) (X:List Int) (H:Hp) (n:Nat),aX H g 0 [x,y,z]→H.get b=some (.cells (ints X) 3 false none)→X.length=np→(∀ q,i≤q→q<np→X.getD q 0=(nthL np nk m0).getD q 0)→i≤np →
      (∀(j:Nat) (X:List Int) (H':Hp),i=j+1→aX H' g 0 [x,y,z]→H'.get b=some (.cells (ints X) 3 false none)→X.length=np→(∀ q,j≤q→q<np→X.getD q 0=(nthL np nk m0).getD q 0)→(∀ q,q≠b→H'.get q=H.get q) →
        ∃ H2,b1 (.int .i64 ((m0 / (nk+1) ^ (np-j):Nat):Int)) (.pointer (some ⟨g,0,none⟩)) (.slice (some ⟨b,0,none⟩) np np) (.int .i64 ((j:Int)-1)) H' n=some (.slice (some ⟨b,0,none⟩) np np,H2,n)∧H2.get b=some (.cells (ints (nthL np nk m0)) 3 false none)∧∀ q,q≠b→H2.get q=H'.get q) →
      ∃ H',C84_1 c k m b1 (.int .i64 ((m0 / (nk+1) ^ (np-i):Nat):Int)) (.pointer (some ⟨g,0,none⟩)) (.slice (some ⟨b,0,none⟩) np np) (.int .i64 ((i:Int)-1)) H n=some (.slice (some ⟨b,0,none⟩) np np,H',n)∧H'.get b=some (.cells (ints (nthL np nk m0)) 3 false none)∧∀ q,q≠b→H'.get q=H.get q:=by
    intro b1 m i X H n hc hb hX hq hi ih
    unfold C84_1 B84_1
    rw[ak Av,iJ]
    cases i with
    | zero=>
      rw[if_neg (by omega)]
      refine⟨H,rfl,?_,fun _ _=>rfl⟩
      have:X=nthL np nk m0:=TX (by rw[hX,Kk]) fun q h=>hq q (Nat.zero_le _) (by omega)
      rw[← this]; exact hb
    | succ j=>
      have lz:∀ H2,aX H2 g 0 [x,y,z]→az P H2 24 ⟨g,0+2,none⟩=some z:=fun H2 h=>bq h IZ rfl hzh.1 hzh.2
      generalize hM:m0 / (nk+1) ^ (np-(j+1))=M
      have hMle:M≤m0:=by rw[← hM]; exact Nat.div_le_self _ _
      have hI1:I64 ((nk:Int)+1):=by unfold I64; omega
      have hc1:((nk:Int)+1)=((nk+1:Nat):Int):=by omega
      have hlt:M % (nk+1)<nk+1:=Nat.mod_lt _ (by omega)
      have hI2:I64 (((M % (nk+1):Nat):Int)-1):=by unfold I64; omega
      have hdl:M / (nk+1)≤M:=Nat.div_le_self _ _
      have hI3:I64 ((M:Int).tdiv ((nk+1:Nat):Int)):=by rw[quo_small]; generalize M / (nk+1)=D at hdl; unfold I64; omega
      have hne:((nk+1:Nat):Int)≠0:=by omega
      have hj:(((j+1:Nat):Int)-1)=((j:Nat):Int):=by omega
      have hI4:I64 ((j:Int)-1):=by unfold I64; omega
      have hst:bx P 3 (.pointer (some ⟨b,0+j * 1,none⟩)) (.int .i64 (((M % (nk+1):Nat):Int)-1)) H=some (H.set b (some (.cells (ints (X.set j (((M % (nk+1):Nat):Int)-1))) 3 false none))):=by
        rw[store3,show 0+j * 1=j by omega]
        exact LK hb (by omega)
      have hc':aX (H.set b (some (.cells (ints (X.set j (((M % (nk+1):Nat):Int)-1))) 3 false none))) g 0 [x,y,z]:=hc.set hgb
      rw[if_pos (by omega),hj,zZ,aj,aJ,aj,lz H hc,aj,hz,aj,ak (bV hI1),hc1,ak (bin_rem hne),rem_small (by omega),ak (wy hI2),at44L b np np (show j<np by omega),aj,hst,aj,
        aj,aJ,aj,lz _ hc',aj,hz,aj,ak (bV hI1),hc1,ak (bin_quo hne hI3),quo_small,ak (wy hI4)]
      have hnext:M / (nk+1)=m0 / (nk+1) ^ (np-j):=by
        rw[← hM,Nat.div_div_eq_div_mul,← Nat.pow_succ,show np-j=np-(j+1)+1 by omega]
      rw[hnext]
      obtain⟨H2,r1,r2,r3⟩:=ih j (X.set j (((M % (nk+1):Nat):Int)-1)) (H.set b (some (.cells (ints (X.set j (((M % (nk+1):Nat):Int)-1))) 3 false none))) rfl hc' (by rw[Tr.get_set,if_pos rfl]) (by simp [hX]) (fun q h1 h2=>by
        by_cases e:q=j
        · subst e
          rw[tz (by omega),nthL_get h2,show np-1-q=np-(q+1) by omega,hM]
        · rw[vQ e]; exact hq q (by omega) h2) (fun q h=>by rw[Tr.get_set,if_neg h])
      exact⟨H2,r1,r2,fun q h=>by rw[r3 q h,Tr.get_set,if_neg h]⟩
  intro m
  induction m with
  | zero=>
    intro i X H n h1 h2 h3 h4 h5 h6
    exact body _ 0 i X H n h1 h2 h3 h4 h5 (fun j _ _ h=>by omega)
  | succ m ih=>
    intro i X H n h1 h2 h3 h4 h5 h6
    exact body _ (m+1) i X H n h1 h2 h3 h4 h5 (fun j X H' h q1 q2 q3 q4 _=>ih j X H' n q1 q2 q3 q4 (by omega) (by omega))
theorem call84 (l:Nat) (a b:Value) (H:Hp) (n:Nat):(cal (l+1)).call 84 [a,b] H n=C84_0 (cal l) KK a b H n:=by kernel_rfl
theorem flat84:fw P 84=false:=by kernel_rfl
theorem nth_call (l:Nat) {np nj nk:Nat} {ps js ks:List Int} {H:Hp} {n:Nat} {v:Value} (hg:GroveI H n v np nj nk ps js ks) (hnp:np≤8) (hnk:nk≤3) {m:Nat} (hm:m≤1000000) :
    ∃ b H' n',(∀ k:Value→Hp→Nat→Option ρ,aV P (cal (l+1)) 84 [v,.int .i64 m] H n k=k (.slice (some ⟨b,0,none⟩) np np) H' n')∧n≤n'∧Keep n H H'∧n≤b∧b<n'∧H'.get b=some (.cells (ints (nthL np nk m)) 3 false none):=by
  obtain⟨x,y,z,rfl,h1,h2,h3⟩:=hg.eq
  have key:∃ H',C84_0 (cal l) KK (.agg ⟨[x,y,z]⟩) (.int .i64 m) H n=some (.slice (some ⟨n+1,0,none⟩) np np,H',n+1+1)∧Keep n H H'∧H'.get (n+1)=some (.cells (ints (nthL np nk m)) 3 false none):=by
    unfold C84_0 B84_0
    rw[cQ]
    simp only[bj,ptr]
    have hk:Keep n H (H.set n (some (.cells [x,y,z] 26 false none))):=(Keep.refl n H).set (Nat.le_refl _) _
    have hb:aX (H.set n (some (.cells [x,y,z] 26 false none))) n 0 [x,y,z]:=aX.new
    generalize H.set n (some (.cells [x,y,z] 26 false none))=H1 at hk hb ⊢
    have lx:az P H1 22 ⟨n,0+0,none⟩=some x:=bq hb IY rfl h1.hole.1 h1.hole.2
    have hlx:lenV P 22 x=some (.int .i64 np):=h1.len_eq EY
    have hI:I64 ((np:Int)-1):=by unfold I64; omega
    have hls:lenV P 44 (.slice (some ⟨n+1,0,none⟩) np np)=some (.int .i64 np):=by unfold lenV; simp only[und44]; rfl
    rw[wz,aj,aJ,aj,lx,aj,hlx,aj]
    unfold stK
    rw[make44 H1 (n+1) (by omega),aj]
    dsimp only [bare]
    rw[hls,aj,ak (wy hI)]
    have hb2:aX (H1.set (n+1) (some (.cells (ints (List.replicate np 0)) 3 false none))) n 0 [x,y,z]:=hb.set (by omega)
    obtain⟨H2,r1,r2,r3⟩:=nth_loop (cal l) KK (m0:=m) (np:=np) (b:=n+1) (h3.len_eq EX) h3.hole (by omega) hm (by omega) (by omega) KK np (List.replicate np 0) (H1.set (n+1) (some (.cells (ints (List.replicate np 0)) 3 false none))) (n+1+1) hb2 (by rw[Tr.get_set,if_pos rfl]) (by simp) (fun q q1 q2=>by omega) (Nat.le_refl _) (by unfold KK; omega)
    rw[Nat.sub_self,Nat.pow_zero,Nat.div_one] at r1
    exact⟨H2,r1,fun b hb=>by rw[r3 b (by omega),Tr.get_set,if_neg (by omega),hk b hb],r2⟩
  obtain⟨H',e1,e2,e3⟩:=key
  refine⟨n+1,H',n+1+1,fun k=>?_,by omega,e2,by omega,by omega,e3⟩
  unfold aV
  rw[flat84,call84,e1]
  rfl
end Go.Proofs.Ytgojjellogiglaa.spec
end
section
namespace Go.Proofs.Ytgojjellogiglaa.spec
open Go Go.Ev Go.Proofs.Ytgojjellogiglaa.nestFits Go.Proofs.Ytgojjellogiglaa.G
set_option maxRecDepth 100000
variable {ρ:Type}
theorem rightR_loop (l k:Nat) {np nj nk:Nat} {ps js ks ls:List Int} (good:Good np nj nk ps js ks) (hok:kz js ks ls nj np nk) (g:Nat) (x y z w:Value) :
    ∀(m i:Nat) (H:Hp) (n:Nat),g<n→aX H g 0 [x,y,z]→GroveI H n (.agg ⟨[x,y,z]⟩) np nj nk ps js ks→ListR H n w np ls→i≤np→np-i≤m →
    ∃ r,Ret (S44_1 (cal (l+6)) k m w (.pointer (some ⟨g,0,none⟩)) (.int .i64 i) H n) n H (.bool r)∧(r=true↔∀ q,i≤q→q<np→¬ bsum js ks (cV ls np) nj np 8 0 q<ps.getD (q * 2) 0∧¬ ps.getD (q * 2+1) 0<bsum js ks (cV ls np) nj np 8 1 q):=by
  have body:∀(b1:Value→Value→Value→Hp→Nat→Res) (m i:Nat) (H:Hp) (n:Nat),g<n→aX H g 0 [x,y,z]→GroveI H n (.agg ⟨[x,y,z]⟩) np nj nk ps js ks→ListR H n w np ls→i≤np →
      (∀ H' n',n≤n'→Keep n H H'→i<np→∃ r,Ret (b1 w (.pointer (some ⟨g,0,none⟩)) (.int .i64 ((i+1:Nat):Int)) H' n') n' H' (.bool r)∧(r=true↔∀ q,i+1≤q→q<np→¬ bsum js ks (cV ls np) nj np 8 0 q<ps.getD (q * 2) 0∧¬ ps.getD (q * 2+1) 0<bsum js ks (cV ls np) nj np 8 1 q)) →
      ∃ r,Ret (C44_1 (cal (l+6)) k m b1 w (.pointer (some ⟨g,0,none⟩)) (.int .i64 i) H n) n H (.bool r)∧(r=true↔∀ q,i≤q→q<np→¬ bsum js ks (cV ls np) nj np 8 0 q<ps.getD (q * 2) 0∧¬ ps.getD (q * 2+1) 0<bsum js ks (cV ls np) nj np 8 1 q):=by
    intro b1 m i H n hgn hb hg hw hi ih
    have np8:=good.np8
    obtain⟨x',y',z',hxyz,h1,h2,h3⟩:=hg.eq
    cases hxyz
    have lx:az P H 22 ⟨g,0,none⟩=some x:=bq (o:=0) (k:=0) hb IY rfl h1.hole.1 h1.hole.2
    have elx:lenV P 22 x=some (.int .i64 np):=h1.len_eq EY
    unfold C44_1 B44_1
    rw[wz,Nat.add_zero,aj,aJ,aj,lx,aj,elx,aj,ak cY,iJ]
    by_cases hlt:i<np
    · have hI:I64 ((i:Int)+1):=by unfold I64; omega
      have hcast:((i:Int)+1)=((i+1:Nat):Int):=by omega
      have l26:∀ H2,aX H2 g 0 [x,y,z]→az P H2 26 ⟨g,0,none⟩=some (.agg ⟨[x,y,z]⟩):=fun H2 h=>wk h h1.hole.1 h2.hole.1 h3.hole.1
      obtain⟨H2,n2,c1,c2,c3⟩:=missedR_call (ρ:=Value × Hp × Nat) l good hok hlt hg hw
      obtain⟨H3,n3,d1,d2,d3⟩:=overR_call (ρ:=Value × Hp × Nat) l good hok hlt (hg.keep c3 c2) (hw.keep c3 c2)
      rw[if_pos (by omega),aj,l26 H hb,aj,c1]
      cases hm:decide (bsum js ks (cV ls np) nj np 8 0 i<ps.getD (i * 2) 0) with
      | true=>
        simp only[jQ,cZ,aj,eJ]
        exact⟨false,⟨H2,n2,rfl,c2,c3⟩,⟨fun h=>(by cases h),fun h=>absurd (of_decide_eq_true hm) (h i (Nat.le_refl _) hlt).1⟩⟩
      | false=>
        simp only[iQ,aj,l26 H2 (hb.keep c3 hgn),d1,dv]
        cases ho:decide (ps.getD (i * 2+1) 0<bsum js ks (cV ls np) nj np 8 1 i) with
        | true=>
          rw[eJ]
          exact⟨false,⟨H3,n3,rfl,by omega,c3.trans d3 c2⟩,⟨fun h=>(by cases h),fun h=>absurd (of_decide_eq_true ho) (h i (Nat.le_refl _) hlt).2⟩⟩
        | false=>
          rw[dW,ak (bV hI),hcast]
          obtain⟨r,⟨H4,n4,e1,e2,e3⟩,e4⟩:=ih H3 n3 (by omega) (c3.trans d3 c2) hlt
          refine⟨r,⟨H4,n4,e1,by omega,(c3.trans d3 c2).trans e3 (by omega)⟩,e4.trans ⟨fun h q q1 q2=>?_,fun h q q1 q2=>h q (by omega) q2⟩⟩
          rcases Nat.eq_or_lt_of_le q1 with e | e
          · subst e; exact⟨of_decide_eq_false hm,of_decide_eq_false ho⟩
          · exact h q e q2
    · rw[if_neg (by omega)]
      exact⟨true,⟨H,n,rfl,Nat.le_refl _,Keep.refl _ _⟩,⟨fun _ q q1 q2=>by omega,fun _=>rfl⟩⟩
  intro m
  induction m with
  | zero=>
    intro i H n h1 h2 h3 h4 h5 h6
    exact body _ 0 i H n h1 h2 h3 h4 h5 (fun _ _ _ _ h=>by omega)
  | succ m ih=>
    intro i H n h1 h2 h3 h4 h5 h6
    exact body _ (m+1) i H n h1 h2 h3 h4 h5 (fun H' n' q1 q2 q3=>ih (i+1) H' n' (by omega) (h2.keep q2 h1) (h3.keep q2 q1) (h4.keep q2 q1) (by omega) (by omega))
theorem call44 (l:Nat) (a b:Value) (H:Hp) (n:Nat):(cal (l+1)).call 44 [a,b] H n=C44_0 (cal l) KK a b H n:=by kernel_rfl
theorem rightR_call (l:Nat) {np nj nk:Nat} {ps js ks ls:List Int} (good:Good np nj nk ps js ks) (hok:kz js ks ls nj np nk) {H:Hp} {n:Nat} {v w:Value} (hg:GroveI H n v np nj nk ps js ks) (hw:ListR H n w np ls) :
    ∃(r:Bool) (H':Hp) (n':Nat),(r=true↔oW js ks ps (cV ls np) nj np)∧(∀ k:Value→Hp→Nat→Option ρ,aV P (cal (l+7)) 44 [v,w] H n k=k (.bool r) H' n')∧n≤n'∧Keep n H H':=by
  obtain⟨r,H',n',⟨b,rfl,hb⟩,e1,e2,e3⟩:=dq (ρ:=ρ) (P:=P) (cal:=cal (l+7)) (f:=44) (args:=[v,w]) (H:=H) (n:=n)
    (Pre:=fun H n=>GroveI H n v np nj nk ps js ks∧ListR H n w np ls) (Q:=fun r=>∃ b:Bool,r=.bool b∧(b=true↔oW js ks ps (cV ls np) nj np))
    (fun H n ⟨hg,hw⟩=>by
      have hg0:=hg
      obtain⟨x,y,z,rfl,_⟩:=hg.eq
      have hk:Keep n H (H.set n (some (.cells [x,y,z] 26 false none))):=(Keep.refl n H).set (Nat.le_refl _) _
      obtain⟨r,⟨H',n',e1,e2,e3⟩,e4⟩:=rightR_loop l KK good hok n x y z w KK 0 (H.set n (some (.cells [x,y,z] 26 false none))) (n+1) (by omega) aX.new (hg0.keep hk (by omega)) (hw.keep hk (by omega)) (by omega) (by have:=good.np8; unfold KK; omega)
      refine⟨.bool r,⟨H',n',?_,by omega,hk.trans e3 (by omega)⟩,r,rfl,e4.trans ⟨fun h q hq=>h q (Nat.zero_le _) hq,fun h q _ hq=>h q hq⟩⟩
      rw[call44]
      exact e1) (fun r ⟨b,e,_⟩ _=>by subst e; rfl) ⟨hg,hw⟩ (fun hp=>by
        simp only[bW,Bool.and_eq_true] at hp
        exact⟨hg.nil hp.1,hw.nil hp.2.1⟩)
  exact⟨b,H',n',hb,e1,e2,e3⟩
end Go.Proofs.Ytgojjellogiglaa.spec
end
section
namespace Go.Proofs.Ytgojjellogiglaa.spec
open Go Go.Ev Go.Proofs.Ytgojjellogiglaa.nestFits Go.Proofs.Ytgojjellogiglaa.G
set_option maxRecDepth 100000
variable {ρ:Type}
theorem lexLt_trans {a b c:List Int} {i np:Nat} (h:Jq a b i np) (g:Jq b c i np):Jq a c i np:=by
  obtain⟨p,p1,p2,p3,p4⟩:=h
  obtain⟨q,q1,q2,q3,q4⟩:=g
  rcases Nat.lt_trichotomy p q with e | e | e
  · exact⟨p,p1,p2,by rw[← q4 p p1 e]; exact p3,fun k k1 k2=>(p4 k k1 k2).trans (q4 k k1 (by omega))⟩
  · subst e
    exact⟨p,p1,p2,by omega,fun k k1 k2=>(p4 k k1 k2).trans (q4 k k1 k2)⟩
  · exact⟨q,q1,q2,by rw[p4 q q1 e]; exact q3,fun k k1 k2=>(p4 k k1 (by omega)).trans (q4 k k1 k2)⟩
theorem LessP_trans {a b c:List Int} {np:Nat} (h:Fx a b np) (g:Fx b c np):Fx a c np:=by
  rcases h with h | ⟨h1,h2⟩
  · rcases g with g | ⟨g1,_⟩
    · exact .inl (by omega)
    · exact .inl (by omega)
  · rcases g with g | ⟨g1,g2⟩
    · exact .inl (by omega)
    · exact .inr ⟨by omega,lexLt_trans h2 g2⟩
theorem LessP_irr {a:List Int} {np:Nat} (h:Fx a a np):False:=by
  rcases h with h | ⟨_,q,_,_,h,_⟩ <;> omega
def Hk (ps js ks:List Int) (nj np nk m:Nat):Prop:=kz js ks (nthL np nk m) nj np nk∧oW js ks ps (cV (nthL np nk m) np) nj np
def qj (ps js ks:List Int) (nj np nk n:Nat):Option (List Int)→Prop
  | none=>∀ m,m<n→¬ Hk ps js ks nj np nk m
  | some B=>(∃ m,m<n∧B=nthL np nk m∧Hk ps js ks nj np nk m)∧∀ m,m<n→Hk ps js ks nj np nk m→¬ Fx (nthL np nk m) B np
theorem qj.keep {ps js ks:List Int} {nj np nk n:Nat}:∀ {o:Option (List Int)},qj ps js ks nj np nk n o→(Hk ps js ks nj np nk n→∃ B,o=some B∧¬ Fx (nthL np nk n) B np)→qj ps js ks nj np nk (n+1) o
  | none,h,g=>fun m hm hr=>by
    rcases Nat.lt_succ_iff_lt_or_eq.1 hm with c | c
    · exact h m c hr
    · subst c
      obtain⟨B,e,_⟩:=g hr
      cases e
  | some B,⟨⟨m0,a1,a2,a3⟩,h⟩,g=>⟨⟨m0,by omega,a2,a3⟩,fun m hm hr=>by
    rcases Nat.lt_succ_iff_lt_or_eq.1 hm with c | c
    · exact h m c hr
    · subst c
      obtain⟨B',e,z⟩:=g hr
      cases e
      exact z⟩
theorem qj.put {ps js ks:List Int} {nj np nk n:Nat} (hR:Hk ps js ks nj np nk n):∀ {o:Option (List Int)},qj ps js ks nj np nk n o→(∀ B,o=some B→Fx (nthL np nk n) B np)→qj ps js ks nj np nk (n+1) (some (nthL np nk n))
  | none,h,_=>⟨⟨n,by omega,rfl,hR⟩,fun m hm hr=>by
    rcases Nat.lt_succ_iff_lt_or_eq.1 hm with c | c
    · exact absurd hr (h m c)
    · subst c
      exact fun z=>LessP_irr z⟩
  | some B,⟨_,h⟩,g=>⟨⟨n,by omega,rfl,hR⟩,fun m hm hr z=>by
    rcases Nat.lt_succ_iff_lt_or_eq.1 hm with c | c
    · exact h m c hr (LessP_trans z (g B rfl))
    · subst c
      exact LessP_irr z⟩
def StB (H:Hp) (n np:Nat) (u:Value):Option (List Int)→Prop
  | none=>u=.slice none 0 0
  | some B=>ListR H n u np B
theorem StB.keep {H H':Hp} {n m np:Nat} {u:Value}:∀ {o:Option (List Int)},StB H n np u o→Keep n H H'→n≤m→StB H' m np u o
  | none,h,_,_=>h
  | some _,h,hk,hm=>ListR.keep h hk hm
theorem nthL_I64 {np nk m:Nat} (hnk:nk≤3):∀ x ∈ nthL np nk m,I64 x:=by
  intro x hx
  unfold nthL at hx
  obtain⟨p,_,rfl⟩:=List.mem_map.1 hx
  have:=Nat.mod_lt (m / (nk+1) ^ (np-1-p)) (show nk+1 > 0 by omega)
  generalize m / (nk+1) ^ (np-1-p) % (nk+1)=d at this
  unfold I64; omega
theorem bestR_loop (l k:Nat) {np nj nk g N:Nat} {ps js ks:List Int} {x y z:Value} (good:Good np nj nk ps js ks) (hN:N≤1000000):∀(m i:Nat) (o:Option (List Int)) (u:Value) (H:Hp) (n:Nat),g<n→aX H g 0 [x,y,z]→GroveI H n (.agg ⟨[x,y,z]⟩) np nj nk ps js ks→qj ps js ks nj np nk i o→StB H n np u o→i≤N→N-i≤m →
    ∃ o',qj ps js ks nj np nk N o'∧∃ w H' n',S46_2 (cal (l+7)) k m (.pointer (some ⟨g,0,none⟩)) (.int .i64 N) u (.int .i64 i) H n=some (.tuple ⟨[w,.bool o'.isSome]⟩,H',n')∧n≤n'∧Keep n H H'∧StB H' n' np w o':=by
  have np8:=good.np8
  have nk3:=good.nk3
  have body:∀(b2:Value→Value→Value→Value→Hp→Nat→Res) (m i:Nat) (o:Option (List Int)) (u:Value) (H:Hp) (n:Nat),g<n→aX H g 0 [x,y,z]→GroveI H n (.agg ⟨[x,y,z]⟩) np nj nk ps js ks→qj ps js ks nj np nk i o→StB H n np u o→i≤N →
      (∀ o u H' n',n≤n'→Keep n H H'→qj ps js ks nj np nk (i+1) o→StB H' n' np u o→i<N→∃ o',qj ps js ks nj np nk N o'∧∃ w H2 n2,b2 (.pointer (some ⟨g,0,none⟩)) (.int .i64 N) u (.int .i64 ((i+1:Nat):Int)) H' n'=some (.tuple ⟨[w,.bool o'.isSome]⟩,H2,n2)∧n'≤n2∧Keep n' H' H2∧StB H2 n2 np w o') →
      ∃ o',qj ps js ks nj np nk N o'∧∃ w H' n',C46_2 (cal (l+7)) k m b2 (.pointer (some ⟨g,0,none⟩)) (.int .i64 N) u (.int .i64 i) H n=some (.tuple ⟨[w,.bool o'.isSome]⟩,H',n')∧n≤n'∧Keep n H H'∧StB H' n' np w o':=by
    intro b2 m i o u H n hgn hb hg hB hu hi ih
    have l26:∀ H2,aX H2 g 0 [x,y,z]→az P H2 26 ⟨g,0,none⟩=some (.agg ⟨[x,y,z]⟩):=fun H2 h=>by
      obtain⟨_,_,_,e,h1,h2,h3⟩:=hg.eq
      simp only[Value.agg.injEq,Array.mk.injEq,List.cons.injEq,and_true] at e
      obtain⟨rfl,rfl,rfl⟩:=e
      exact wk h h1.hole.1 h2.hole.1 h3.hole.1
    have hlen:lenV P 44 u=some (.int .i64 ((if o.isSome then np else 0:Nat):Int)):=by
      cases o with
      | none=>
        have e:u=.slice none 0 0:=hu
        subst e
        unfold lenV; simp only[und44]; rfl
      | some B=>exact ListR.len_eq hu
    unfold C46_2 B46_2
    rw[ak cY,iJ]
    by_cases hlt:i<N
    · have hI1:I64 ((i:Int)+1):=by unfold I64; omega
      have hcast:((i:Int)+1)=((i+1:Nat):Int):=by omega
      obtain⟨b,H1,n1,a1,a2,a3,a4,a5,a6⟩:=nth_call (ρ:=Value × Hp × Nat) (l+6) hg np8 nk3 (m:=i) (by omega)
      have hL1:ListR H1 n1 (.slice (some ⟨b,0,none⟩) np np) np (nthL np nk i):=⟨Kk,nthL_I64 nk3,.inr ⟨b,0,np,rfl,a5,fx a6⟩⟩
      have hu1:StB H1 n1 np u o:=hu.keep a3 a2
      have go:∀(r:Bool) (H2:Hp) (n2:Nat),n1≤n2→Keep n1 H1 H2→(r=true↔∀ B,o=some B→Fx (nthL np nk i) B np) →
          ∃ o',qj ps js ks nj np nk N o'∧∃ w H' n',(aQ (ρ:=Value × Hp × Nat) (.bool r) true (fun k_1r=>aq (aW (.pointer (some ⟨g,0,none⟩))) fun a_1w=>aq (az P H2 26 a_1w) fun v_1v=>k_1r v_1v H2 n2) H2 n2 fun v_1s H_1t n_1u=>
            aQ (.bool r) true (fun k_1x=>k_1x (.slice (some ⟨b,0,none⟩) np np) H_1t n_1u) H_1t n_1u fun v_1y H_1z n_20=>
            aQ (.bool r) true (fun k_22=>aV P (cal (l+7)) 58 [v_1s,v_1y] H_1z n_20 fun v_26 H_27 n_28=>k_22 v_26 H_27 n_28) H_1z n_20 fun v_23 H_24 n_25=>
            aq (cK (.bool r) v_23 (.bool false)) fun v_29=>
            aQ v_29 true (fun k_2b=>aq (aW (.pointer (some ⟨g,0,none⟩))) fun a_2g=>aq (az P H_24 26 a_2g) fun v_2f=>k_2b v_2f H_24 n_25) H_24 n_25 fun v_2c H_2d n_2e=>
            aQ v_29 true (fun k_2h=>k_2h (.slice (some ⟨b,0,none⟩) np np) H_2d n_2e) H_2d n_2e fun v_2i H_2j n_2k=>
            aQ v_29 true (fun k_2m=>aV P (cal (l+7)) 44 [v_2c,v_2i] H_2j n_2k fun v_2q H_2r n_2s=>k_2m v_2q H_2r n_2s) H_2j n_2k fun v_2n H_2o n_2p=>
            aq (cK v_29 v_2n (.bool false)) fun v_2t=>
            ifK v_2t (Rz (cal (l+7)) k m b2 (.pointer (some ⟨g,0,none⟩)) (.int .i64 N) (.slice (some ⟨b,0,none⟩) np np) (.int .i64 i) H_2o n_2p) (Rz (cal (l+7)) k m b2 (.pointer (some ⟨g,0,none⟩)) (.int .i64 N) u (.int .i64 i) H_2o n_2p))=some (.tuple ⟨[w,.bool o'.isSome]⟩,H',n')∧n≤n'∧Keep n H H'∧StB H' n' np w o':=by
        intro r H2 n2 c1 c2 hr
        have k2:Keep n H H2:=a3.trans c2 a2
        have keepU:∀(H3:Hp) (n3:Nat),n2≤n3→Keep n2 H2 H3→(Hk ps js ks nj np nk i→r=false)→∃ o',qj ps js ks nj np nk N o'∧∃ w H' n',Rz (cal (l+7)) k m b2 (.pointer (some ⟨g,0,none⟩)) (.int .i64 N) u (.int .i64 i) H3 n3=some (.tuple ⟨[w,.bool o'.isSome]⟩,H',n')∧n≤n'∧Keep n H H'∧StB H' n' np w o':=by
          intro H3 n3 d1 d2 hno
          have k3:Keep n H H3:=k2.trans d2 (by omega)
          unfold Rz B46_3
          rw[ak (bV hI1),hcast]
          obtain⟨o',q1,w,H',n',q2,q3,q4,q5⟩:=ih o u H3 n3 (by omega) k3 (hB.keep fun hR=>by
            have hr0:=hno hR
            have:¬ ∀ B,o=some B→Fx (nthL np nk i) B np:=fun h=>by rw[hr.2 h] at hr0; cases hr0
            cases o with
            | none=>exact absurd (fun B h=>by cases h) this
            | some B=>
              refine⟨B,rfl,fun h=>this fun B' e=>?_⟩
              cases e; exact h) (hu.keep k3 (by omega)) hlt
          exact⟨o',q1,w,H',n',q2,by omega,k3.trans q4 (by omega),q5⟩
        cases r with
        | false=>
          simp only[dK,aj,dv,dW]
          exact keepU H2 n2 (Nat.le_refl _) (Keep.refl _ _) (fun _=>rfl)
        | true=>
          obtain⟨s,H3,n3,d0,d1,d2,d3⟩:=isLayout_call (ρ:=Value × Hp × Nat) (l+2) good (hg.keep k2 (show n≤n2 by omega)) (hL1.keep c2 c1)
          simp only[dw,aJ,aj,l26 H2 (hb.keep k2 hgn),d1,cZ]
          have k3:Keep n H H3:=k2.trans d3 (by omega)
          cases s with
          | false=>
            simp only[dK,aj,dv,dW]
            exact keepU H3 n3 d2 d3 (fun hR=>absurd (d0.2 ⟨rfl,hR.1⟩) (by simp))
          | true=>
            have hok:=(d0.1 rfl).2
            obtain⟨t,H4,n4,f0,f1,f2,f3⟩:=rightR_call (ρ:=Value × Hp × Nat) l good hok (hg.keep k3 (show n≤n3 by omega)) ((hL1.keep c2 c1).keep d3 d2)
            simp only[dw,aj,l26 H3 (hb.keep k3 hgn),f1,cZ]
            have k4:Keep n H H4:=k3.trans f3 (by omega)
            cases t with
            | false=>
              rw[dW]
              exact keepU H4 n4 (by omega) (d3.trans f3 d2) (fun hR=>absurd (f0.2 hR.2) (by simp))
            | true=>
              have hR:Hk ps js ks nj np nk i:=⟨hok,f0.1 rfl⟩
              rw[eJ]
              unfold Rz B46_3
              rw[ak (bV hI1),hcast]
              obtain⟨o',q1,w,H',n',q2,q3,q4,q5⟩:=ih (some (nthL np nk i)) (.slice (some ⟨b,0,none⟩) np np) H4 n4 (by omega) k4 (hB.put hR (hr.1 rfl)) (((hL1.keep c2 c1).keep d3 d2).keep f3 f2) hlt
              exact⟨o',q1,w,H',n',q2,by omega,k4.trans q4 (by omega),q5⟩
      rw[if_pos (by omega),aJ,aj,l26 H hb,aj,a1,hlen,aj,ak jv]
      cases o with
      | none=>
        have d0:decide (((if(none:Option (List Int)).isSome then np else 0:Nat):Int)=0)=true:=rfl
        rw[d0]
        simp only[jQ,aj,cZ]
        have:=go true H1 n1 (Nat.le_refl _) (Keep.refl _ _) ⟨fun _ B h=>(by cases h),fun _=>rfl⟩
        simp only[aJ] at this
        exact this
      | some B=>
        have d0:decide (((if(some B).isSome then np else 0:Nat):Int)=0)=false:=decide_eq_false (by
          have:=good.np1
          simp only[Option.isSome_some,if_true]
          omega)
        rw[d0]
        have hu1':ListR H1 n1 u np B:=hu1
        obtain⟨r,H2,n2,c0,c1,c2,c3⟩:=less_call (ρ:=Value × Hp × Nat) (l+5) hL1 hu1' (by omega)
        simp only[iQ,aj,c1,dv]
        have:=go r H2 n2 c2 c3 (c0.trans ⟨fun h B' e=>by cases e; exact h,fun h=>h B rfl⟩)
        simp only[aJ] at this
        exact this
    · have:i=N:=by omega
      subst this
      rw[if_neg (by omega),hlen,aj,ak wx]
      refine⟨o,hB,u,H,n,?_,Nat.le_refl _,Keep.refl _ _,hu⟩
      have:decide ((0:Int)<((if o.isSome then np else 0:Nat):Int))=o.isSome:=by
        have:=good.np1
        cases o with
        | none=>rfl
        | some B=>exact decide_eq_true (by simp only[Option.isSome_some,if_true]; omega)
      rw[this]
  intro m
  induction m with
  | zero=>intro i o u H n h1 h2 h3 h4 h5 h6 h7; exact body _ 0 i o u H n h1 h2 h3 h4 h5 h6 (fun _ _ _ _ _ _ _ _ h=>by omega)
  | succ m ih=>intro i o u H n h1 h2 h3 h4 h5 h6 h7; exact body _ (m+1) i o u H n h1 h2 h3 h4 h5 h6 (fun o u H' n' q1 q2 q3 q4 q5=>ih (i+1) o u H' n' (by omega) (h2.keep q2 h1) (h3.keep q2 q1) q3 q4 (by omega) (by omega))
end Go.Proofs.Ytgojjellogiglaa.spec
end
section
namespace Go.Proofs.Ytgojjellogiglaa.spec
open Go Go.Ev Go.Proofs.Ytgojjellogiglaa.nestFits Go.Proofs.Ytgojjellogiglaa.G
set_option maxRecDepth 100000
variable {ρ:Type}
theorem call46 (l:Nat) (a:Value) (H:Hp) (n:Nat):(cal (l+1)).call 46 [a] H n=C46_0 (cal l) KK a H n:=by kernel_rfl
theorem flat46:fw P 46=false:=by kernel_rfl
theorem pow_small {b n:Nat} (hb:b≤4) (hn:n≤8):b ^ n≤65536:=
  Nat.le_trans (Nat.pow_le_pow_left hb n) (Nat.le_trans (Nat.pow_le_pow_right (by omega) hn) (by decide))
theorem many_loop (c:Cal) (k:Nat) {np nk g:Nat} {x y z:Value} {R:Res→Prop} {H:Hp} {n:Nat} (hb:aX H g 0 [x,y,z]) (hx:lenV P 22 x=some (.int .i64 np)) (hz:lenV P 24 z=some (.int .i64 nk)) (hxh:iw x=true∧oy x=true) (hzh:iw z=true∧oy z=true) (hnp:np≤8) (hnk:nk≤3)
    (hR:R (S46_2 c k k (.pointer (some ⟨g,0,none⟩)) (.int .i64 (((nk+1) ^ np:Nat):Int)) (.slice none 0 0) (.int .i64 0) H n)):∀(m i:Nat),i≤np→np-i≤m→R (S46_1 c k m (.pointer (some ⟨g,0,none⟩)) (.int .i64 (((nk+1) ^ i:Nat):Int)) (.int .i64 i) H n):=by
  have lx:az P H 22 ⟨g,0+0,none⟩=some x:=bq hb IY rfl hxh.1 hxh.2
  have lz:az P H 24 ⟨g,0+2,none⟩=some z:=bq hb IZ rfl hzh.1 hzh.2
  have body:∀(b1:Value→Value→Value→Hp→Nat→Res) (m i:Nat),i≤np→(i<np→R (b1 (.pointer (some ⟨g,0,none⟩)) (.int .i64 (((nk+1) ^ (i+1):Nat):Int)) (.int .i64 ((i+1:Nat):Int)) H n)) →
      R (C46_1 c k m b1 (.pointer (some ⟨g,0,none⟩)) (.int .i64 (((nk+1) ^ i:Nat):Int)) (.int .i64 i) H n):=by
    intro b1 m i hi ih
    unfold C46_1 B46_1
    rw[wz,aj,aJ,aj,lx,aj,hx,aj,ak cY,iJ]
    by_cases hlt:i<np
    · have hI1:I64 ((i:Int)+1):=by unfold I64; omega
      have hcast:((i:Int)+1)=((i+1:Nat):Int):=by omega
      have hI2:I64 ((nk:Int)+1):=by unfold I64; omega
      have hc2:((nk:Int)+1)=((nk+1:Nat):Int):=by omega
      have hp:(((nk+1) ^ i:Nat):Int) * ((nk+1:Nat):Int)=(((nk+1) ^ (i+1):Nat):Int):=by rw[Nat.pow_succ,Int.natCast_mul]
      have hle:=pow_small (b:=nk+1) (n:=i+1) (by omega) (by omega)
      have hI3:I64 ((((nk+1) ^ i:Nat):Int) * ((nk+1:Nat):Int)):=by
        rw[hp]
        generalize (nk+1) ^ (i+1)=q at hle
        unfold I64; omega
      rw[if_pos (by omega),zZ,aj,aJ,aj,lz,aj,hz,aj,ak (bV hI2),hc2,ak (bin_mul hI3),hp,ak (bV hI1),hcast]
      exact ih hlt
    · have:i=np:=by omega
      subst this
      rw[if_neg (by omega)]
      exact hR
  intro m
  induction m with
  | zero=>intro i h1 h2; exact body _ 0 i h1 (fun h=>by omega)
  | succ m ih=>intro i h1 h2; exact body _ (m+1) i h1 (fun h=>ih (i+1) (by omega) (by omega))
theorem bestR_call (l:Nat) {np nj nk:Nat} {ps js ks:List Int} {H:Hp} {n:Nat} {v:Value} (good:Good np nj nk ps js ks) (hg:GroveI H n v np nj nk ps js ks) (hnp:np≤5) :
    ∃ o,qj ps js ks nj np nk ((nk+1) ^ np) o∧∃ w H' n',(∀ k:Value→Hp→Nat→Option ρ,aV P (cal (l+8)) 46 [v] H n k=k (.tuple ⟨[w,.bool o.isSome]⟩) H' n')∧n≤n'∧Keep n H H'∧StB H' n' np w o:=by
  have hg0:=hg
  obtain⟨x,y,z,rfl,h1,h2,h3⟩:=hg.eq
  have nk3:=good.nk3
  have hN:(nk+1) ^ np≤1024:=Nat.le_trans (Nat.pow_le_pow_left (show nk+1≤4 by omega) np) (Nat.le_trans (Nat.pow_le_pow_right (by omega) hnp) (by decide))
  have hk:Keep n H (H.set n (some (.cells [x,y,z] 26 false none))):=(Keep.refl n H).set (Nat.le_refl _) _
  have hb:aX (H.set n (some (.cells [x,y,z] 26 false none))) n 0 [x,y,z]:=aX.new
  have key:∃ o,qj ps js ks nj np nk ((nk+1) ^ np) o∧∃ w H' n',C46_0 (cal (l+7)) KK (.agg ⟨[x,y,z]⟩) H n=some (.tuple ⟨[w,.bool o.isSome]⟩,H',n')∧n≤n'∧Keep n H H'∧StB H' n' np w o:=by
    unfold C46_0 B46_0
    rw[cQ]
    simp only[bj,ptr]
    generalize H.set n (some (.cells [x,y,z] 26 false none))=H1 at hk hb ⊢
    refine many_loop (cal (l+7)) KK (np:=np) (nk:=nk) (R:=fun r=>∃ o,qj ps js ks nj np nk ((nk+1) ^ np) o∧∃ w H' n',r=some (.tuple ⟨[w,.bool o.isSome]⟩,H',n')∧n≤n'∧Keep n H H'∧StB H' n' np w o) hb (h1.len_eq EY) (h3.len_eq EX) h1.hole h3.hole (by omega) nk3 ?_ KK 0 (Nat.zero_le _) (by unfold KK; omega)
    obtain⟨o,q1,w,H',n',q2,q3,q4,q5⟩:=bestR_loop l KK (N:=(nk+1) ^ np) good (by omega) KK 0 none (.slice none 0 0) H1 (n+1) (by omega) hb (hg0.keep hk (by omega)) (fun m hm=>absurd hm (by omega)) rfl (Nat.zero_le _) (by unfold KK; omega)
    exact⟨o,q1,w,H',n',q2,by omega,hk.trans q4 (by omega),q5⟩
  obtain⟨o,q1,w,H',n',q2,q3,q4,q5⟩:=key
  refine⟨o,q1,w,H',n',fun k=>?_,q3,q4,q5⟩
  unfold aV
  rw[flat46,call46,q2]
  rfl
def numF (f:Nat→Nat) (b:Nat):Nat→Nat
  | 0=>0
  | i+1=>numF f b i * b+f i
theorem numF_lt {f:Nat→Nat} {b:Nat}:∀ {n:Nat},(∀ i,i<n→f i<b)→numF f b n<b ^ n
  | 0,_=>by simp [numF]
  | n+1,h=>by
    have ih:=numF_lt (n:=n) fun i hi=>h i (by omega)
    have:=h n (by omega)
    simp only[numF,Nat.pow_succ]
    calc numF f b n * b+f n<numF f b n * b+b:=by omega
      _=(numF f b n+1) * b:=by rw[Nat.add_mul,Nat.one_mul]
      _≤b ^ n * b:=Nat.mul_le_mul_right _ ih
theorem numF_digit {f:Nat→Nat} {b:Nat}:∀ {n:Nat},(∀ i,i<n→f i<b)→∀ p,p<n→numF f b n / b ^ (n-1-p) % b=f p
  | 0,_,p,hp=>by omega
  | n+1,h,p,hp=>by
    have hn:=h n (by omega)
    simp only[numF]
    by_cases e:p=n
    · subst e
      rw[show p+1-1-p=0 by omega,Nat.pow_zero,Nat.div_one,Nat.mul_comm,Nat.mul_add_mod,Nat.mod_eq_of_lt hn]
    · have ih:=numF_digit (n:=n) (fun i hi=>h i (by omega)) p (by omega)
      rw[show n+1-1-p=(n-1-p)+1 by omega,Nat.pow_succ,Nat.mul_comm (b ^ (n-1-p)) b,← Nat.div_div_eq_div_mul]
      have:(numF f b n * b+f n) / b=numF f b n:=by
        rw[Nat.mul_comm,Nat.mul_add_div (by omega),Nat.div_eq_of_lt hn,Nat.add_zero]
      rw[this]
      exact ih
theorem nth_all {B:List Int} {np nk:Nat} (hB:B.length=np) (h:∀ p,p<np→-1≤B.getD p 0∧B.getD p 0<nk):∃ m,m<(nk+1) ^ np∧B=nthL np nk m:=by
  have hf:∀ i,i<np→(B.getD i 0+1).toNat<nk+1:=fun i hi=>by
    have:=h i hi
    omega
  refine⟨numF (fun p=>(B.getD p 0+1).toNat) (nk+1) np,numF_lt hf,TX (by rw[hB,Kk]) fun q hq=>?_⟩
  rw[hB] at hq
  rw[nthL_get hq,numF_digit hf q hq]
  have:=h q hq
  omega
end Go.Proofs.Ytgojjellogiglaa.spec
end
section
namespace Go.Proofs.Ytgojjellogiglaa.spec
open Go Go.Ev Go.Proofs.Ytgojjellogiglaa.nestFits Go.Proofs.Ytgojjellogiglaa.G
set_option maxRecDepth 100000
theorem cntL_more {L:List Int}:∀ {p d:Nat},cntL L p (d+1)=cntL L p d+(if L.getD (p+d) 0=-1 then 0 else 1)
  | p,0=>by simp [cntL]
  | p,d+1=>by
    have ih:=cntL_more (L:=L) (p:=p+1) (d:=d)
    have e:cntL L p (d+1+1)=(if L.getD p 0=-1 then 0 else 1)+cntL L (p+1) (d+1):=rfl
    have e2:cntL L p (d+1)=(if L.getD p 0=-1 then 0 else 1)+cntL L (p+1) d:=rfl
    rw[e,ih,e2,show p+1+d=p+(d+1) by omega]
    omega
theorem TY {L:List Int}:∀ {d:Nat},(cntL L 0 d:Int)=cntI L d
  | 0=>rfl
  | d+1=>by
    have ih:=TY (L:=L) (d:=d)
    rw[cntL_more,Nat.zero_add]
    unfold cntI at ih ⊢
    simp only[dV]
    rw[← ih]
    split <;> omega
theorem Rq {L:List Int} {np:Nat}:∀ {j:Nat},(∀ q,np≤q→q<np+j→L.getD q 0=-1)→cntI L (np+j)=cntI L np
  | 0,_=>rfl
  | j+1,h=>by
    have ih:=Rq (j:=j) fun q h1 h2=>h q h1 (by omega)
    unfold cntI at ih ⊢
    rw[show np+(j+1)=(np+j)+1 by omega]
    simp only[dV]
    rw[ih,if_pos (h (np+j) (by omega) (by omega))]
    omega
theorem OK {B:List Int} {np:Nat} (hB:B.length=np) (h:∀ p,p<np→-1≤B.getD p 0):gj B np=cntI (cV B np) np:=by
  unfold gj cntI
  refine uw fun k hk=>?_
  rw[wQ hB hk]
  have:=h k hk
  by_cases c:B.getD k 0=-1
  · rw[if_pos c,if_neg (by omega)]
  · rw[if_neg c,if_pos (by omega)]
theorem HJ {js ks B:List Int} {nj np nk:Nat} (h:kz js ks B nj np nk):∀ p,p<np→-1≤B.getD p 0∧B.getD p 0<nk:=by
  intro p hp
  rcases h p hp with z | ⟨z1,z2,_⟩ <;> omega
theorem goes_of {js ks B:List Int} {nj np nk:Nat} (hB:B.length=np) (hnp:np≤8) (h:kz js ks B nj np nk):GoesOn (fitD js ks nj np) nk noL 0 np (cntL (cV B np) 0 np) (cV B np):=by
  refine⟨Fv hB hnp,fun q hq=>absurd hq (by omega),fun q _ h2=>?_,fun q h1 h2=>AY hB (by omega) h2,rfl⟩
  rw[wQ hB (by omega)]
  rcases h q (by omega) with z | ⟨z1,z2,z3⟩
  · exact .inl z
  · exact .inr ⟨(B.getD q 0).toNat,by omega,z3,by omega⟩
theorem Rv {M:List Int} {np q:Nat} (hq:q<np):(M.take np).getD q 0=M.getD q 0:=by
  rw[List.getD_eq_getElem?_getD,List.getElem?_take,if_pos hq,← List.getD_eq_getElem?_getD]
theorem take_laid {tk:Nat→Nat→Bool} {nk np i:Nat} {M:List Int} (h:GoesOn tk nk noL 0 np i M) (hnp:np≤8):(M.take np).length=np∧cV (M.take np) np=M:=by
  have l:(M.take np).length=np:=by
    have:=h.len
    simp [this]; omega
  refine⟨l,list_ext8 (Fv l hnp) h.len fun q hq=>?_⟩
  by_cases c:q<np
  · rw[wQ l c,Rv c]
  · rw[AY l (by omega) hq,h.after q (by omega) hq]
theorem take_ok {js ks M:List Int} {nj np nk i:Nat} (h:GoesOn (fitD js ks nj np) nk noL 0 np i M):kz js ks (M.take np) nj np nk:=by
  intro p hp
  rw[Rv hp]
  rcases h.kinds p (Nat.zero_le _) (by omega) with z | ⟨kd,h1,h2,h3⟩
  · exact .inl z
  · refine .inr ⟨by omega,by omega,?_⟩
    rw[h3,Int.toNat_natCast]
    exact h2
theorem lexLt_same {A B C D:List Int} {np:Nat} (h1:∀ q,q<np→A.getD q 0=C.getD q 0) (h2:∀ q,q<np→B.getD q 0=D.getD q 0) (h:Jq A B 0 np):Jq C D 0 np:=by
  obtain⟨q,q1,q2,q3,q4⟩:=h
  exact⟨q,q1,q2,by rw[← h1 q q2,← h2 q q2]; exact q3,fun k k1 k2=>by rw[← h1 k (by omega),← h2 k (by omega)]; exact q4 k k1 k2⟩
theorem nests_cnt {js ks B:List Int} {nj np nk:Nat} (hB:B.length=np) (h:kz js ks B nj np nk):gj B np=(cntL (cV B np) 0 np:Nat):=by
  rw[OK hB fun p hp=>(HJ h p hp).1,TY]
theorem bestL_right {ps js ks M:List Int} {nj np nk:Nat} (hnp:np≤8) (hks:kj ks nk) (h:Fw ps js ks nj np nk=some M) :
    M.length=8∧(M.take np).length=np∧cV (M.take np) np=M∧kz js ks (M.take np) nj np nk∧oW js ks ps M nj np∧cntI M 8=gj (M.take np) np ∧
    ∀ B,B.length=np→kz js ks B nj np nk→oW js ks ps (cV B np) nj np→M.take np=B∨Fx (M.take np) B np:=by
  obtain⟨i,i1,i2,i3,i4,i5⟩:=OZ hnp hks h
  obtain⟨t1,t2⟩:=take_laid i2 hnp
  have ok:=take_ok i2
  have ec:cntI M 8=cntI M np:=by
    have:=Rq (L:=M) (np:=np) (j:=8-np) fun q h1 h2=>i2.after q (by omega) (by omega)
    rw[show np+(8-np)=8 by omega] at this
    exact this
  have hc:gj (M.take np) np=(i:Nat):=by rw[nests_cnt t1 ok,t2,i2.cnt]
  refine⟨i2.len,t1,t2,ok,i3,?_,fun B hB hok hR=>?_⟩
  · rw[ec,hc,← TY,i2.cnt]
  · have hg:=goes_of hB hnp hok
    have hcB:=nests_cnt hB hok
    rcases Nat.lt_trichotomy (cntL (cV B np) 0 np) i with c | c | c
    · exact absurd hR (i5 _ _ c hg)
    · rw[c] at hg
      rcases i4 _ hg hR with e | e
      · refine .inl (TX (by rw[t1,hB]) fun q hq=>?_)
        rw[t1] at hq
        rw[Rv hq,e,wQ hB hq]
      · refine .inr (.inr ⟨by rw[hc,hcB,c],lexLt_same (fun q hq=>(Rv hq).symm) (fun q hq=>wQ hB hq) e⟩)
    · exact .inr (.inl (by rw[hc,hcB]; omega))
theorem bestL_not {ps js ks:List Int} {nj np nk:Nat} (hnp:np≤8) (hks:kj ks nk) (h:Fw ps js ks nj np nk=none):∀ B,B.length=np→kz js ks B nj np nk→¬ oW js ks ps (cV B np) nj np:=
  fun B hB hok=>bestL_none hnp hks h _ _ (by have:=cntL_le (L:=cV B np) (p:=0) (d:=np); exact this) (goes_of hB hnp hok)
theorem best_agree {ps js ks:List Int} {nj np nk:Nat} (good:Good np nj nk ps js ks) {o:Option (List Int)} (h:qj ps js ks nj np nk ((nk+1) ^ np) o):o=(Fw ps js ks nj np nk).map fun M=>M.take np:=by
  have np8:=good.np8
  cases hc:Fw ps js ks nj np nk with
  | none=>
    have no:=bestL_not np8 good.kinds hc
    cases o with
    | none=>rfl
    | some B=>
      obtain⟨⟨m,m1,rfl,m3⟩,_⟩:=h
      exact absurd m3.2 (no _ Kk m3.1)
  | some M=>
    obtain⟨b1,b2,b3,b4,b5,b6,b7⟩:=bestL_right np8 good.kinds hc
    obtain⟨m,m1,m2⟩:=nth_all b2 (HJ b4)
    have hR:Hk ps js ks nj np nk m:=by
      unfold Hk
      rw[← m2,b3]
      exact⟨b4,b5⟩
    cases o with
    | none=>exact absurd hR (h m m1)
    | some B=>
      obtain⟨⟨q,q1,rfl,q3⟩,q4⟩:=h
      rcases b7 _ Kk q3.1 q3.2 with e | e
      · simp only[Option.map_some,e]
      · rw[m2] at e
        exact absurd e (q4 m m1 hR)
end Go.Proofs.Ytgojjellogiglaa.spec
end
section
namespace Go.Proofs.Ytgojjellogiglaa.spec
open Go Go.Ev Go.Proofs.Ytgojjellogiglaa.nestFits Go.Proofs.Ytgojjellogiglaa.G
set_option maxRecDepth 100000
variable {ρ:Type}
noncomputable def T7 (c:Cal) (v_1 v_24 v_25 v_26:Value) (H_40:Hp) (n_41:Nat):Res:=
aq (aW v_1) fun a_47=>aq (az P H_40 26 a_47) fun v_46=>
aV P c 20 [v_46] H_40 n_41 fun v_48 H_49 n_4a=>
binK P BinOp.neq 29 (Operand.tmp 62) (Operand.const (Value.int IntKind.i64 0)) v_48 (Value.int IntKind.i64 0) fun v_4d=>
ifK v_4d (
binK P BinOp.eql 29 (Operand.tmp 64) (Operand.tmp 65) v_26 v_48 fun v_4g=>
aQ v_4g true (fun k_4i=>
k_4i v_24 H_49 n_4a) H_49 n_4a fun v_4j H_4k n_4l=>
aQ v_4g true (fun k_4n=>
aq (lenV P 44 v_4j) fun v_4r=>
k_4n v_4r H_4k n_4l) H_4k n_4l fun v_4o H_4p n_4q=>
aQ v_4g true (fun k_4s=>
binK P BinOp.eql 3 (Operand.tmp 69) (Operand.const (Value.int IntKind.i64 0)) v_4o (Value.int IntKind.i64 0) fun v_4w=>
k_4s v_4w H_4p n_4q) H_4p n_4q fun v_4t H_4u n_4v=>
aq (cK v_4g v_4t (Value.bool false)) fun v_4x=>
aQ v_4x true (fun k_4z=>
k_4z v_25 H_4u n_4v) H_4u n_4v fun v_50 H_51 n_52=>
aQ v_4x true (fun k_54=>
binK P BinOp.eql 3 (Operand.tmp 73) (Operand.const (Value.int IntKind.i64 0)) v_50 (Value.int IntKind.i64 0) fun v_58=>
k_54 v_58 H_51 n_52) H_51 n_52 fun v_55 H_56 n_57=>
aq (cK v_4x v_55 (Value.bool false)) fun v_59=>
aQ v_59 true (fun k_5b=>
aV P c 16 [] H_56 n_57 fun v_5f H_5g n_5h=>
k_5b v_5f H_5g n_5h) H_56 n_57 fun v_5c H_5d n_5e=>
aq (cK v_59 v_5c (Value.bool false)) fun v_5i=>
some (v_5i,H_5d,n_5e)) (
aq (aW v_1) fun a_5l=>aq (az P H_49 26 a_5l) fun v_5k=>
aV P c 46 [v_5k] H_49 n_4a fun v_5m H_5n n_5o=>
aq (tupV v_5m 0) fun v_5q=>
aq (tupV v_5m 1) fun v_5r=>
aq (ej P v_5r (Op.unary UnOp.not v_5r)) fun v_5v=>
ifK v_5v (
binK P BinOp.eql 29 (Operand.tmp 86) (Operand.const (Value.int IntKind.i64 10)) v_26 (Value.int IntKind.i64 10) fun v_5x=>
aQ v_5x true (fun k_5z=>
k_5z v_24 H_5n n_5o) H_5n n_5o fun v_60 H_61 n_62=>
aQ v_5x true (fun k_64=>
aq (lenV P 44 v_60) fun v_68=>
k_64 v_68 H_61 n_62) H_61 n_62 fun v_65 H_66 n_67=>
aQ v_5x true (fun k_69=>
binK P BinOp.eql 3 (Operand.tmp 90) (Operand.const (Value.int IntKind.i64 0)) v_65 (Value.int IntKind.i64 0) fun v_6d=>
k_69 v_6d H_66 n_67) H_66 n_67 fun v_6a H_6b n_6c=>
aq (cK v_5x v_6a (Value.bool false)) fun v_6e=>
aQ v_6e true (fun k_6g=>
k_6g v_25 H_6b n_6c) H_6b n_6c fun v_6h H_6i n_6j=>
aQ v_6e true (fun k_6l=>
binK P BinOp.eql 3 (Operand.tmp 94) (Operand.const (Value.int IntKind.i64 0)) v_6h (Value.int IntKind.i64 0) fun v_6p=>
k_6l v_6p H_6i n_6j) H_6i n_6j fun v_6m H_6n n_6o=>
aq (cK v_6e v_6m (Value.bool false)) fun v_6q=>
aQ v_6q true (fun k_6s=>
aV P c 16 [] H_6n n_6o fun v_6w H_6x n_6y=>
k_6s v_6w H_6x n_6y) H_6n n_6o fun v_6t H_6u n_6v=>
aq (cK v_6q v_6t (Value.bool false)) fun v_6z=>
some (v_6z,H_6u,n_6v)) (
binK P BinOp.eql 29 (Operand.tmp 100) (Operand.const (Value.int IntKind.i64 0)) v_26 (Value.int IntKind.i64 0) fun v_72=>
aQ v_72 true (fun k_74=>
k_74 v_24 H_5n n_5o) H_5n n_5o fun v_75 H_76 n_77=>
aQ v_72 true (fun k_79=>
k_79 v_5q H_76 n_77) H_76 n_77 fun v_7a H_7b n_7c=>
aQ v_72 true (fun k_7e=>
aV P c 30 [v_75,v_7a] H_7b n_7c fun v_7i H_7j n_7k=>
k_7e v_7i H_7j n_7k) H_7b n_7c fun v_7f H_7g n_7h=>
aq (cK v_72 v_7f (Value.bool false)) fun v_7l=>
aQ v_7l true (fun k_7n=>
k_7n v_25 H_7g n_7h) H_7g n_7h fun v_7o H_7p n_7q=>
aQ v_7l true (fun k_7s=>
k_7s v_5q H_7p n_7q) H_7p n_7q fun v_7t H_7u n_7v=>
aQ v_7l true (fun k_7x=>
aV P c 45 [v_7t] H_7u n_7v fun v_81 H_82 n_83=>
k_7x v_81 H_82 n_83) H_7u n_7v fun v_7y H_7z n_80=>
aQ v_7l true (fun k_84=>
binK P BinOp.eql 3 (Operand.tmp 108) (Operand.tmp 110) v_7o v_7y fun v_88=>
k_84 v_88 H_7z n_80) H_7z n_80 fun v_85 H_86 n_87=>
aq (cK v_7l v_85 (Value.bool false)) fun v_89=>
aQ v_89 true (fun k_8b=>
aV P c 16 [] H_86 n_87 fun v_8f H_8g n_8h=>
k_8b v_8f H_8g n_8h) H_86 n_87 fun v_8c H_8d n_8e=>
aq (cK v_89 v_8c (Value.bool false)) fun v_8i=>
some (v_8i,H_8d,n_8e)))
structure BestOut (F:Int) (O:Option (List Int)) (np:Nat) (E cnt:Int):Prop where
  bad:F≠0→E=F∧cnt=0∧O=none
  none:F=0→O=.none→E=10∧cnt=0
  some:F=0→∀ B,O=.some B→E=0∧cnt=gj B np
theorem bests_tail (c:Cal) {np nj nk:Nat} {ps js ks:List Int} {F E cnt:Int} {O:Option (List Int)} (out:BestOut F O np E cnt)
    (Hawake:∀(H:Hp) (n:Nat) (k:Value→Hp→Nat→Res),aV P c 16 [] H n k=k (.bool true) H n)
    (Hfault:∀(H:Hp) (n:Nat) (v:Value),GroveI H n v np nj nk ps js ks→∃ H' n',(∀ k:Value→Hp→Nat→Res,aV P c 20 [v] H n k=k (.int .i64 F) H' n')∧n≤n'∧Keep n H H')
    (HBR:F=0→∀(H:Hp) (n:Nat) (v:Value),GroveI H n v np nj nk ps js ks→∃ w H' n',(∀ k:Value→Hp→Nat→Res,aV P c 46 [v] H n k=k (.tuple ⟨[w,.bool O.isSome]⟩) H' n')∧n≤n'∧Keep n H H'∧StB H' n' np w O)
    (Hi:∀(H:Hp) (n:Nat) (u v:Value) (xs ys:List Int),ListR H n u np xs→ListR H n v np ys→∃(r:Bool) (H':Hp) (n':Nat),(r=true↔xs=ys)∧(∀ k:Value→Hp→Nat→Res,aV P c 30 [u,v] H n k=k (.bool r) H' n')∧n≤n'∧Keep n H H')
    (HN:∀(H:Hp) (n:Nat) (u:Value) (xs:List Int),ListR H n u np xs→∃ H' n',(∀ k:Value→Hp→Nat→Res,aV P c 45 [u] H n k=k (.int .i64 (gj xs np)) H' n')∧n≤n'∧Keep n H H')
    {H:Hp} {n b0:Nat} {x y z w:Value} (hg:GroveI H n (.agg ⟨[x,y,z]⟩) np nj nk ps js ks) (hb:aX H b0 0 [x,y,z]) (hb0:b0<n) (hw:StB H n np w O) :
    ∃ H' n',T7 c (.pointer (some ⟨b0,0,none⟩)) w (.int .i64 cnt) (.int .i64 E) H n=some (.bool true,H',n'):=by
  obtain⟨x',y',z',hxyz,h1,h2,h3⟩:=hg.eq
  cases hxyz
  have ld:∀ H2,aX H2 b0 0 [x,y,z]→az P H2 26 ⟨b0,0,none⟩=some (.agg ⟨[x,y,z]⟩):=fun H2 h=>wk h h1.hole.1 h2.hole.1 h3.hole.1
  have e0:lenV P 44 (.slice none 0 0)=some (.int .i64 0):=by kernel_rfl
  have d0:decide ((0:Int)=0)=true:=rfl
  have d10:decide ((10:Int)=10)=true:=rfl
  obtain⟨H1,n1,a1,a2,a3⟩:=Hfault H n _ hg
  unfold T7
  rw[aJ,aj,ld H hb,aj,a1,ak lw]
  by_cases he:F=0
  · rw[decide_eq_true he,Bool.not_true,dW]
    obtain⟨u,H2,n2,b1,b2,b3,b4⟩:=HBR he H1 n1 _ (hg.keep a3 a2)
    have hw2:=(hw.keep a3 a2).keep b3 b2
    have t0:tupV (.tuple ⟨[u,.bool O.isSome]⟩) 0=some u:=rfl
    have t1:tupV (.tuple ⟨[u,.bool O.isSome]⟩) 1=some (.bool O.isSome):=rfl
    rw[aj,ld H1 (hb.keep a3 hb0),aj,b1,t0,aj,t1,aj]
    cases O with
    | none=>
      obtain⟨rfl,rfl⟩:=out.none he rfl
      have ew:w=.slice none 0 0:=hw
      subst ew
      have eF:ej P (.bool (none:Option (List Int)).isSome) (Op.unary .not (.bool (none:Option (List Int)).isSome))=some (.bool true):=qy
      rw[eF,aj,eJ,ak jv,d10]
      simp only[dw,e0,aj,ak jv,cZ,Hawake,decide_true]
      exact⟨_,_,rfl⟩
    | some B=>
      obtain⟨rfl,rfl⟩:=out.some he B rfl
      have eT:ej P (.bool (some B).isSome) (Op.unary .not (.bool (some B).isSome))=some (.bool false):=ow
      obtain⟨r,H3,n3,c0,c1,c2,c3⟩:=Hi H2 n2 w u B B hw2 b4
      have hr:r=true:=c0.2 rfl
      subst hr
      obtain⟨H4,n4,d1,d2,d3⟩:=HN H3 n3 u B (ListR.keep b4 c3 c2)
      rw[eT,aj,dW,ak jv,d0]
      simp only[dw,c1,aj,d1,ak jv,cZ,Hawake,decide_true]
      exact⟨_,_,rfl⟩
  · obtain⟨rfl,rfl,rfl⟩:=out.bad he
    have ew:w=.slice none 0 0:=hw
    subst ew
    have dE:decide (E=E)=true:=decide_eq_true rfl
    rw[decide_eq_false he,Bool.not_false,eJ,ak jv,dE]
    simp only[dw,e0,aj,ak jv,cZ,Hawake,decide_true]
    exact⟨_,_,rfl⟩
end Go.Proofs.Ytgojjellogiglaa.spec
end
section
namespace Go.Proofs.Ytgojjellogiglaa.spec
open Go Go.Ev Go.Proofs.Ytgojjellogiglaa.nestFits Go.Proofs.Ytgojjellogiglaa.G
set_option maxRecDepth 100000
variable {ρ:Type}
theorem neqB7 (p q:Operand) (a b:Bool):binV P .neq 4 p q (.bool a) (.bool b)=some (.bool (!decide (a=b))):=by
  cases a <;> cases b <;> kernel_rfl
theorem bests_core (c:Cal) {np nj nk nl:Nat} {ps js ks ls:List Int} {w:Value} {F E cnt E2 a N:Int} {O:Option (List Int)} {Q Rt:Prop} (out:BestOut F O np E cnt)
    (Hawake:∀(H:Hp) (n:Nat) (k:Value→Hp→Nat→Res),aV P c 16 [] H n k=k (.bool true) H n)
    (Hthin:∀(H:Hp) (n:Nat) (v:Value),GroveI H n v np nj nk ps js ks→ListR H n w nl ls→∃(r:Bool) (H':Hp) (n':Nat),(r=true↔thin np nj nk nl)∧(∀ k:Value→Hp→Nat→Res,aV P c 15 [v,w] H n k=k (.bool r) H' n')∧n≤n'∧Keep n H H')
    (Hfault:∀(H:Hp) (n:Nat) (v:Value),GroveI H n v np nj nk ps js ks→∃ H' n',(∀ k:Value→Hp→Nat→Res,aV P c 20 [v] H n k=k (.int .i64 F) H' n')∧n≤n'∧Keep n H H')
    (Hgrove:∀(H:Hp) (n:Nat) (v:Value),GroveI H n v np nj nk ps js ks→thin np nj nk nl→∃ u H' n',(∀ k:Value→Hp→Nat→Res,aV P c 18 [v] H n k=k u H' n')∧n≤n'∧Keep n H H'∧iy H' n' u np nj nk ps js ks)
    (Hlist:∀(H:Hp) (n:Nat),ListR H n w nl ls→thin np nj nk nl→∃ u H' n',(∀ k:Value→Hp→Nat→Res,aV P c 23 [w] H n k=k u H' n')∧n≤n'∧Keep n H H'∧ListR H' n' u nl ls)
    (HB:thin np nj nk nl→∀(H:Hp) (n:Nat) (v:Value),iy H n v np nj nk ps js ks→∃(u:Value) (H':Hp) (n':Nat),(∀ k:Value→Hp→Nat→Res,aV P c 42 [v] H n k=k (.tuple ⟨[u,.int .i64 cnt,.int .i64 E]⟩) H' n')∧n≤n'∧Keep n H H'∧StB H' n' np u O)
    (HP:thin np nj nk nl→∀(H:Hp) (n:Nat) (v u:Value),iy H n v np nj nk ps js ks→ListR H n u nl ls→∃(r:Bool) (H':Hp) (n':Nat),(r=true↔Q)∧(∀ k:Value→Hp→Nat→Res,aV P c 43 [v,u,.int .i64 a] H n k=k (.bool r) H' n')∧n≤n'∧Keep n H H')
    (Hplaced:∀(H:Hp) (n:Nat) (v:Value),GroveI H n v np nj nk ps js ks→ListR H n w nl ls→∃ H' n',(∀ k:Value→Hp→Nat→Res,aV P c 25 [v,w] H n k=k (.int .i64 E2) H' n')∧n≤n'∧Keep n H H')
    (HR:E2=0→∀(H:Hp) (n:Nat) (v:Value),GroveI H n v np nj nk ps js ks→ListR H n w nl ls→∃(r:Bool) (H':Hp) (n':Nat),(r=true↔Rt)∧(∀ k:Value→Hp→Nat→Res,aV P c 44 [v,w] H n k=k (.bool r) H' n')∧n≤n'∧Keep n H H')
    (HNl:E2=0→∀(H:Hp) (n:Nat),ListR H n w nl ls→∃ H' n',(∀ k:Value→Hp→Nat→Res,aV P c 45 [w] H n k=k (.int .i64 N) H' n')∧n≤n'∧Keep n H H')
    (HQ:Q↔E2=0∧Rt∧N≤a)
    (HBR:F=0→np≤5→∀(H:Hp) (n:Nat) (v:Value),GroveI H n v np nj nk ps js ks→∃ w H' n',(∀ k:Value→Hp→Nat→Res,aV P c 46 [v] H n k=k (.tuple ⟨[w,.bool O.isSome]⟩) H' n')∧n≤n'∧Keep n H H'∧StB H' n' np w O)
    (Hi:thin np nj nk nl→∀(H:Hp) (n:Nat) (u v:Value) (xs ys:List Int),ListR H n u np xs→ListR H n v np ys→∃(r:Bool) (H':Hp) (n':Nat),(r=true↔xs=ys)∧(∀ k:Value→Hp→Nat→Res,aV P c 30 [u,v] H n k=k (.bool r) H' n')∧n≤n'∧Keep n H H')
    (HN:thin np nj nk nl→∀(H:Hp) (n:Nat) (u:Value) (xs:List Int),ListR H n u np xs→∃ H' n',(∀ k:Value→Hp→Nat→Res,aV P c 45 [u] H n k=k (.int .i64 (gj xs np)) H' n')∧n≤n'∧Keep n H H')
    {H:Hp} {n:Nat} {v:Value} (hg:GroveI H n v np nj nk ps js ks) (hw:ListR H n w nl ls):∃ H' n',B7_0 c KK v w (.int .i64 a) H n=some (.bool true,H',n'):=by
  have hg0:=hg
  obtain⟨x,y,z,rfl,h1,h2,h3⟩:=hg.eq
  unfold B7_0
  rw[cQ]
  simp only[bj,ptr]
  have hk:Keep n H (H.set n (some (.cells [x,y,z] 26 false none))):=(Keep.refl n H).set (Nat.le_refl _) _
  have hb:aX (H.set n (some (.cells [x,y,z] 26 false none))) n 0 [x,y,z]:=aX.new
  generalize H.set n (some (.cells [x,y,z] 26 false none))=H1 at hk hb ⊢
  have ld:∀ H2,aX H2 n 0 [x,y,z]→az P H2 26 ⟨n,0,none⟩=some (.agg ⟨[x,y,z]⟩):=fun H2 h=>wk h h1.hole.1 h2.hole.1 h3.hole.1
  have hg1:GroveI H1 (n+1) (.agg ⟨[x,y,z]⟩) np nj nk ps js ks:=hg0.keep hk (by omega)
  have hw1:ListR H1 (n+1) w nl ls:=hw.keep hk (by omega)
  obtain⟨t,H2,n2,t1,t2,t3,t4⟩:=Hthin H1 (n+1) _ hg1 hw1
  rw[aJ,aj,ld H1 hb,aj,t2]
  cases t with
  | false=>
    simp only[qy,aj,jQ,fZ,cZ,eJ,Hawake]
    exact⟨_,_,rfl⟩
  | true=>
    have ht:=t1.1 rfl
    have hb2:=hb.keep t4 (by omega)
    have hg2:=hg1.keep t4 t3
    have hw2:=hw1.keep t4 t3
    obtain⟨H3,n3,a1,a2,a3⟩:=Hfault H2 n2 _ hg2
    have hb3:=hb2.keep a3 (by omega)
    have hg3:=hg2.keep a3 a2
    have hw3:=hw2.keep a3 a2
    have rest:(F=0→np≤5)→∃ H' n',(aq (aW (.pointer (some ⟨n,0,none⟩))) fun a_1w=>aq (az P H3 26 a_1w) fun v_1v=>
        aV P c 18 [v_1v] H3 n3 fun v_1x H_1y n_1z=>
        aV P c 42 [v_1x] H_1y n_1z fun v_20 H_21 n_22=>
        aq (tupV v_20 0) fun v_24=>
        aq (tupV v_20 1) fun v_25=>
        aq (tupV v_20 2) fun v_26=>
        aq (aW (.pointer (some ⟨n,0,none⟩))) fun a_2b=>aq (az P H_21 26 a_2b) fun v_2a=>
        aV P c 18 [v_2a] H_21 n_22 fun v_2c H_2d n_2e=>
        aV P c 23 [w] H_2d n_2e fun v_2g H_2h n_2i=>
        aV P c 43 [v_2c,v_2g,(.int .i64 a)] H_2h n_2i fun v_2k H_2l n_2m=>
        aq (aW (.pointer (some ⟨n,0,none⟩))) fun a_2q=>aq (az P H_2l 26 a_2q) fun v_2p=>
        aV P c 25 [v_2p,w] H_2l n_2m fun v_2s H_2t n_2u=>
        binK P BinOp.eql 29 (Operand.tmp 46) (Operand.const (Value.int IntKind.i64 0)) v_2s (Value.int IntKind.i64 0) fun v_2v=>
        aQ v_2v true (fun k_2x=>
        aq (aW (.pointer (some ⟨n,0,none⟩))) fun a_32=>aq (az P H_2t 26 a_32) fun v_31=>
        k_2x v_31 H_2t n_2u) H_2t n_2u fun v_2y H_2z n_30=>
        aQ v_2v true (fun k_33=>
        k_33 w H_2z n_30) H_2z n_30 fun v_34 H_35 n_36=>
        aQ v_2v true (fun k_38=>
        aV P c 44 [v_2y,v_34] H_35 n_36 fun v_3c H_3d n_3e=>
        k_38 v_3c H_3d n_3e) H_35 n_36 fun v_39 H_3a n_3b=>
        aq (cK v_2v v_39 (Value.bool false)) fun v_3f=>
        aQ v_3f true (fun k_3h=>
        k_3h w H_3a n_3b) H_3a n_3b fun v_3i H_3j n_3k=>
        aQ v_3f true (fun k_3m=>
        aV P c 45 [v_3i] H_3j n_3k fun v_3q H_3r n_3s=>
        k_3m v_3q H_3r n_3s) H_3j n_3k fun v_3n H_3o n_3p=>
        aQ v_3f true (fun k_3t=>
        k_3t (.int .i64 a) H_3o n_3p) H_3o n_3p fun v_3u H_3v n_3w=>
        aQ v_3f true (fun k_3y=>
        binK P BinOp.leq 3 (Operand.tmp 55) (Operand.tmp 56) v_3n v_3u fun v_42=>
        k_3y v_42 H_3v n_3w) H_3v n_3w fun v_3z H_40 n_41=>
        aq (cK v_3f v_3z (Value.bool false)) fun v_43=>
        binK P BinOp.neq 4 (Operand.tmp 43) (Operand.tmp 58) v_2k v_43 fun v_44=>
        ifK v_44 (some ((Value.bool false),H_40,n_41)) (T7 c (.pointer (some ⟨n,0,none⟩)) v_24 v_25 v_26 H_40 n_41))=some (.bool true,H',n'):=by
      intro h5
      obtain⟨gv,H4,n4,b1,b2,b3,b4⟩:=Hgrove H3 n3 _ hg3 ht
      obtain⟨bv,H5,n5,c1,c2,c3,c4⟩:=HB ht H4 n4 gv b4
      have k5:Keep n3 H3 H5:=b3.trans c3 b2
      have t0:tupV (.tuple ⟨[bv,.int .i64 cnt,.int .i64 E]⟩) 0=some bv:=rfl
      have t1:tupV (.tuple ⟨[bv,.int .i64 cnt,.int .i64 E]⟩) 1=some (.int .i64 cnt):=rfl
      have t2:tupV (.tuple ⟨[bv,.int .i64 cnt,.int .i64 E]⟩) 2=some (.int .i64 E):=rfl
      obtain⟨gw,H6,n6,d1,d2,d3,d4⟩:=Hgrove H5 n5 _ (hg3.keep k5 (by omega)) ht
      have k6:Keep n3 H3 H6:=k5.trans d3 (by omega)
      obtain⟨lv,H7,n7,f1,f2,f3,f4⟩:=Hlist H6 n6 (hw3.keep k6 (by omega)) ht
      have k7:Keep n3 H3 H7:=k6.trans f3 (by omega)
      obtain⟨is,H8,n8,g0,g1,g2,g3⟩:=HP ht H7 n7 gw lv (d4.keep f3 f2) f4
      have k8:Keep n3 H3 H8:=k7.trans g3 (by omega)
      have hw8:=hw3.keep k8 (show n3≤n8 by omega)
      have hg8:=hg3.keep k8 (show n3≤n8 by omega)
      have hb8:=hb3.keep k8 (show n<n3 by omega)
      obtain⟨H9,n9,p1,p2,p3⟩:=Hplaced H8 n8 _ hg8 hw8
      have hb9:=hb8.keep p3 (show n<n8 by omega)
      have s8:StB H8 n8 np bv O:=((c4.keep d3 d2).keep f3 f2).keep g3 g2
      have tail:∀(r:Bool) (H':Hp) (n':Nat),n8≤n'→Keep n8 H8 H'→(r=true↔E2=0∧Rt∧N≤a) →
          ∃ H2 n2,(binK P BinOp.neq 4 (Operand.tmp 43) (Operand.tmp 58) (.bool is) (.bool r) fun v_44=>ifK v_44 (some ((Value.bool false),H',n')) (T7 c (.pointer (some ⟨n,0,none⟩)) bv (.int .i64 cnt) (.int .i64 E) H' n'))=some (.bool true,H2,n2):=by
        intro r H' n' q1 q2 q3
        have hir:is=r:=by
          have:is=true↔r=true:=g0.trans (HQ.trans q3.symm)
          cases is <;> cases r <;> simp_all
        subst hir
        rw[ak (neqB7 _ _ _ _),decide_eq_true rfl,Bool.not_true,dW]
        exact bests_tail c out Hawake Hfault (fun he=>HBR he (h5 he)) (Hi ht) (HN ht) (hg8.keep q2 q1) (hb8.keep q2 (by omega)) (by omega) (s8.keep q2 q1)
      rw[aJ,aj,ld H3 hb3,aj,b1,c1,t0,aj,t1,aj,t2,aj,aj,ld H5 (hb3.keep k5 (by omega)),aj,d1,f1,g1,aj,ld H8 hb8,aj,p1,ak jv]
      by_cases he:E2=0
      · obtain⟨rt,H10,n10,r0,r1,r2,r3⟩:=HR he H9 n9 _ (hg8.keep p3 p2) (hw8.keep p3 p2)
        have k10:Keep n8 H8 H10:=p3.trans r3 p2
        rw[decide_eq_true he]
        simp only[dw,aj,ld H9 hb9,r1,cZ]
        cases rt with
        | false=>
          simp only[dK,dv,aj]
          exact tail false H10 n10 (by omega) k10 ⟨fun h=>(by cases h),fun h=>absurd (r0.2 h.2.1) (by simp)⟩
        | true=>
          obtain⟨H11,n11,u1,u2,u3⟩:=HNl he H10 n10 (hw8.keep k10 (by omega))
          simp only[dw,aj,u1,ak rX,cZ]
          exact tail _ H11 n11 (by omega) (k10.trans u3 (by omega)) (by rw[decide_eq_true_iff]; exact⟨fun h=>⟨he,r0.1 rfl,h⟩,fun h=>h.2.2⟩)
      · rw[decide_eq_false he]
        simp only[dK,dv,aj]
        exact tail false H9 n9 p2 p3 ⟨fun h=>(by cases h),fun h=>absurd h.1 he⟩
    have lx:az P H3 22 ⟨n,0+0,none⟩=some x:=bq hb3 IY rfl h1.hole.1 h1.hole.2
    have hlx:lenV P 22 x=some (.int .i64 np):=h1.len_eq EY
    by_cases he:F=0
    · simp only[ow,aj,iQ,aJ,ld H2 hb2,a1,ak jv,decide_eq_true he,dw,wz,lx,hlx,ak wx,cZ,dv]
      cases h5:decide ((5:Int)<(np:Int)) with
      | true=>
        rw[eJ,Hawake]
        exact⟨_,_,rfl⟩
      | false=>
        rw[dW]
        have:=rest (fun _=>by have:=of_decide_eq_false h5; omega)
        simp only[aJ,aj] at this
        exact this
    · simp only[ow,aj,iQ,ld H2 hb2,a1,ak jv,decide_eq_false he,dK,dv,dW]
      have:=rest (fun h=>absurd h he)
      simp only[aJ,aj] at this
      exact this
end Go.Proofs.Ytgojjellogiglaa.spec
end
section
namespace Go.Proofs.Ytgojjellogiglaa.nestBounds
open Go.ChangeShapes Go.WideShapes Go.ChangeAt Go.RowKit Go.Ev Go.Proofs.Ytgojjellogiglaa.nestFits
theorem flat3:MK Try.prog 5 3=some 1:=by kernel_rfl
theorem bytes3:1≤Try.prog.bytesOf 3:=by decide +kernel
def Says (f:Nat):Prop:=∀(H:Hp) (n:Nat) (v w:Value) np nj nk ps js ks nl ls,GroveI H n v np nj nk ps js ks→spec.ListR H n w nl ls →
  ∃ l H' n',(calE G.P G.A (G.KK+1) G.tab.get l).call f [v,w] H n=some (.bool true,H',n')
set_option maxRecDepth 100000
theorem there {W:World} {base:Nat} {b o len cap:Nat} {H:Hp} (hH:∀ i,H.get i=By W i) (hok:Cell.okWide Try.prog W .any base 44 (.slice (some ⟨b,o,none⟩) len cap)):∃ c,H.get b=some (.rows c):=by
  simp only[Cell.okWide,Try.underlying44,Cell.ok] at hok
  obtain⟨_,_,_,hsp,row,cells,hshape,_⟩:=hok
  rw[hH]
  unfold By
  unfold World.shape? at hshape
  dsimp only at hshape
  cases hb:W.heap[b]? with
  | none=>rw[hb] at hshape; simp at hshape
  | some B=>
    rw[hb] at hshape
    cases B with
    | cells arr x y=>exact⟨_,rfl⟩
    | _=>simp at hshape
theorem list_in {W:World} {base n len:Nat} {w:Value} {xs:List Int} {H:Hp} (hH:∀ i,H.get i=By W i) (hok:Cell.okWide Try.prog W .any base 44 w) (h:SliceI H n 1 w len xs):spec.ListR H n w len xs:=by
  obtain⟨h1,h2,h3⟩:=h
  refine⟨by omega,h2,?_⟩
  rcases h3 with h3 | ⟨b,o,cap,e,a1,a2,a3,a4⟩
  · exact .inl h3
  · refine .inr ⟨b,o,cap,e,a3,?_⟩
    rcases a4 with rfl | a4
    · subst e
      obtain⟨c,hc⟩:=there hH hok
      have:xs=[]:=List.length_eq_zero_iff.1 (by omega)
      subst this
      exact⟨_,c,hc,rfl,fun k v h=>by simp [ints] at h⟩
    · exact a4
theorem cells_one {W:World} {base:Nat} {w:Value} (hok:Cell.okWide Try.prog W .any base 44 w):w.cells.toList=[w]:=by
  cases w with
  | slice a l c=>rfl
  | _=>simp only[Cell.okWide,Try.underlying44,Cell.ok] at hok
set_option maxRecDepth 100000 in
theorem walk (hs:Says 4) {K:Type} {enc:TypeId × Value→K} {W:World} {base:Nat} {v w:Value} {d d':DataW K} {p p':List MemPlace}
    (hok:Value.okWide Try.prog W .any base 26 v) (ht:DataW.Trod enc Try.prog W 0 (fun _=>true) true 26 v d p) (hw:∀ n ∈ d.weights Try.prog 26,n≤reachBytes)
    (hok':Value.okWide Try.prog W .any base 44 w) (ht':DataW.Trod enc Try.prog W 0 (fun _=>true) true 44 w d' p') (hw':∀ n ∈ d'.weights Try.prog 44,n≤reachBytes) :
    Calls Try.prog 4 #[v,w] W fun e w'=>e=.returned (.bool true)∧Grown W w'∧∀ b,b<W.heap.size→w'.heap[b]?=W.heap[b]?:=by
  obtain⟨H,hH,hI⟩:=I.start W
  obtain⟨np,nj,nk,ps,js,ks,hg,hv⟩:=qax hH hok ht hw
  have hc:Cell.okWide Try.prog W .any base 44 w:=by
    unfold Value.okWide at hok'
    rw[Try.underlying44] at hok'
    exact hok'
  obtain⟨fuel,ht'⟩:=ht'
  rw[cells_one hc] at ht'
  obtain⟨nl,ls,hsl,hv'⟩:=Kj hH Try.underlying44 flat3 (by omega) bytes3 ht' hw' hc
  obtain⟨l,H',n',e⟩:=hs H W.heap.size v w np nj nk ps js ks nl ls hg (list_in hH hc hsl)
  refine(sV G.tab_ok hI (VRL.cons hv (VRL.cons hv' VRL.nil)) e rfl).mono ?_
  rintro en w' ⟨h1,h2,h3,h4,h5,h6,h7⟩
  exact⟨h1,qaz h2 h4 h5 h6 h7,h6⟩
set_option maxRecDepth 100000 in
theorem lifted (hs:Says 4) (os:Os) (started:os.Started) (H:Type) (enc:TypeId × Value→H) :
    ReturnsInHanded {} Try.checked os 4 .any (Rows.nestBoundsSpec.pre6 enc Try.prog Try.f4 Rows.nestBoundsRow.domain false) (Rows.nestBoundsSpec.post enc Try.prog Try.f4 false true false false):=by
  refine returnsInHanded_of_change_sized (C:=Try.checked) own started (by kernel_rfl) Try.func4
    (ChangeSpec.witness6 (enc:=enc) (C:=Try.checked) false ⟨#[],#[.agg #[.slice none 0 0,.slice none 0 0,.slice none 0 0],.slice none 0 0],[]⟩ 8 (by kernel_rfl) (by kernel_rfl) (by kernel_rfl) (by kernel_rfl)) ?_
  intro W base args ds gs before hval0 hW hcnd hsz _
  have hval:∀(j:Nat) t v,Try.f4.params[j]?=some t→args[j]?=some v→Value.okWide Try.prog W .any base t v:=hval0
  have hW':=hW
  obtain⟨p,q,hA0,hV,rfl,hfz,hnd⟩:=hW
  have hA:DataW.TrodAll enc Try.prog W 0 (fun _=>true) true Try.f4.params.toList args.toList ds p:=hA0
  have hAk:=hA
  rw[Try.params4] at hA hval
  obtain⟨v,w,d,d',p0,p1,rfl,rfl,rfl,h0,h1⟩:=trodAll_two hA
  obtain⟨rfl,rfl⟩:=trodVars_none hV
  simp only[List.append_nil] at hW' hAk
  have hall:∀ n ∈ d.weights Try.prog 26++(d'.weights Try.prog 44++[]),n≤reachBytes:=by
    intro n hn
    have hm:n ∈ DataW.weightsEach Try.checked.prog (Try.f4.params.toList++DataSpec.varTypes Try.checked.prog Rows.nestBoundsSpec.plain) ([d,d']++[]):=by
      rw[Try.params4]
      exact hn
    have:=List.all_eq_true.1 hsz n hm
    simpa using this
  refine(walk hs (hval 0 26 v rfl rfl) h0 (fun n hn=>hall n (List.mem_append_left _ hn)) (hval 1 44 w rfl rfl) h1 (fun n hn=>hall n (List.mem_append_right _ (List.mem_append_left _ hn)))).mono fun e W' ⟨he,hg,hk⟩=>?_
  subst he
  exact⟨_,rfl,post_of_same (pv:=[]) hW' (fun _ _ _=>(trodAll_cons_mk (shut_bool Try.underlying4 _) trodAll_mk0))
    (fun sp hsp=>DataW.TrodAll.respare kids full (by rw[Try.params4]; decide +kernel) (Qy hk hAk) hsp) (fun _ _=>rfl) (by simp)
    (hg.frame _) hg.2.1 (ok_one (by kernel_rfl) rfl (okWide_bool_mk Try.underlying4 _))⟩
theorem over (hs:Says 4):Rows.nestBoundsRow.holds Try.pinned (OpenSpec.ofChange Rows.nestBoundsSpec):=
  OpenClaim.holds_of_wide 4 Try.f4 rfl rfl rfl rfl rfl rfl rfl ⟨rfl,rfl,rfl,rfl,rfl⟩ rfl rfl rfl rfl rfl (by kernel_rfl) Try.func4 (by kernel_rfl)
    (of_decide_eq_true (by kernel_rfl)) (by unfold Func.isWrapper; first | (rw[if_pos (by decide +kernel)]; kernel_rfl) | (rw[if_neg (by decide +kernel)]; exact⟨rfl,rfl⟩))
    (fun os started H enc _=>lifted hs os started H enc)
theorem said (hs:Says 4):Rows.NestBoundsSaid:=over hs
end Go.Proofs.Ytgojjellogiglaa.nestBounds
end
section
namespace Go.Proofs.Ytgojjellogiglaa.nestBests
open Go.ChangeShapes Go.WideShapes Go.ChangeAt Go.RowKit Go.Ev Go.Proofs.Ytgojjellogiglaa.nestFits Go.Proofs.Ytgojjellogiglaa.nestBounds
def Says (f:Nat):Prop:=∀(H:Hp) (n:Nat) (v w:Value) np nj nk ps js ks nl ls (a:Int),GroveI H n v np nj nk ps js ks→spec.ListR H n w nl ls→I64 a →
  ∃ l H' n',(calE G.P G.A (G.KK+1) G.tab.get l).call f [v,w,.int .i64 a] H n=some (.bool true,H',n')
set_option maxRecDepth 100000 in
theorem int_in {K:Type} {enc:TypeId × Value→K} {W:World} {base:Nat} {w:Value} {d:DataW K} {p:List MemPlace}
    (hok:Value.okWide Try.prog W .any base 3 w) (ht:DataW.Trod enc Try.prog W 0 (fun _=>true) true 3 w d p):∃ a:Int,w=.int .i64 a∧I64 a∧VR (JZ W) w w:=by
  obtain⟨a,rfl⟩:=okWide_int Try.underlying3 hok
  obtain⟨fuel,ht⟩:=ht
  obtain⟨m,e1,e2,e3⟩:=DataW.trod_int Try.underlying3 ht
  have e:m=a:=by
    have:([.int .i64 a]:List Value)=[.int .i64 m]:=e1
    simpa using this.symm
  subst e
  have h0:IntKind.i64.min=-9223372036854775808:=by decide
  have h1:IntKind.i64.max=9223372036854775807:=by decide
  unfold Lit.wf at e3
  rw[Bool.and_eq_true,decide_eq_true_iff,decide_eq_true_iff,h0,h1] at e3
  exact⟨m,rfl,by unfold I64; omega,by simp only[VR]⟩
set_option maxRecDepth 100000 in
theorem walk (hs:Says 7) {K:Type} {enc:TypeId × Value→K} {W:World} {base:Nat} {v w x:Value} {d d' d2:DataW K} {p p' p2:List MemPlace}
    (hok:Value.okWide Try.prog W .any base 26 v) (ht:DataW.Trod enc Try.prog W 0 (fun _=>true) true 26 v d p) (hw:∀ n ∈ d.weights Try.prog 26,n≤reachBytes)
    (hok':Value.okWide Try.prog W .any base 44 w) (ht':DataW.Trod enc Try.prog W 0 (fun _=>true) true 44 w d' p') (hw':∀ n ∈ d'.weights Try.prog 44,n≤reachBytes)
    (hok2:Value.okWide Try.prog W .any base 3 x) (ht2:DataW.Trod enc Try.prog W 0 (fun _=>true) true 3 x d2 p2) :
    Calls Try.prog 7 #[v,w,x] W fun e w'=>e=.returned (.bool true)∧Grown W w'∧∀ b,b<W.heap.size→w'.heap[b]?=W.heap[b]?:=by
  obtain⟨H,hH,hI⟩:=I.start W
  obtain⟨np,nj,nk,ps,js,ks,hg,hv⟩:=qax hH hok ht hw
  have hc:Cell.okWide Try.prog W .any base 44 w:=by
    unfold Value.okWide at hok'
    rw[Try.underlying44] at hok'
    exact hok'
  obtain⟨fuel,ht'⟩:=ht'
  rw[cells_one hc] at ht'
  obtain⟨nl,ls,hsl,hv'⟩:=Kj hH Try.underlying44 flat3 (by omega) bytes3 ht' hw' hc
  obtain⟨a,rfl,a1,va⟩:=int_in hok2 ht2
  obtain⟨l,H',n',e⟩:=hs H W.heap.size v w np nj nk ps js ks nl ls a hg (list_in hH hc hsl) a1
  refine(sV G.tab_ok hI (VRL.cons hv (VRL.cons hv' (VRL.cons va VRL.nil))) e rfl).mono ?_
  rintro en w' ⟨h1,h2,h3,h4,h5,h6,h7⟩
  exact⟨h1,qaz h2 h4 h5 h6 h7,h6⟩
theorem trodAll_three {H:Type} {enc:TypeId × Value→H} {P:Program} {w:World} {base:Nat} {spare:Nat→Bool} {held:Bool} {t t' t2:TypeId} {args:Array Value} {ds:List (DataW H)} {ps:List MemPlace} (h:DataW.TrodAll enc P w base spare held [t,t',t2] args.toList ds ps) :
    ∃ v v' v2 d d' d2 p p' p2,args=#[v,v',v2]∧ds=[d,d',d2]∧ps=p++p'++p2∧DataW.Trod enc P w base spare held t v d p∧DataW.Trod enc P w base spare held t' v' d' p'∧DataW.Trod enc P w base spare held t2 v2 d2 p2:=by
  obtain⟨v,vs,d,ds',p,q,hargs,rfl,rfl,hd,hrest⟩:=trodAll_cons h
  obtain⟨v',vs',d',ds'',p',q',rfl,rfl,rfl,hd',hrest'⟩:=trodAll_cons hrest
  obtain⟨v2,vs2,d2,ds2,p2,q2,rfl,rfl,rfl,hd2,hrest2⟩:=trodAll_cons hrest'
  obtain⟨rfl,rfl,rfl⟩:=trodAll_nil hrest2
  exact⟨v,v',v2,d,d',d2,p,p',p2,by cases args; simp_all,rfl,by simp,hd,hd',hd2⟩
set_option maxRecDepth 100000 in
theorem lifted (hs:Says 7) (os:Os) (started:os.Started) (H:Type) (enc:TypeId × Value→H) :
    ReturnsInHanded {} Try.checked os 7 .any (Rows.nestBestsSpec.pre6 enc Try.prog Try.f7 Rows.nestBestsRow.domain false) (Rows.nestBestsSpec.post enc Try.prog Try.f7 false true false false):=by
  refine returnsInHanded_of_change_sized (C:=Try.checked) own started (by kernel_rfl) Try.func7
    (ChangeSpec.witness6 (enc:=enc) (C:=Try.checked) false ⟨#[],#[.agg #[.slice none 0 0,.slice none 0 0,.slice none 0 0],.slice none 0 0,.int .i64 0],[]⟩ 8 (by kernel_rfl) (by kernel_rfl) (by kernel_rfl) (by kernel_rfl)) ?_
  intro W base args ds gs before hval0 hW hcnd hsz _
  have hval:∀(j:Nat) t v,Try.f7.params[j]?=some t→args[j]?=some v→Value.okWide Try.prog W .any base t v:=hval0
  have hW':=hW
  obtain⟨p,q,hA0,hV,rfl,hfz,hnd⟩:=hW
  have hA:DataW.TrodAll enc Try.prog W 0 (fun _=>true) true Try.f7.params.toList args.toList ds p:=hA0
  have hAk:=hA
  rw[Try.params7] at hA hval
  obtain⟨v,w,x,d,d',d2,p0,p1,p2,rfl,rfl,rfl,h0,h1,h2⟩:=trodAll_three hA
  obtain⟨rfl,rfl⟩:=trodVars_none hV
  simp only[List.append_nil] at hW' hAk
  have hall:∀ n ∈ d.weights Try.prog 26++(d'.weights Try.prog 44++(d2.weights Try.prog 3++[])),n≤reachBytes:=by
    intro n hn
    have hm:n ∈ DataW.weightsEach Try.checked.prog (Try.f7.params.toList++DataSpec.varTypes Try.checked.prog Rows.nestBestsSpec.plain) ([d,d',d2]++[]):=by
      rw[Try.params7]
      exact hn
    have:=List.all_eq_true.1 hsz n hm
    simpa using this
  refine(walk hs (hval 0 26 v rfl rfl) h0 (fun n hn=>hall n (List.mem_append_left _ hn)) (hval 1 44 w rfl rfl) h1 (fun n hn=>hall n (List.mem_append_right _ (List.mem_append_left _ hn))) (hval 2 3 x rfl rfl) h2).mono fun e W' ⟨he,hg,hk⟩=>?_
  subst he
  exact⟨_,rfl,post_of_same (pv:=[]) hW' (fun _ _ _=>(trodAll_cons_mk (shut_bool Try.underlying4 _) trodAll_mk0))
    (fun sp hsp=>DataW.TrodAll.respare kids full (by rw[Try.params7]; decide +kernel) (Qy hk hAk) hsp) (fun _ _=>rfl) (by simp)
    (hg.frame _) hg.2.1 (ok_one (by kernel_rfl) rfl (okWide_bool_mk Try.underlying4 _))⟩
theorem over (hs:Says 7):Rows.nestBestsRow.holds Try.pinned (OpenSpec.ofChange Rows.nestBestsSpec):=
  OpenClaim.holds_of_wide 7 Try.f7 rfl rfl rfl rfl rfl rfl rfl ⟨rfl,rfl,rfl,rfl,rfl⟩ rfl rfl rfl rfl rfl (by kernel_rfl) Try.func7 (by kernel_rfl)
    (of_decide_eq_true (by kernel_rfl)) (by unfold Func.isWrapper; first | (rw[if_pos (by decide +kernel)]; kernel_rfl) | (rw[if_neg (by decide +kernel)]; exact⟨rfl,rfl⟩))
    (fun os started H enc _=>lifted hs os started H enc)
theorem said (hs:Says 7):Rows.NestBestsSaid:=over hs
end Go.Proofs.Ytgojjellogiglaa.nestBests
end
section
namespace Go.Proofs.Ytgojjellogiglaa.spec
open Go.Ev Go.Proofs.Ytgojjellogiglaa.nestFits Go.Proofs.Ytgojjellogiglaa.G
set_option maxRecDepth 1000000
noncomputable def isB (c:Bool) (r:Res):Bool:=match r with
  | some (.bool b,_,_)=>b == c
  | _=>false
theorem isB_eq {c:Bool} {r:Res} (h:isB c r=true):∃ H n,r=some (.bool c,H,n):=by
  unfold isB at h
  split at h
  · rename_i b H n
    have h:=eq_of_beq h
    subst h
    exact⟨H,n,rfl⟩
  · cases h
theorem run_awake:isB true ((cal 60).call 16 [] .nil 0)=true:=by kernel_rfl
theorem flat16:fw P 16=true:=by kernel_rfl
theorem awake_call {ρ:Type} (H:Hp) (n:Nat) (k:Value→Hp→Nat→Option ρ):aV P (cal 60) 16 [] H n k=k (.bool true) H n:=by
  obtain⟨H',n',e⟩:=isB_eq run_awake
  exact fQ flat16 rfl e rfl
end Go.Proofs.Ytgojjellogiglaa.spec
end
section
namespace Go.Proofs.Ytgojjellogiglaa.spec
open Go Go.Ev Go.Proofs.Ytgojjellogiglaa.nestFits Go.Proofs.Ytgojjellogiglaa.G
set_option maxRecDepth 100000
theorem zw {np nj nk nl:Nat} {ps js ks ls:List Int} (h:kY np nj nk nl ps js ks ls=0):Good np nj nk ps js ks∧nl=np∧kz js ks ls nj np nk:=by
  unfold kY at h
  by_cases c1:dX np nj nk ps js ks≠0
  · rw[if_pos c1] at h; exact absurd h c1
  · rw[if_neg c1] at h
    by_cases c2:nl=np∧kz js ks ls nj np nk
    · exact⟨CW (Decidable.not_not.1 c1),c2.1,c2.2⟩
    · rw[if_neg c2] at h; omega
noncomputable def Nv (np nj nk:Nat) (ps js ks:List Int):Option (List Int):=if dX np nj nk ps js ks=0 then(Fw ps js ks nj np nk).map fun M=>M.take np else none
noncomputable def bestE (np nj nk:Nat) (ps js ks:List Int):Int:=if dX np nj nk ps js ks=0 then(if(Nv np nj nk ps js ks).isSome then 0 else 10) else dX np nj nk ps js ks
noncomputable def bestC (np nj nk:Nat) (ps js ks:List Int):Int:=match Nv np nj nk ps js ks with
  | some B=>gj B np
  | none=>0
theorem Rw (np nj nk:Nat) (ps js ks:List Int):BestOut (dX np nj nk ps js ks) (Nv np nj nk ps js ks) np (bestE np nj nk ps js ks) (bestC np nj nk ps js ks):=by
  refine⟨fun h=>?_,fun h h'=>?_,fun h B h'=>?_⟩
  · have e:Nv np nj nk ps js ks=none:=if_neg h
    exact⟨if_neg h,by unfold bestC; rw[e],e⟩
  · exact⟨by unfold bestE; rw[if_pos h,h']; rfl,by unfold bestC; rw[h']⟩
  · exact⟨by unfold bestE; rw[if_pos h,h']; rfl,by unfold bestC; rw[h']⟩
theorem bests_law {np nj nk nl:Nat} {ps js ks ls:List Int} {H:Hp} {n:Nat} {v w:Value} {a:Int} (hg:GroveI H n v np nj nk ps js ks) (hw:ListR H n w nl ls):∃ H' n',C7_0 (cal 60) KK v w (.int .i64 a) H n=some (.bool true,H',n'):=by
  unfold C7_0
  refine bests_core (cal 60) (E2:=kY np nj nk nl ps js ks ls) (Rt:=oW js ks ps (cV ls np) nj np) (N:=gj ls nl) (Q:=kY np nj nk nl ps js ks ls=0∧oW js ks ps (cV ls np) nj np∧cntI (cV ls np) 8≤a) (Rw np nj nk ps js ks)
    (fun H n k=>awake_call H n k) (fun H n v h1 h2=>thin_call 59 h1 h2.len_eq) (fun H n v h=>lawfault_call 56 h)
    (fun H n v h ht=>grove_call 58 h (by have:=ht.1; omega) (by have:=ht.2.1; omega) (by have:=ht.2.2.1; omega))
    (fun H n h ht=>list_call 59 h (by have:=ht.2.2.2; omega)) ?_
    (fun ht H n v u h1 h2=>by
      obtain⟨l1,l2,l3,_⟩:=ht
      exact ProveLayout_call 52 h1 h2 (by omega) (by omega) (by omega) a)
    (fun H n v h1 h2=>placedN_call 54 h1 h2)
    (fun he H n v h1 h2=>by
      obtain⟨good,hnl,hok⟩:=zw he
      subst hnl
      exact rightR_call 53 good hok h1 h2)
    (fun he H n h1=>by
      obtain⟨good,hnl,hok⟩:=zw he
      have:=good.np8
      exact Hz 59 h1 (by omega))
    ?_
    (fun he h5 H n v h1=>by
      have good:=CW he
      obtain⟨o,q1,w,H',n',q2,q3,q4,q5⟩:=bestR_call (ρ:=Value × Hp × Nat) 52 good h1 h5
      have e:o=Nv np nj nk ps js ks:=by
        unfold Nv
        rw[if_pos he]
        exact best_agree good q1
      subst e
      exact⟨w,H',n',q2,q3,q4,q5⟩)
    (fun ht H n u v xs ys h1 h2=>ints_call 59 h1 h2 (by have:=ht.1; omega)) (fun ht H n u xs h1=>Hz 59 h1 (by have:=ht.1; omega)) hg hw
  · intro ht H n v h1
    obtain⟨l1,l2,l3,_⟩:=ht
    obtain⟨s1,s2,s3⟩:=Best_spec 43 h1 (by omega) (by omega) (by omega)
    by_cases he:dX np nj nk ps js ks=0
    · cases hc:Fw ps js ks nj np nk with
      | none=>
        have eO:Nv np nj nk ps js ks=none:=by unfold Nv; rw[if_pos he,hc]; rfl
        obtain⟨e1,e2⟩:=(Rw np nj nk ps js ks).none he eO
        obtain⟨H',n',q1,q2,q3⟩:=s2 he hc
        rw[e1,e2,eO]
        exact⟨_,H',n',fun k=>by rw[TW 59,q1]; rfl,q2,q3,rfl⟩
      | some M=>
        have good:=CW he
        have eO:Nv np nj nk ps js ks=some (M.take np):=by unfold Nv; rw[if_pos he,hc]; rfl
        obtain⟨e1,e2⟩:=(Rw np nj nk ps js ks).some he _ eO
        obtain⟨b1,b2,b3,b4,b5,b6,b7⟩:=bestL_right good.np8 good.kinds hc
        obtain⟨u,H',n',q1,q2,q3,q4⟩:=s3 he M hc
        rw[e1,e2,eO,← b6]
        have hl:=q4.list (fun x hx=>kinds_I64 b1 (by obtain⟨i,_,g,_⟩:=OZ good.np8 good.kinds hc; exact g.kindsIn) good.nk3 x (List.mem_of_mem_take hx))
        rw[b2] at hl
        exact⟨u,H',n',fun k=>by rw[TW 59,q1]; rfl,q2,q3,hl⟩
    · obtain⟨e1,e2,e3⟩:=(Rw np nj nk ps js ks).bad he
      obtain⟨H',n',q1,q2,q3⟩:=s1 he
      rw[e1,e2,e3]
      exact⟨_,H',n',fun k=>by rw[TW 59,q1]; rfl,q2,q3,rfl⟩
  · constructor
    · rintro⟨he,h1,h2⟩
      obtain⟨good,hnl,hok⟩:=zw he
      subst hnl
      have np8:=good.np8
      have e:cntI (cV ls nl) 8=gj ls nl:=by
        have:=Rq (L:=cV ls nl) (np:=nl) (j:=8-nl) fun q h1 h2=>AY hw.1 h1 (by omega)
        rw[show nl+(8-nl)=8 by omega] at this
        rw[this,OK hw.1 fun p hp=>(HJ hok p hp).1]
      exact⟨he,h1,by omega⟩
    · rintro⟨he,h1,h2⟩
      obtain⟨good,hnl,hok⟩:=zw he
      subst hnl
      have np8:=good.np8
      have e:cntI (cV ls nl) 8=gj ls nl:=by
        have:=Rq (L:=cV ls nl) (np:=nl) (j:=8-nl) fun q h1 h2=>AY hw.1 h1 (by omega)
        rw[show nl+(8-nl)=8 by omega] at this
        rw[this,OK hw.1 fun p hp=>(HJ hok p hp).1]
      exact⟨he,h1,by omega⟩
theorem call7 (v w x:Value) (H:Hp) (n:Nat):(cal (60+1)).call 7 [v,w,x] H n=C7_0 (cal 60) KK v w x H n:=by kernel_rfl
theorem bests_says:nestBests.Says 7:=by
  intro H n v w np nj nk ps js ks nl ls a hg hw _
  obtain⟨H',n',e⟩:=bests_law (a:=a) hg hw
  exact⟨60+1,H',n',(call7 v w _ H n).trans e⟩
theorem proved:Rows.NestBestsSaid:=nestBests.said bests_says
#print axioms proved
end Go.Proofs.Ytgojjellogiglaa.spec
end
