/- Texts S21 to S76. -/
import Derived.Test.YtmpnblcfpdnlmaaB1
section
namespace Go.Proofs.Ytmpnblcfpdnlmaa.spec
open Go.Ev Go.Proofs.Ytmpnblcfpdnlmaa.nestFits Go.Proofs.Ytmpnblcfpdnlmaa.G
set_option maxRecDepth 100000
variable {ρ:Type}
noncomputable def zeros:List Int:=List.replicate 16 0
theorem zeros_len:zeros.length=16:=rfl
theorem zero113:zeroT P 112=some (.agg ⟨ints (nestL 0 zeros zeros)⟩):=by kernel_rfl
theorem build113 (y:Int) {L:List Int} (hL:L.length=16):buildP P 112 [(0,.int .i64 y),(1,.agg ⟨ints L⟩)]=some (.agg ⟨ints (nestL y L zeros)⟩):=by
  match L,hL with
  | [a0,a1,a2,a3,a4,a5,a6,a7,a8,a9,a10,a11,a12,a13,a14,a15],_=>
    show buildP P 112 [(0,.int .i64 y),(1,.agg ⟨ints [a0,a1,a2,a3,a4,a5,a6,a7,a8,a9,a10,a11,a12,a13,a14,a15]⟩)]=some (.agg ⟨ints (nestL y [a0,a1,a2,a3,a4,a5,a6,a7,a8,a9,a10,a11,a12,a13,a14,a15] zeros)⟩)
    kernel_rfl
theorem res115 (H:Hp) (b:Nat):resV P (Tr.set Tr.nil 4 (some (.pointer (some ⟨b,0,none⟩)))) H results115=(match loadV P H 112 ⟨b,0,none⟩ with
  | none=>none
  | some v=>some [v]):=by kernel_rfl
theorem nest_set {y a b:Int} {L B:List Int} (hL:L.length=16) (j:Nat):((nestL y L B).set (17+j) a).set (17+j+1) b=nestL y L ((B.set j a).set (j+1) b):=by
  unfold nestL
  rw[show 17+j=(16+j)+1 by omega,List.set_cons_succ,List.set_cons_succ,List.set_append_right _ _ (by omega),List.set_append_right _ _ (by omega),hL]
  rw[show 16+j-16=j by omega,show 16+j+1-16=j+1 by omega]
def BoundsTo (y:Int) (L B:List Int) (i:Nat):Prop:=B.length=16∧∀ p,p<i→B.getD (p * 2) 0=ext y L 0 p∧B.getD (p * 2+1) 0=ext y L 1 p
theorem BoundsTo.next {y:Int} {L B:List Int} {i:Nat} (h:BoundsTo y L B i) (hi:i<8):BoundsTo y L ((B.set (i * 2) (ext y L 0 i)).set (i * 2+1) (ext y L 1 i)) (i+1):=by
  obtain⟨h1,h2⟩:=h
  refine⟨by simp [h1],fun p hp=>?_⟩
  simp only[List.getD_eq_getElem?_getD,List.getElem?_set,List.length_set,h1]
  by_cases e:p=i
  · subst e
    rw[if_neg (show ¬ p * 2+1=p * 2 by omega),if_pos rfl,if_pos (show p * 2<16 by omega),if_pos rfl,if_pos (show p * 2+1<16 by omega)]
    exact⟨rfl,rfl⟩
  · obtain⟨g1,g2⟩:=h2 p (by omega)
    rw[List.getD_eq_getElem?_getD] at g1 g2
    rw[if_neg (by omega),if_neg (by omega),if_neg (by omega),if_neg (by omega)]
    exact⟨g1,g2⟩
theorem newNest_loop (l k:Nat) {y:Int} {L:List Int} (hL:L.length=16) (hb:Bounded L) (hy:0≤y∧y≤1000) (b4 b5:Nat) (hne:b4≠b5):∀(m i:Nat) (B:List Int) (w:List Value) (H:Hp) (n:Nat),b4<n→b5<n →
    H.get b5=some (.cells (ints (nestL y L B)) 112 false none)→H.get b4=some (.cells w 112 false none)→w.length=33→BoundsTo y L B i→i≤8→8-i≤m →
    ∃ B' H' n',S115_1 (cal (l+3)) k m (.pointer (some ⟨b4,0,none⟩)) (.pointer (some ⟨b5,0,none⟩)) (.int .i64 i) H n=some (.agg ⟨ints (nestL y L B')⟩,H',n')∧BoundsTo y L B' 8:=by
  have body:∀(b1:Value→Value→Value→Hp→Nat→Res) (m i:Nat) (B:List Int) (w:List Value) (H:Hp) (n:Nat),b4<n→b5<n →
      H.get b5=some (.cells (ints (nestL y L B)) 112 false none)→H.get b4=some (.cells w 112 false none)→w.length=33→BoundsTo y L B i→i≤8 →
      (∀ B2 H2 n2,b4<n2→b5<n2→H2.get b5=some (.cells (ints (nestL y L B2)) 112 false none)→H2.get b4=some (.cells w 112 false none)→BoundsTo y L B2 (i+1)→i<8 →
        ∃ B' H' n',b1 (.pointer (some ⟨b4,0,none⟩)) (.pointer (some ⟨b5,0,none⟩)) (.int .i64 ((i+1:Nat):Int)) H2 n2=some (.agg ⟨ints (nestL y L B')⟩,H',n')∧BoundsTo y L B' 8) →
      ∃ B' H' n',C115_1 (cal (l+3)) k m b1 (.pointer (some ⟨b4,0,none⟩)) (.pointer (some ⟨b5,0,none⟩)) (.int .i64 i) H n=some (.agg ⟨ints (nestL y L B')⟩,H',n')∧BoundsTo y L B' 8:=by
    intro b1 m i B w H n hb4 hb5 hg5 hg4 hw hB hi ih
    have lens:(ints (nestL y L B)).length=33:=by rw[ints_length,nest_cells hL hB.1]
    have hld:=load_all hg5 agg113 sz113 lens
    unfold C115_1 B115_1
    rw[binK_some bin_lss,ifK_d]
    by_cases hlt:i<8
    · rw[if_pos (by omega),addrV_eq,bindO_some,hld,bindO_some,bindO_some,hld,bindO_some,fa113_2,bindO_some]
      obtain⟨H1,n1,e1,f1,g1⟩:=effK_grow (P:=P) (ρ:=Value × Hp × Nat) (ex:=[.l 112 ⟨b5,0,none⟩,.l 112 ⟨b5,0,none⟩]) (H:=H) (n:=n) (v:=endV 0)
        (op:=fun H n k=>callFK P (cal (l+3)) 121 [] H n fun v H n=>k v H n)
        (fun q hq=>by simp only[List.mem_cons,List.not_mem_nil,or_false,or_self] at hq; subst hq; exact⟨_,_,rfl,hb5,.inl ⟨_,_,_,_,hg5⟩⟩)
        (fun Hm=>by obtain⟨H',n',h1,h2,h3⟩:=lowEnd_call (ρ:=Value × Hp × Nat) (l+2) Hm n; exact⟨H',n',fun k=>h1 _,h2,h3⟩)
      rw[e1]
      have k5:H1.get b5=some (.cells (ints (nestL y L B)) 112 false none):=(g1 b5 hb5).trans hg5
      have k4:H1.get b4=some (.cells w 112 false none):=(g1 b4 hb4).trans hg4
      obtain⟨H2,s2,e2⟩:=effK_still (P:=P) (ρ:=Value × Hp × Nat) (ex:=[.l 112 ⟨b5,0,none⟩]) (H:=H1) (n:=n1) (v:=.int .i64 (ext y L 0 i))
        (op:=fun H n k=>callFK P (cal (l+3)) 120 [.agg ⟨ints (nestL y L B)⟩,.int .i64 i,endV 0] H n fun v H n=>k v H n)
        ⟨fun q hq=>.inl (by simp only[List.mem_cons,List.not_mem_nil,or_false] at hq; subst hq; exact⟨_,_,rfl,.inl ⟨_,_,_,_,k5⟩⟩),fun t a id c e h1 h2=>by simp at h2⟩
        (fun H k=>extreme_call l (by omega) hL hB.1 hb hy hlt H _ _)
      rw[e2]
      have j5:H2.get b5=some (.cells (ints (nestL y L B)) 112 false none):=(s2 b5).trans k5
      have j4:H2.get b4=some (.cells w 112 false none):=(s2 b4).trans k4
      obtain⟨H3,n3,e3,f3,g3⟩:=effK_grow (P:=P) (ρ:=Value × Hp × Nat) (ex:=[.l 112 ⟨b5,0,none⟩]) (H:=H2) (n:=n1) (v:=endV 1)
        (op:=fun H n k=>callFK P (cal (l+3)) 122 [] H n fun v H n=>k v H n)
        (fun q hq=>by simp only[List.mem_cons,List.not_mem_nil,or_false] at hq; subst hq; exact⟨_,_,rfl,by show b5<n1; omega,.inl ⟨_,_,_,_,j5⟩⟩)
        (fun Hm=>by obtain⟨H',n',h1,h2,h3⟩:=highEnd_call (ρ:=Value × Hp × Nat) (l+2) Hm n1; exact⟨H',n',fun k=>h1 _,h2,h3⟩)
      rw[e3,extreme_call l (by omega) hL hB.1 hb hy hlt,build53,bindO_some,at111 b5 (0+17) hlt,bindO_some,store53]
      have i5:H3.get b5=some (.cells (ints (nestL y L B)) 112 false none):=(g3 b5 (by omega)).trans j5
      have i4:H3.get b4=some (.cells w 112 false none):=(g3 b4 (by omega)).trans j4
      rw[show 0+17+i * 2=17+i * 2 by omega,store_two i5 (by rw[nest_cells hL hB.1]; omega),nest_set hL,bindO_some]
      have hI:I64 ((i:Int)+1):=by unfold I64; omega
      have hcast:((i:Int)+1)=((i+1:Nat):Int):=by omega
      rw[binK_some (bin_add hI),hcast]
      exact ih _ _ n3 (by omega) (by omega) (by rw[Tr.get_set,if_pos rfl]) (by rw[Tr.get_set,if_neg hne]; exact i4) (hB.next hlt) hlt
    · rw[if_neg (by omega),addrV_eq,bindO_some,hld,bindO_some,storeP_agg sz113 lens,storeN_all hg4 (by rw[lens,hw]) (ints_leaf _),bindO_some,res115]
      have hgw:(H.set b4 (some (.cells (ints (nestL y L B)) 112 false none))).get b4=some (.cells (ints (nestL y L B)) 112 false none):=by rw[Tr.get_set,if_pos rfl]
      rw[load_all hgw agg113 sz113 lens]
      have hi':i=8:=by omega
      subst hi'
      exact⟨B,_,_,rfl,hB⟩
  intro m
  induction m with
  | zero=>
    intro i B w H n h1 h2 h3 h4 h5 h6 h7 h8
    exact body _ 0 i B w H n h1 h2 h3 h4 h5 h6 h7 (fun _ _ _ _ _ _ _ _ h=>by omega)
  | succ m ih=>
    intro i B w H n h1 h2 h3 h4 h5 h6 h7 h8
    exact body _ (m+1) i B w H n h1 h2 h3 h4 h5 h6 h7 (fun B2 H2 n2 q1 q2 q3 q4 q5 q6=>ih (i+1) B2 w H2 n2 q1 q2 q3 q4 h5 q5 (by omega) (by omega))
theorem newNest_spec (l:Nat) {y:Int} {L:List Int} (hL:L.length=16) (hb:Bounded L) (hy:0≤y∧y≤1000) :
    ∃ B H' n',C115_0 (cal (l+3)) KK (.int .i64 y) (.agg ⟨ints L⟩) .nil 0=some (.agg ⟨ints (nestL y L B)⟩,H',n')∧BoundsTo y L B 8:=by
  unfold C115_0 B115_0
  rw[boxK_eq,allocK_eq zero113]
  have hg0:(((Tr.nil:Hp).set 0 (some (.cells (ints L) 110 false none))).set (0+1) (some (.cells (ints (nestL 0 zeros zeros)) 112 false none))).get 0=some (.cells (ints L) 110 false none):=by rw[Tr.get_set,if_neg (by omega),Tr.get_set,if_pos rfl]
  have hg1:(((Tr.nil:Hp).set 0 (some (.cells (ints L) 110 false none))).set (0+1) (some (.cells (ints (nestL 0 zeros zeros)) 112 false none))).get 1=some (.cells (ints (nestL 0 zeros zeros)) 112 false none):=by rw[Tr.get_set,if_pos rfl]
  simp only[cellsV,ptr]
  generalize ((Tr.nil:Hp).set 0 (some (.cells (ints L) 110 false none))).set (0+1) (some (.cells (ints (nestL 0 zeros zeros)) 112 false none))=H1 at hg0 hg1 ⊢
  have hl:=load_all hg0 agg111 sz111 (by rw[ints_length,hL])
  rw[addrV_eq,bindO_some,hl,bindO_some,build113 y hL,bindO_some]
  have lens:(ints (nestL y L zeros)).length=33:=by rw[ints_length,nest_cells hL zeros_len]
  obtain⟨H2,k1,k2,k3⟩:=spill (P:=P) (ρ:=Value × Hp × Nat) (H:=H1) (n:=0+1+1) (L:=ints (nestL y L zeros)) zero113 (by show(ints (nestL 0 zeros zeros)).length=33; rw[ints_length,nest_cells zeros_len zeros_len]) sz113 lens (ints_leaf _)
  rw[k3]
  exact newNest_loop l KK hL hb hy 1 2 (by omega) KK 0 zeros (ints (nestL 0 zeros zeros)) H2 3 (by omega) (by omega) k2 ((k1 1 (by omega)).trans hg1) (by rw[ints_length,nest_cells zeros_len zeros_len]) ⟨rfl,fun p hp=>by omega⟩ (by omega) (by unfold KK; omega)
theorem flat115:flatF P 115=true:=by kernel_rfl
theorem call115 (l:Nat) (a b:Value) (H:Hp) (n:Nat):(cal (l+1)).call 115 [a,b] H n=C115_0 (cal l) KK a b H n:=
  (show(cal (l+1)).call 115 [a,b] H n=quick ent115 (cal l) [a,b] H n by kernel_rfl).trans (quick_eq ..)
theorem newNest_call (l:Nat) {y:Int} {L:List Int} (hL:L.length=16) (hb:Bounded L) (hy:0≤y∧y≤1000):∃ B,BoundsTo y L B 8∧∀(H:Hp) (n:Nat) (k:Value→Hp→Nat→Option ρ),
    callFK P (cal (l+4)) 115 [.int .i64 y,.agg ⟨ints L⟩] H n k=k (.agg ⟨ints (nestL y L B)⟩) H n:=by
  obtain⟨B,H',n',h,hB⟩:=newNest_spec l hL hb hy
  refine⟨B,hB,fun H n k=>callFK_pure flat115 ?_ ((call115 ..).trans h) ?_⟩
  · simp only[pureL,pureV,pureA,pure_ints,Bool.and_self]
  · simp only[pureV,pureA,pure_ints]
end Go.Proofs.Ytmpnblcfpdnlmaa.spec
end
section
namespace Go.Proofs.Ytmpnblcfpdnlmaa.spec
open Go Go.Ev Go.Proofs.Ytmpnblcfpdnlmaa.nestFits Go.Proofs.Ytmpnblcfpdnlmaa.G
set_option maxRecDepth 100000
variable {ρ:Type}
noncomputable def code97:Code:=codeOf 97
noncomputable def results97:List ResultVar:=resOf 97
noncomputable def asgOf:Code→Code
  | .rangeFunc _ _ a _=>a
  | _=>.skip
noncomputable def bodOf:Code→Code
  | .rangeFunc _ _ _ b=>b
  | _=>.skip
noncomputable def asg97:Code:=asgOf (cL (cR (cL (cR (cR code97)))))
noncomputable def bod97:Code:=bodOf (cL (cR (cL (cR (cR code97)))))
noncomputable def K97 (c:Cal) (k:Nat):KC (Value × Hp × Nat):=codeE P c (codeF P c k) none 97 (cR (cR (cR code97))) .leaf (doneK P results97) X0 (doneK P results97)
noncomputable def T97 (v0 v1 v2 v5 v6 v7 v11:Value):Tm:=(((((((((Tr.nil:Tm).set 0 (some v0)).set 1 (some v1)).set 2 (some v2)).set 5 (some v5)).set 6 (some v6)).set 7 (some v7)).set 9 (some v0)).set 10 (some v1)).set 11 (some v11)
theorem pre97 (c:Cal) (k:Nat) (v0 v1 v2:Value) (H:Hp) (n:Nat):bodyE P c A (k+1) 97 [v0,v1,v2] H n =
    (boxK 86 v2 H n fun v5 H n=>allocK P 112 H n fun v6 H n=>allocK P 110 H n fun v7 H n=>callFK P c 113 [v0,v1] H n fun v11 H n=>
      rangeK P c none 97 v11 #[12] asg97 bod97 (K97 c k) (upX 0 (K97 c k) X0) (doneK P results97) (T97 v0 v1 v2 v5 v6 v7 v11) H n []):=by
  rw[body_eq (fn:=Go.Proofs.Try.f97) (c:=code97) (rs:=results97) (by kernel_rfl) (by kernel_rfl) (by kernel_rfl) (by kernel_rfl)]
  kernel_rfl
theorem post97 (c:Cal) (k:Nat) (v0 v1 v2 v5 v6 v7 v11:Value) (H:Hp) (n:Nat) (D:List Nat):K97 c k (T97 v0 v1 v2 v5 v6 v7 v11) H n D =
    (bindO (fieldAddrV P 86 v5 1) fun v18=>bindO (addrV v18) fun a=>bindO (loadV P H 53 a) fun v19=>bindO (indexAddrV P 110 v7 v1) fun v20=>bindO (storeP P 53 v20 v19 H) fun H=>
      bindO (fieldAddrV P 86 v5 0) fun v21=>bindO (addrV v21) fun a=>bindO (loadV P H 3 a) fun v22=>bindO (addrV v7) fun a=>bindO (loadV P H 110 a) fun v23=>callFK P c 115 [v22,v23] H n fun v24 H n=>
      bindO (storeP P 112 v6 v24 H) fun H=>getK (takeD H D) fun H=>bindO (resV P ((Tr.nil:Tm).set 6 (some v6)) H results97) fun vs=>some (oneV vs,H,n)):=by
  kernel_rfl
theorem call97 (l:Nat) (a b c:Value) (H:Hp) (n:Nat):(cal (l+1)).call 97 [a,b,c] H n=bodyE P (cal l) A (KK+1) 97 [a,b,c] H n:=by kernel_rfl
theorem asg97_eq (l lp:Nat) (v0 v1 v2 v5 v6 v7 v11 p:Value) (H:Hp) (n:Nat) :
    (cal (l+1)).body lp 97 asg97 { T:=(T97 v0 v1 v2 v5 v6 v7 v11).set 12 (some p),H,n,D:=[] }=some (.norm,{ T:=((T97 v0 v1 v2 v5 v6 v7 v11).set 12 (some p)).set 8 (some p),H,n,D:=[] }):=by kernel_rfl
theorem bod97_eq (l lp:Nat) (v0 v1 v2 v5 v6 v7 v11 p:Value) (H:Hp) (n:Nat) :
    (cal (l+1)).body lp 97 bod97 { T:=((T97 v0 v1 v2 v5 v6 v7 v11).set 12 (some p)).set 8 (some p),H,n,D:=[] } =
      (bindO (fieldAddrV P 86 v5 2) fun v14=>bindO (addrV v14) fun a=>bindO (loadV P H 53 a) fun v15=>bindO (indexAddrV P 110 v7 p) fun v16=>bindO (storeP P 53 v16 v15 H) fun H'=>
        some (.norm,{ T:=((((((T97 v0 v1 v2 v5 v6 v7 v11).set 12 (some p)).set 8 (some p)).set 13 (some p)).set 14 (some v14)).set 15 (some v15)).set 16 (some v16),H:=H',n,D:=[] })):=by kernel_rfl
theorem res97 (H:Hp) (b:Nat):resV P ((Tr.nil:Tm).set 6 (some (.pointer (some ⟨b,0,none⟩)))) H results97=(match loadV P H 112 ⟨b,0,none⟩ with
  | none=>none
  | some v=>some [v]):=by kernel_rfl
theorem ntm97:ntm P 97=25:=by kernel_rfl
end Go.Proofs.Ytmpnblcfpdnlmaa.spec
end
section
namespace Go.Proofs.Ytmpnblcfpdnlmaa.spec
open Go Go.Ev Go.Proofs.Ytmpnblcfpdnlmaa.nestFits Go.Proofs.Ytmpnblcfpdnlmaa.G
set_option maxRecDepth 100000
variable {ρ:Type}
theorem agg105:isAggT P 104=some false:=by kernel_rfl
theorem agg4:isAggT P 4=some false:=by kernel_rfl
theorem und109:P.underlying 108=some (.array 8 107):=by kernel_rfl
theorem und108:P.underlying 107=some (.array 8 4):=by kernel_rfl
theorem sz108:szT P 107=some 8:=by kernel_rfl
theorem sz4:szT P 4=some 1:=by kernel_rfl
theorem fa117_0 (b o:Nat):fieldAddrV P 116 (.pointer (some ⟨b,o,none⟩)) 0=some (.pointer (some ⟨b,o+0,none⟩)):=by kernel_rfl
theorem fa117_1 (b o:Nat):fieldAddrV P 116 (.pointer (some ⟨b,o,none⟩)) 1=some (.pointer (some ⟨b,o+3,none⟩)):=by kernel_rfl
theorem fa117_2 (b o:Nat):fieldAddrV P 116 (.pointer (some ⟨b,o,none⟩)) 2=some (.pointer (some ⟨b,o+67,none⟩)):=by kernel_rfl
theorem idx_lt {i n:Nat} (hi:i<n):idxIn (.int .i64 (i:Int)) n=some i:=by
  show idxIn (.int .i64 (.ofNat i)) n=some i
  simp [idxIn,hi]
theorem at109 (b o:Nat) {i:Nat} (hi:i<8):indexAddrV P 108 (.pointer (some ⟨b,o,none⟩)) (.int .i64 i)=some (.pointer (some ⟨b,o+i * 8,none⟩)):=by
  unfold indexAddrV
  simp only[und109,idx_lt hi,sz108]
  rfl
theorem at108 (b o:Nat) {i:Nat} (hi:i<8):indexAddrV P 107 (.pointer (some ⟨b,o,none⟩)) (.int .i64 i)=some (.pointer (some ⟨b,o+i * 1,none⟩)):=by
  unfold indexAddrV
  simp only[und108,idx_lt hi,sz4]
  rfl
theorem nil_ptr (a:Addr):nilV (.pointer (some a))=some (.pointer (some a)):=rfl
theorem guardD_tt {op:KD ρ→Option ρ} {ex:Extra} {H:Hp} {n:Nat} {k:KD ρ}:guardD (.bool true) true op ex H n k=op k:=rfl
theorem guardD_ft {op:KD ρ→Option ρ} {ex:Extra} {H:Hp} {n:Nat} {k:KD ρ}:guardD (.bool false) true op ex H n k=k undef ex H n:=rfl
structure Reads (H:Hp) (pb sb g:Nat) (x:Value) (pad:Nat) (near:Nat→Bool):Prop where
  pad_:loadV P H 3 ⟨pb,0,none⟩=some (.int .i64 pad)
  site:loadV P H 104 ⟨sb,0,none⟩=some (.pointer (some ⟨g,0,none⟩))
  pads:loadV P H 31 ⟨g,0+0+0,none⟩=some x
  near_:∀ b,b<8→loadV P H 4 ⟨g,0+3+pad * 8+b * 1,none⟩=some (.bool (near b))
theorem iter_loop (c:Cal) (k:Nat) (yv:Value) (pb sb g pad np:Nat) (x:Value) (near:Nat→Bool) (hpad:pad<8) (hnp:np≤8) (Inv:List Nat→Hp→Nat→Prop) (hR:∀ ps H n,Inv ps H n→Reads H pb sb g x pad near)
    (hY:∀(ps:List Nat) (p:Nat) (H:Hp) (n:Nat),Inv ps H n→p<8→∃ H' n',(∀ k:Value→Hp→Nat→Res,callVK P c yv [.int .i64 p] H n k=k (.bool true) H' n')∧Inv (ps++[p]) H' n') (ps0:List Nat):∀(m i:Nat) (H:Hp) (n:Nat),
    Inv (ps0++(List.range i).filter near) H n→i≤np→np-i≤m →
    ∃ H' n',S119_1 c k m yv (.pointer (some ⟨pb,0,none⟩)) (.pointer (some ⟨sb,0,none⟩)) (.int .i64 np) (.int .i64 i) H n=some (.tuple ⟨[]⟩,H',n')∧Inv (ps0++(List.range np).filter near) H' n':=by
  have body:∀(b1:Value→Value→Value→Value→Value→Hp→Nat→Res) (m i:Nat) (H:Hp) (n:Nat),Inv (ps0++(List.range i).filter near) H n→i≤np →
      (∀ H' n',Inv (ps0++(List.range (i+1)).filter near) H' n'→i<np→∃ H2 n2,b1 yv (.pointer (some ⟨pb,0,none⟩)) (.pointer (some ⟨sb,0,none⟩)) (.int .i64 np) (.int .i64 ((i+1:Nat):Int)) H' n'=some (.tuple ⟨[]⟩,H2,n2)∧Inv (ps0++(List.range np).filter near) H2 n2) →
      ∃ H' n',C119_1 c k m b1 yv (.pointer (some ⟨pb,0,none⟩)) (.pointer (some ⟨sb,0,none⟩)) (.int .i64 np) (.int .i64 i) H n=some (.tuple ⟨[]⟩,H',n')∧Inv (ps0++(List.range np).filter near) H' n':=by
    intro b1 m i H n hI hi ih
    unfold C119_1 B119_1
    rw[binK_some bin_lss,ifK_d]
    by_cases hlt:i<np
    · obtain⟨r1,r2,r3,r4⟩:=hR _ _ _ hI
      have hi8:i<8:=by omega
      have hb:=r4 i hi8
      have hI1:I64 ((i:Int)+1):=by unfold I64; omega
      have hcast:((i:Int)+1)=((i+1:Nat):Int):=by omega
      rw[if_pos (by omega),addrV_eq,bindO_some,r2,bindO_some,addrV_eq,bindO_some,r1,bindO_some,nil_ptr,bindO_some,fa117_1,bindO_some,at109 _ _ hpad,bindO_some,at108 _ _ hi8,bindO_some,addrV_eq,bindO_some,hb,bindO_some]
      cases hn:near i with
      | true=>
        obtain⟨H1,n1,e1,e2⟩:=hY _ i _ _ hI hi8
        simp only[guardD_tt,e1,not_t,bindO_some,pickV_t,ifK_f,binK_some (bin_add hI1),hcast]
        refine ih H1 n1 ?_ hlt
        rw[List.range_succ,List.filter_append,← List.append_assoc]
        simp only[List.filter_cons,hn,if_true,List.filter_nil]
        exact e2
      | false=>
        simp only[guardD_ft,pickV_f,bindO_some,ifK_f,binK_some (bin_add hI1),hcast]
        refine ih H n ?_ hlt
        rw[List.range_succ,List.filter_append]
        simp only[List.filter_cons,hn,List.filter_nil,Bool.false_eq_true,if_false,List.append_nil]
        exact hI
    · rw[if_neg (by omega)]
      have hi':i=np:=by omega
      subst hi'
      exact⟨H,n,rfl,hI⟩
  intro m
  induction m with
  | zero=>
    intro i H n h1 h2 h3
    exact body _ 0 i H n h1 h2 (fun _ _ _ h=>by omega)
  | succ m ih=>
    intro i H n h1 h2 h3
    exact body _ (m+1) i H n h1 h2 (fun H' n' q1 q2=>ih (i+1) H' n' q1 (by omega) (by omega))
theorem iter_spec (c:Cal) (yv:Value) (pb sb g pad np:Nat) (x:Value) (near:Nat→Bool) (hpad:pad<8) (hnp:np≤8) (hx:lenV P 31 x=some (.int .i64 np)) (Inv:List Nat→Hp→Nat→Prop) (hR:∀ ps H n,Inv ps H n→Reads H pb sb g x pad near)
    (hY:∀(ps:List Nat) (p:Nat) (H:Hp) (n:Nat),Inv ps H n→p<8→∃ H' n',(∀ k:Value→Hp→Nat→Res,callVK P c yv [.int .i64 p] H n k=k (.bool true) H' n')∧Inv (ps++[p]) H' n') {H:Hp} {n:Nat} (h0:Inv [] H n) :
    ∃ H' n',C119_0 c KK yv (.pointer (some ⟨pb,0,none⟩)) (.pointer (some ⟨sb,0,none⟩)) H n=some (.tuple ⟨[]⟩,H',n')∧Inv (pad::(List.range np).filter near) H' n':=by
  unfold C119_0 B119_0
  generalize hS:S119_1 c KK KK=S
  obtain⟨r1,_,_,_⟩:=hR _ _ _ h0
  obtain⟨H1,n1,e1,e2⟩:=hY _ pad _ _ h0 hpad
  obtain⟨_,r2,r3,_⟩:=hR _ _ _ e2
  rw[addrV_eq,bindO_some,r1,bindO_some,e1,not_t,bindO_some,ifK_f,addrV_eq,bindO_some,r2,bindO_some,nil_ptr,bindO_some,fa117_0,bindO_some,fa35_0,bindO_some,addrV_eq,bindO_some,r3,bindO_some,hx,bindO_some,← hS]
  exact iter_loop c KK yv pb sb g pad np x near hpad hnp Inv hR hY [pad] KK 0 H1 n1 e2 (by omega) (by unfold KK; omega)
def fillS (lo hi:Int) (ps:List Nat):List Int:=ps.foldl (fun X p=>(X.set (p * 2) lo).set (p * 2+1) hi) (List.replicate 16 0)
theorem fillS_snoc (lo hi:Int) (ps:List Nat) (p:Nat):fillS lo hi (ps++[p])=((fillS lo hi ps).set (p * 2) lo).set (p * 2+1) hi:=by
  unfold fillS; rw[List.foldl_append]; rfl
theorem set_two_len (X:List Int) (j:Nat) (a b:Int):((X.set j a).set (j+1) b).length=X.length:=by simp
theorem fillS_len (lo hi:Int) (ps:List Nat):(fillS lo hi ps).length=16:=by
  have:∀(ps:List Nat) (X:List Int),(ps.foldl (fun X p=>(X.set (p * 2) lo).set (p * 2+1) hi) X).length=X.length:=by
    intro ps
    induction ps with
    | nil=>intro X; rfl
    | cons p ps ih=>intro X; rw[List.foldl_cons,ih,set_two_len]
  exact this ps _
theorem set_two_get {X:List Int} (hX:X.length=16) {p q:Nat} (hp:p<8) (a b:Int):(((X.set (p * 2) a).set (p * 2+1) b).getD (q * 2) 0=if q=p then a else X.getD (q * 2) 0) ∧
    (((X.set (p * 2) a).set (p * 2+1) b).getD (q * 2+1) 0=if q=p then b else X.getD (q * 2+1) 0):=by
  simp only[List.getD_eq_getElem?_getD,List.getElem?_set,List.length_set,hX]
  by_cases e:q=p
  · subst e
    rw[if_neg (show ¬ q * 2+1=q * 2 by omega),if_pos rfl,if_pos (show q * 2<16 by omega),if_pos rfl,if_pos rfl,if_pos (show q * 2+1<16 by omega),if_pos rfl]
    exact⟨rfl,rfl⟩
  · rw[if_neg (show ¬ p * 2+1=q * 2 by omega),if_neg (show ¬ p * 2=q * 2 by omega),if_neg e,if_neg (show ¬ p * 2+1=q * 2+1 by omega),if_neg (show ¬ p * 2=q * 2+1 by omega),if_neg e]
    exact⟨rfl,rfl⟩
theorem fillS_get (lo hi:Int) (q:Nat) (ps:List Nat) (h:∀ p ∈ ps,p<8):(fillS lo hi ps).getD (q * 2) 0=(if q ∈ ps then lo else 0)∧(fillS lo hi ps).getD (q * 2+1) 0=(if q ∈ ps then hi else 0):=by
  have key:∀(ps:List Nat) (X:List Int),X.length=16→(∀ p ∈ ps,p<8)→(ps.foldl (fun X p=>(X.set (p * 2) lo).set (p * 2+1) hi) X).getD (q * 2) 0=(if q ∈ ps then lo else X.getD (q * 2) 0) ∧
      (ps.foldl (fun X p=>(X.set (p * 2) lo).set (p * 2+1) hi) X).getD (q * 2+1) 0=(if q ∈ ps then hi else X.getD (q * 2+1) 0):=by
    intro ps
    induction ps with
    | nil=>intro X _ _; exact⟨rfl,rfl⟩
    | cons p ps ih=>
      intro X hX hp
      obtain⟨h1,h2⟩:=ih ((X.set (p * 2) lo).set (p * 2+1) hi) (by rw[set_two_len]; exact hX) (fun p' hp'=>hp p' (List.mem_cons_of_mem _ hp'))
      obtain⟨g1,g2⟩:=set_two_get (q:=q) hX (hp p List.mem_cons_self) lo hi
      rw[List.foldl_cons,h1,h2,g1,g2]
      by_cases e:q=p <;> by_cases e2:q ∈ ps <;> simp [e,e2]
  have z:∀ k:Nat,(List.replicate 16 (0:Int)).getD k 0=0:=by
    intro k
    rw[List.getD_eq_getElem?_getD,List.getElem?_replicate]
    split <;> rfl
  have:=key ps (List.replicate 16 0) rfl h
  rw[z,z] at this
  exact this
end Go.Proofs.Ytmpnblcfpdnlmaa.spec
end
section
namespace Go.Proofs.Ytmpnblcfpdnlmaa.spec
open Go Go.Ev Go.Proofs.Ytmpnblcfpdnlmaa.nestFits Go.Proofs.Ytmpnblcfpdnlmaa.G
set_option maxRecDepth 100000
variable {ρ:Type}
theorem loadK53 {H:Hp} {b:Nat} {y a1 a2 a3 a4:Int} (h:H.get b=some (.cells [.int .i64 y,.int .i64 a1,.int .i64 a2,.int .i64 a3,.int .i64 a4] 86 false none)) :
    loadV P H 53 ⟨b,0+1,none⟩=some (.agg ⟨[.int .i64 a1,.int .i64 a2]⟩)∧loadV P H 53 ⟨b,0+3,none⟩=some (.agg ⟨[.int .i64 a3,.int .i64 a4]⟩)∧loadV P H 3 ⟨b,0+0,none⟩=some (.int .i64 y):=
  ⟨loadV_agg (k:=1) (cells_at h) agg53 sz53 (by simp) rfl,loadV_agg (k:=3) (cells_at h) agg53 sz53 (by simp) rfl,loadV_int (cells_at h) agg3 rfl⟩
theorem yield97 (L:Nat) {H:Hp} {n lb b5 b7 d:Nat} {v0 v1 v2 v6 v11:Value} {y a1 a2 a3 a4:Int} {X:List Int} (hl:H.get lb=some (.loop .ready none 97 (T97 v0 v1 v2 (.pointer (some ⟨b5,0,none⟩)) v6 (.pointer (some ⟨b7,0,none⟩)) v11) (ntm P 97) #[12] asg97 bod97 d))
    (h5:H.get b5=some (.cells [.int .i64 y,.int .i64 a1,.int .i64 a2,.int .i64 a3,.int .i64 a4] 86 false none)) (h7:H.get b7=some (.cells (ints X) 110 false none)) (hX:X.length=16) (n5:b5≠lb) (n7:b7≠lb) {p:Nat} (hp:p<8) :
    ∃ H',(∀ k:Value→Hp→Nat→Option ρ,callVK P (cal (L+1)) (.func (.yield lb) #[] #[]) [.int .i64 p] H n k=k (.bool true) H' n)∧H'.get lb=H.get lb ∧
      H'.get b7=some (.cells (ints ((X.set (p * 2) a3).set (p * 2+1) a4)) 110 false none)∧∀ b,b≠lb→b≠b7→H'.get b=H.get b:=by
  have hpar:paramsT (T97 v0 v1 v2 (.pointer (some ⟨b5,0,none⟩)) v6 (.pointer (some ⟨b7,0,none⟩)) v11) (ntm P 97) (#[12]:Array Tmp).toList [.int .i64 p]=some ((T97 v0 v1 v2 (.pointer (some ⟨b5,0,none⟩)) v6 (.pointer (some ⟨b7,0,none⟩)) v11).set 12 (some (.int .i64 p))):=by
    rw[ntm97]; rfl
  generalize hT:T97 v0 v1 v2 (.pointer (some ⟨b5,0,none⟩)) v6 (.pointer (some ⟨b7,0,none⟩)) v11=T at hl hpar
  have hrdy:isReady H lb=true:=by unfold isReady; rw[hl]
  have hpen:pendingOf H lb=none:=by unfold pendingOf; rw[hl]
  have hbusy:setLoop H lb .busy none=some (H.set lb (some (.loop .busy none 97 T (ntm P 97) #[12] asg97 bod97 d))):=by unfold setLoop; rw[hl]
  have g5:(H.set lb (some (.loop .busy none 97 T (ntm P 97) #[12] asg97 bod97 d))).get b5=some (.cells [.int .i64 y,.int .i64 a1,.int .i64 a2,.int .i64 a3,.int .i64 a4] 86 false none):=by rw[Tr.get_set,if_neg n5]; exact h5
  have g7:(H.set lb (some (.loop .busy none 97 T (ntm P 97) #[12] asg97 bod97 d))).get b7=some (.cells (ints X) 110 false none):=by rw[Tr.get_set,if_neg n7]; exact h7
  have gl:(H.set lb (some (.loop .busy none 97 T (ntm P 97) #[12] asg97 bod97 d))).get lb=some (.loop .busy none 97 T (ntm P 97) #[12] asg97 bod97 d):=by rw[Tr.get_set,if_pos rfl]
  have ho:∀ b,b≠lb→(H.set lb (some (.loop .busy none 97 T (ntm P 97) #[12] asg97 bod97 d))).get b=H.get b:=fun b hb=>by rw[Tr.get_set,if_neg hb]
  generalize H.set lb (some (.loop .busy none 97 T (ntm P 97) #[12] asg97 bod97 d))=H1 at hbusy g5 g7 gl ho
  have hst:=store_two (a:=a3) (b:=a4) (o:=p * 2) g7 (by omega)
  have q7:(H1.set b7 (some (.cells (ints ((X.set (p * 2) a3).set (p * 2+1) a4)) 110 false none))).get b7=some (.cells (ints ((X.set (p * 2) a3).set (p * 2+1) a4)) 110 false none):=by rw[Tr.get_set,if_pos rfl]
  have ql:(H1.set b7 (some (.cells (ints ((X.set (p * 2) a3).set (p * 2+1) a4)) 110 false none))).get lb=some (.loop .busy none 97 T (ntm P 97) #[12] asg97 bod97 d):=by rw[Tr.get_set,if_neg (Ne.symm n7)]; exact gl
  have qo:∀ b,b≠lb→b≠b7→(H1.set b7 (some (.cells (ints ((X.set (p * 2) a3).set (p * 2+1) a4)) 110 false none))).get b=H.get b:=fun b hb hb7=>by rw[Tr.get_set,if_neg hb7]; exact ho b hb
  have hbody:∃ T',(cal (L+1)).body lb 97 bod97 { T:=(T.set 12 (some (.int .i64 p))).set 8 (some (.int .i64 p)),H:=H1,n,D:=[] }=some (.norm,{ T:=T',H:=H1.set b7 (some (.cells (ints ((X.set (p * 2) a3).set (p * 2+1) a4)) 110 false none)),n,D:=[] }):=by
    rw[← hT,bod97_eq,fa86_2,bindO_some,addrV_eq,bindO_some,(loadK53 g5).2.1,bindO_some,at111 b7 0 hp,bindO_some,store53,Nat.zero_add,hst,bindO_some]
    exact⟨_,rfl⟩
  generalize H1.set b7 (some (.cells (ints ((X.set (p * 2) a3).set (p * 2+1) a4)) 110 false none))=H2 at q7 ql qo hbody
  obtain⟨T',hbody⟩:=hbody
  have hasg:(cal (L+1)).body lb 97 asg97 { T:=T.set 12 (some (.int .i64 p)),H,n,D:=[] }=some (.norm,{ T:=(T.set 12 (some (.int .i64 p))).set 8 (some (.int .i64 p)),H,n,D:=[] }):=by
    rw[← hT]; exact asg97_eq ..
  have hend:setLoop H2 lb .ready none=some (H2.set lb (some (.loop .ready none 97 T (ntm P 97) #[12] asg97 bod97 d))):=by unfold setLoop; rw[ql]
  refine⟨H2.set lb (some (.loop .ready none 97 T (ntm P 97) #[12] asg97 bod97 d)),fun k=>?_,by rw[Tr.get_set,if_pos rfl,hl],by rw[Tr.get_set,if_neg n7]; exact q7,fun b hb hb7=>by rw[Tr.get_set,if_neg hb]; exact qo b hb hb7⟩
  show stK (yieldF (fun | some l=>(cal (L+1)).body l | none=>fun _ _ _=>none) P lb [.int .i64 p] (bare H n)) k=_
  have hy:yieldF (fun | some l=>(cal (L+1)).body l | none=>fun _ _ _=>none) P lb [.int .i64 p] (bare H n)=some (.bool true,{ bare H n with H:=H2.set lb (some (.loop .ready none 97 T (ntm P 97) #[12] asg97 bod97 d)) }):=by
    unfold yieldF
    have hb:Nat.beq (ntm P 97) (ntm P 97)=true:=Nat.beq_refl _
    have hx:exCode .norm=some none:=rfl
    simp only[bare,hl,hb,hpar,hasg,hrdy,hpen,hbusy,hbody,hx,Option.isNone_none,if_true,hend]
  rw[hy]
  rfl
end Go.Proofs.Ytmpnblcfpdnlmaa.spec
end
section
namespace Go.Proofs.Ytmpnblcfpdnlmaa.spec
open Go Go.Ev Go.Proofs.Ytmpnblcfpdnlmaa.nestFits Go.Proofs.Ytmpnblcfpdnlmaa.G
set_option maxRecDepth 100000
variable {ρ:Type}
theorem zero111:zeroT P 110=some (.agg ⟨ints (List.replicate 16 0)⟩):=by kernel_rfl
theorem flat113:flatF P 113=false:=by kernel_rfl
theorem call113 (l:Nat) (a b:Value) (H:Hp) (n:Nat):(cal (l+1)).call 113 [a,b] H n=C113_0 (cal l) KK a b H n:=by kernel_rfl
theorem call119 (l:Nat) (a b c:Value) (H:Hp) (n:Nat):(cal (l+1)).call 119 [a,b,c] H n=C119_0 (cal l) KK a b c H n:=by kernel_rfl
theorem reached_call (l:Nat) (g pad:Nat) (H:Hp) (n:Nat) (k:Value→Hp→Nat→Option ρ):callFK P (cal (l+1)) 113 [.pointer (some ⟨g,0,none⟩),.int .i64 pad] H n k =
    k (.func (.func 119) ⟨[]⟩ ⟨[.pointer (some ⟨n+1,0,none⟩),.pointer (some ⟨n,0,none⟩)]⟩) ((H.set n (some (.cells [.pointer (some ⟨g,0,none⟩)] 104 false none))).set (n+1) (some (.cells [.int .i64 pad] 3 false none))) (n+2):=by
  unfold callFK
  rw[flat113,call113]
  rfl
theorem range97 (c:Cal) (a b:Value) (K:KC (Value × Hp × Nat)) (X:XC (Value × Hp × Nat)) (Kr:KC (Value × Hp × Nat)) (T:Tm) (H:Hp) (n:Nat) :
    rangeK P c none 97 (.func (.func 119) ⟨[]⟩ ⟨[a,b]⟩) #[12] asg97 bod97 K X Kr T H n [] =
      callFK P c 119 [.func (.yield (n+1)) #[] #[],a,b] ((H.set n (some .deferred)).set (n+1) (some (.loop .ready none 97 T (ntm P 97) #[12] asg97 bod97 n))) (n+2) fun _ H n'=>fin K X Kr (rangeOut (n+1) { T:=T,H,n:=n',D:=[n] }):=rfl
def sharesL (a1 a2 a3 a4:Int) (near:Nat→Bool) (np pad:Nat):List Int:=((fillS a3 a4 (pad::(List.range np).filter near)).set (pad * 2) a1).set (pad * 2+1) a2
theorem sharesL_len (a1 a2 a3 a4:Int) (near:Nat→Bool) (np pad:Nat):(sharesL a1 a2 a3 a4 near np pad).length=16:=by
  unfold sharesL; rw[set_two_len,fillS_len]
theorem sharesL_get {a1 a2 a3 a4:Int} {near:Nat→Bool} {np pad:Nat} (hnp:np≤8) (hpad:pad<8) (q:Nat) :
    (sharesL a1 a2 a3 a4 near np pad).getD (q * 2) 0=(if q=pad then a1 else if q<np∧near q=true then a3 else 0)∧(sharesL a1 a2 a3 a4 near np pad).getD (q * 2+1) 0=(if q=pad then a2 else if q<np∧near q=true then a4 else 0):=by
  unfold sharesL
  obtain⟨h1,h2⟩:=set_two_get (q:=q) (fillS_len a3 a4 (pad::(List.range np).filter near)) hpad a1 a2
  obtain⟨g1,g2⟩:=fillS_get a3 a4 q (pad::(List.range np).filter near) (by
    intro p hp
    rcases List.mem_cons.1 hp with z | z
    · omega
    · have:=List.mem_range.1 (List.mem_filter.1 z).1; omega)
  rw[h1,h2,g1,g2]
  have hm:q≠pad→(q ∈ pad::(List.range np).filter near↔q<np∧near q=true):=fun e=>by simp [e]
  by_cases e:q=pad
  · simp [e]
  · rw[if_neg e,if_neg e,if_neg e,if_neg e]
    by_cases e2:q<np∧near q=true
    · rw[if_pos ((hm e).2 e2),if_pos ((hm e).2 e2),if_pos e2,if_pos e2]; exact⟨rfl,rfl⟩
    · rw[if_neg (fun h=>e2 ((hm e).1 h)),if_neg (fun h=>e2 ((hm e).1 h)),if_neg e2,if_neg e2]; exact⟨rfl,rfl⟩
theorem sharesL_bounded {a1 a2 a3 a4:Int} {near:Nat→Bool} {np pad:Nat} (hnp:np≤8) (hpad:pad<8) (h1:okR a1 a2) (h2:okR a3 a4):Bounded (sharesL a1 a2 a3 a4 near np pad):=by
  intro k
  unfold okR at h1 h2
  by_cases hk:k<16
  · obtain⟨g1,g2⟩:=sharesL_get (a1:=a1) (a2:=a2) (a3:=a3) (a4:=a4) (near:=near) hnp hpad (k / 2)
    rcases Nat.mod_two_eq_zero_or_one k with z | z
    · rw[show k / 2 * 2=k by omega] at g1
      rw[g1]
      split
      · omega
      · split <;> omega
    · rw[show k / 2 * 2+1=k by omega] at g2
      rw[g2]
      split
      · omega
      · split <;> omega
  · rw[List.getD_eq_getElem?_getD,List.getElem?_eq_none (by rw[sharesL_len]; omega)]
    simp
theorem nestOn_spec (l:Nat) {H:Hp} {n g np pad:Nat} {f:Nat→Value} {x:Value} {near:Nat→Bool} {y a1 a2 a3 a4:Int} (hg:g<n) (hs:CellsF H g 859 116 f) (hx:f 0=x) (hlen:lenV P 31 x=some (.int .i64 np)) (hnp:np≤8) (hpad:pad<8)
    (hnear:∀ b,b<8→f (3+pad * 8+b)=.bool (near b)) (hy:0≤y∧y≤1000) (h1:okR a1 a2) (h2:okR a3 a4) :
    ∃ B,BoundsTo y (sharesL a1 a2 a3 a4 near np pad) B 8∧Ret ((cal (l+5)).call 97 [.pointer (some ⟨g,0,none⟩),.int .i64 pad,.agg ⟨[.int .i64 y,.int .i64 a1,.int .i64 a2,.int .i64 a3,.int .i64 a4]⟩] H n) n H
      (.agg ⟨ints (nestL y (sharesL a1 a2 a3 a4 near np pad) B)⟩):=by
  obtain⟨B,hB,hnest⟩:=newNest_call (ρ:=Value × Hp × Nat) l (sharesL_len a1 a2 a3 a4 near np pad) (sharesL_bounded hnp hpad h1 h2) hy
  refine⟨B,hB,?_⟩
  rw[call97,pre97]
  simp only[boxK_eq,allocK_eq zero113,allocK_eq zero111,cellsV,ptr,reached_call (l+3)]
  rw[range97]
  generalize hH1:((((H.set n (some (.cells [.int .i64 y,.int .i64 a1,.int .i64 a2,.int .i64 a3,.int .i64 a4] 86 false none))).set (n+1) (some (.cells (ints (nestL 0 zeros zeros)) 112 false none))).set (n+1+1) (some (.cells (ints (List.replicate 16 0)) 110 false none))).set (n+1+1+1) (some (.cells [.pointer (some ⟨g,0,none⟩)] 104 false none))).set (n+1+1+1+1) (some (.cells [.int .i64 pad] 3 false none))=H1
  have k1:Keep n H H1:=fun b hb=>by rw[← hH1,Tr.get_set,if_neg (by omega),Tr.get_set,if_neg (by omega),Tr.get_set,if_neg (by omega),Tr.get_set,if_neg (by omega),Tr.get_set,if_neg (by omega)]
  have q0:H1.get n=some (.cells [.int .i64 y,.int .i64 a1,.int .i64 a2,.int .i64 a3,.int .i64 a4] 86 false none):=by rw[← hH1,Tr.get_set,if_neg (by omega),Tr.get_set,if_neg (by omega),Tr.get_set,if_neg (by omega),Tr.get_set,if_neg (by omega),Tr.get_set,if_pos rfl]
  have q1:H1.get (n+1)=some (.cells (ints (nestL 0 zeros zeros)) 112 false none):=by rw[← hH1,Tr.get_set,if_neg (by omega),Tr.get_set,if_neg (by omega),Tr.get_set,if_neg (by omega),Tr.get_set,if_pos rfl]
  have q2:H1.get (n+1+1)=some (.cells (ints (List.replicate 16 0)) 110 false none):=by rw[← hH1,Tr.get_set,if_neg (by omega),Tr.get_set,if_neg (by omega),Tr.get_set,if_pos rfl]
  have q3:H1.get (n+1+1+1)=some (.cells [.pointer (some ⟨g,0,none⟩)] 104 false none):=by rw[← hH1,Tr.get_set,if_neg (by omega),Tr.get_set,if_pos rfl]
  have q4:H1.get (n+1+1+1+1)=some (.cells [.int .i64 pad] 3 false none):=by rw[← hH1,Tr.get_set,if_pos rfl]
  clear hH1
  generalize hT:T97 (.pointer (some ⟨g,0,none⟩)) (.int .i64 pad) (.agg ⟨[.int .i64 y,.int .i64 a1,.int .i64 a2,.int .i64 a3,.int .i64 a4]⟩) (.pointer (some ⟨n,0,none⟩)) (.pointer (some ⟨n+1,0,none⟩)) (.pointer (some ⟨n+1+1,0,none⟩))
    (.func (.func 119) ⟨[]⟩ ⟨[.pointer (some ⟨n+1+1+1+1,0,none⟩),.pointer (some ⟨n+1+1+1,0,none⟩)]⟩)=T
  have hc119:∀(a b c:Value) (H:Hp) (n:Nat) (k:Value→Hp→Nat→Res),pureV b=false→callFK P (cal (l+4)) 119 [a,b,c] H n k=bindO (C119_0 (cal (l+3)) KK a b c H n) fun r=>k r.1 r.2.1 r.2.2:=by
    intro a b c H n k hb
    unfold callFK
    have:(flatF P 119 && pureL [a,b,c])=false:=by simp [pureL,hb]
    rw[this,call119]
  rw[hc119 _ _ _ _ _ _ rfl]
  generalize hH2:(H1.set (n+1+1+1+2) (some .deferred)).set (n+1+1+1+2+1) (some (.loop .ready none 97 T (ntm P 97) #[12] asg97 bod97 (n+1+1+1+2)))=H2
  have r1:∀ b,b<n+1+1+1+2→H2.get b=H1.get b:=fun b hb=>by rw[← hH2,Tr.get_set,if_neg (by omega),Tr.get_set,if_neg (by omega)]
  have r2:H2.get (n+1+1+1+2)=some .deferred:=by rw[← hH2,Tr.get_set,if_neg (by omega),Tr.get_set,if_pos rfl]
  have r3:H2.get (n+1+1+1+2+1)=some (.loop .ready none 97 T (ntm P 97) #[12] asg97 bod97 (n+1+1+1+2)):=by rw[← hH2,Tr.get_set,if_pos rfl]
  clear hH2
  have hs2:∀ H3:Hp,(∀ b,b≠n+1+1+1+2+1→b≠n+1+1→H3.get b=H2.get b)→Reads H3 (n+1+1+1+1) (n+1+1+1) g x pad near:=by
    intro H3 h3
    have c3:H3.get (n+1+1+1)=some (.cells [.pointer (some ⟨g,0,none⟩)] 104 false none):=by rw[h3 _ (by omega) (by omega),r1 _ (by omega)]; exact q3
    have c4:H3.get (n+1+1+1+1)=some (.cells [.int .i64 pad] 3 false none):=by rw[h3 _ (by omega) (by omega),r1 _ (by omega)]; exact q4
    have cg:CellsF H3 g 859 116 f:=by
      obtain⟨c,e1,e2,e3⟩:=hs
      exact⟨c,by rw[h3 _ (by omega) (by omega),r1 _ (by omega),k1 _ hg]; exact e1,e2,e3⟩
    refine⟨loadV_int (o:=0) (k:=0) (cells_at c4) agg3 rfl,loadV_scalar (o:=0) (k:=0) (cells_at c3) agg105 rfl rfl rfl,?_,fun b hb=>?_⟩
    · have:=cg.load (P:=P) (k:=0) agg31 (by omega)
      rw[hx] at this; exact this
    · have:=cg.load (P:=P) (k:=3+pad * 8+b) agg4 (by omega)
      rw[hnear b hb] at this
      rw[show 0+3+pad * 8+b * 1=3+pad * 8+b by omega]
      exact this
  obtain⟨H3,n3,e3,i1,i2,i3,i4⟩:=iter_spec (cal (l+3)) (.func (.yield (n+1+1+1+2+1)) #[] #[]) (n+1+1+1+1) (n+1+1+1) g pad np x near hpad hnp hlen
    (fun ps Hc nc=>nc=n+1+1+1+2+2∧Hc.get (n+1+1+1+2+1)=some (.loop .ready none 97 T (ntm P 97) #[12] asg97 bod97 (n+1+1+1+2))∧Hc.get (n+1+1)=some (.cells (ints (fillS a3 a4 ps)) 110 false none)∧∀ b,b≠n+1+1+1+2+1→b≠n+1+1→Hc.get b=H2.get b)
    (fun ps Hc nc ⟨_,_,_,h⟩=>hs2 Hc h)
    (fun ps p Hc nc ⟨h1,h2,h3,h4⟩ hp=>by
      have h5:Hc.get n=some (.cells [.int .i64 y,.int .i64 a1,.int .i64 a2,.int .i64 a3,.int .i64 a4] 86 false none):=by rw[h4 _ (by omega) (by omega),r1 _ (by omega)]; exact q0
      rw[← hT] at h2
      obtain⟨H',y1,y2,y3,y4⟩:=yield97 (ρ:=Value × Hp × Nat) (l+2) (n:=nc) h2 h5 h3 (fillS_len _ _ _) (by omega) (by omega) hp
      refine⟨H',nc,y1,h1,?_,?_,fun b hb hb'=>(y4 b hb hb').trans (h4 b hb hb')⟩
      · rw[y2,h2,hT]
      · rw[y3,fillS_snoc])
    (H:=H2) (n:=n+1+1+1+2+2) ⟨rfl,r3,by rw[r1 _ (by omega)]; exact q2,fun _ _ _=>rfl⟩
  rw[show n+1+1+1+2=n+1+1+1+2 from rfl,e3,bindO_some]
  have hout:rangeOut (n+1+1+1+2+1) { T:=T,H:=H3,n:=n3,D:=[n+1+1+1+2] }=some (.norm,{ T:=T,H:=H3.set (n+1+1+1+2+1) (some (.loop .exhausted none 97 T (ntm P 97) #[12] asg97 bod97 (n+1+1+1+2))),n:=n3,D:=[n+1+1+1+2] }):=by
    unfold rangeOut
    simp only[i2]
  rw[hout]
  show Ret (K97 (cal (l+4)) KK T (H3.set (n+1+1+1+2+1) (some (.loop .exhausted none 97 T (ntm P 97) #[12] asg97 bod97 (n+1+1+1+2)))) n3 [n+1+1+1+2]) n H _
  generalize hH4:H3.set (n+1+1+1+2+1) (some (.loop .exhausted none 97 T (ntm P 97) #[12] asg97 bod97 (n+1+1+1+2)))=H4
  have o1:∀ b,b≠n+1+1+1+2+1→b≠n+1+1→H4.get b=H2.get b:=fun b hb hb'=>by rw[← hH4,Tr.get_set,if_neg hb]; exact i4 b hb hb'
  have o2:H4.get (n+1+1)=some (.cells (ints (fillS a3 a4 (pad::(List.range np).filter near))) 110 false none):=by rw[← hH4,Tr.get_set,if_neg (by omega)]; exact i3
  clear hH4 hout
  have o0:H4.get n=some (.cells [.int .i64 y,.int .i64 a1,.int .i64 a2,.int .i64 a3,.int .i64 a4] 86 false none):=by rw[o1 _ (by omega) (by omega),r1 _ (by omega)]; exact q0
  have o3:H4.get (n+1)=some (.cells (ints (nestL 0 zeros zeros)) 112 false none):=by rw[o1 _ (by omega) (by omega),r1 _ (by omega)]; exact q1
  have o4:H4.get (n+1+1+1+2)=some .deferred:=by rw[o1 _ (by omega) (by omega)]; exact r2
  rw[← hT,post97,fa86_1,bindO_some,addrV_eq,bindO_some,(loadK53 o0).1,bindO_some,at111 _ 0 hpad,bindO_some,store53,Nat.zero_add,store_two o2 (by rw[fillS_len]; omega),bindO_some]
  have hsh:((fillS a3 a4 (pad::(List.range np).filter near)).set (pad * 2) a1).set (pad * 2+1) a2=sharesL a1 a2 a3 a4 near np pad:=rfl
  rw[hsh]
  generalize hH5:H4.set (n+1+1) (some (.cells (ints (sharesL a1 a2 a3 a4 near np pad)) 110 false none))=H5
  have p1:∀ b,b≠n+1+1→H5.get b=H4.get b:=fun b hb=>by rw[← hH5,Tr.get_set,if_neg hb]
  have p2:H5.get (n+1+1)=some (.cells (ints (sharesL a1 a2 a3 a4 near np pad)) 110 false none):=by rw[← hH5,Tr.get_set,if_pos rfl]
  clear hH5
  have hl6:=load_all p2 agg111 sz111 (by rw[ints_length,sharesL_len])
  rw[fa86_0,bindO_some,addrV_eq,bindO_some,(loadK53 ((p1 n (by omega)).trans o0)).2.2,bindO_some,addrV_eq,bindO_some,hl6,bindO_some,hnest]
  have lens:(ints (nestL y (sharesL a1 a2 a3 a4 near np pad) B)).length=33:=by rw[ints_length,nest_cells (sharesL_len ..) hB.1]
  rw[storeP_agg sz113 lens,storeN_all ((p1 (n+1) (by omega)).trans o3) (by rw[lens,ints_length,nest_cells zeros_len zeros_len]) (ints_leaf _),bindO_some]
  generalize hH6:H5.set (n+1) (some (.cells (ints (nestL y (sharesL a1 a2 a3 a4 near np pad) B)) 112 false none))=H6
  have u1:H6.get (n+1)=some (.cells (ints (nestL y (sharesL a1 a2 a3 a4 near np pad) B)) 112 false none):=by rw[← hH6,Tr.get_set,if_pos rfl]
  have u2:∀ b,b≠n+1→H6.get b=H5.get b:=fun b hb=>by rw[← hH6,Tr.get_set,if_neg hb]
  clear hH6
  have ht:takeD H6 [n+1+1+1+2]=some (H6.set (n+1+1+1+2) none):=by
    have:H6.get (n+1+1+1+2)=some .deferred:=by rw[u2 _ (by omega),p1 _ (by omega)]; exact o4
    unfold takeD
    simp only[this]
    rfl
  rw[ht]
  show Ret (bindO (resV P ((Tr.nil:Tm).set 6 (some (.pointer (some ⟨n+1,0,none⟩)))) (H6.set (n+1+1+1+2) none) results97) fun vs=>some (oneV vs,H6.set (n+1+1+1+2) none,n3)) n H _
  rw[res97,load_all (t:=112) (s:=33) (L:=ints (nestL y (sharesL a1 a2 a3 a4 near np pad) B)) (e:=112) (vec:=none) (by rw[Tr.get_set,if_neg (by omega)]; exact u1) agg113 sz113 lens]
  refine⟨_,_,rfl,by omega,fun b hb=>?_⟩
  rw[Tr.get_set,if_neg (by omega),u2 _ (by omega),p1 _ (by omega),o1 _ (by omega) (by omega),r1 _ (by omega),k1 _ hb]
end Go.Proofs.Ytmpnblcfpdnlmaa.spec
end
section
namespace Go.Ev
open Go
variable {P:Program} {ρ:Type}
theorem effK_gen {ex:List Extra} {H:Hp} {n:Nat} {v:Value} {op:Hp→Nat→(Value→Hp→Nat→Option ρ)→Option ρ} {R:Hp→Nat→Prop}
    (hex:∀ y ∈ ex,∃ t a,y=.l t a∧((∃ c e ro vec,H.get a.block=some (.cells c e ro vec))∨∃ c,H.get a.block=some (.rows c)))
    (hop:∀ Hm,(∀ b,¬ ldOf ex b→Hm.get b=H.get b)→∃ H2 n2,(∀ k,op Hm n k=k v H2 n2)∧(∀ b,ldOf ex b→H2.get b=Hm.get b)∧R H2 n2) :
    ∃ H' H2 n2,(∀ k,effK P ex H n op k=k v H' n2)∧R H2 n2∧(∀ b,ldOf ex b→H'.get b=H.get b)∧∀ b,¬ ldOf ex b→H'.get b=H2.get b:=by
  cases ex with
  | nil=>
    obtain⟨H2,n2,h1,_,h3⟩:=hop H (fun _ _=>rfl)
    exact⟨H2,H2,n2,fun k=>by unfold effK; exact h1 k,h3,fun b ⟨_,_,h,_⟩=>(by cases h),fun _ _=>rfl⟩
  | cons y l=>
    have hl:∀ z ∈ y::l,∃ t a,z=.l t a:=fun z hz=>by obtain⟨t,a,e,_⟩:=hex z hz; exact⟨t,a,e⟩
    obtain⟨H1,e1,e2⟩:=maskX_some (ex:=y::l) (H:=H) fun z hz=>by obtain⟨t,a,e,h⟩:=hex z hz; exact .inl ⟨t,a,e,h⟩
    have hnw:∀ b,¬ nwOf (y::l) b:=fun b ⟨id,c,e,h1,_⟩=>by obtain⟨t,a,q⟩:=hl _ h1; cases q
    obtain⟨H2,n2,h1,h2,h3⟩:=hop (maskXA (y::l) H1) fun b hb=>by
      rw[(maskXA_get (H:=H1) b).2 (hnw _)]
      rcases e2 b with q | ⟨_,q⟩
      · exact q
      · exact absurd q hb
    have hsome:∀ z ∈ y::l,(∃ t a,z=.l t a∧(H2.get a.block).isSome)∨∃ id c e,z=.a id c e:=by
      intro z hz
      obtain⟨t,a,rfl,hc⟩:=hex z hz
      refine .inl ⟨t,a,rfl,?_⟩
      rw[h2 _ ⟨t,a,hz,rfl⟩,(maskXA_get (H:=H1) a.block).2 (hnw _)]
      have hs:(H.get a.block).isSome:=by rcases hc with⟨c,e,ro,vec,hc⟩ | ⟨c,hc⟩ <;> rw[hc] <;> rfl
      rcases e2 a.block with q | ⟨⟨c,e,ro,vec,_,q⟩,_⟩
      · rw[q]; exact hs
      · rw[q]; rfl
    obtain⟨H3,f1,f2,f3⟩:=backX_some (H0:=H) hsome
    have hck:chkX P (backXA (y::l) H H3) (y::l)=true:=chk_true fun z hz=>.inl (hl z hz)
    refine⟨backXA (y::l) H H3,H2,n2,fun k=>?_,h3,fun b hb=>?_,fun b hb=>?_⟩
    · unfold effK
      simp only[e1,bindO_some,h1,f1,hck]
      rfl
    · rw[(backXA_get b).2 (hnw b)]; exact f2 b hb
    · rw[(backXA_get b).2 (hnw b)]; exact f3 b hb
theorem putF_one (f:Nat→Value) (o:Nat) (v:Value) (k:Nat):putF f o [v] k=if k=o then v else f k:=by
  unfold putF
  by_cases h:k=o
  · subst h; simp
  · rw[if_neg h]
    by_cases h2:o≤k
    · rw[if_pos h2]
      have:k-o≠0:=by omega
      cases hk:k-o with
      | zero=>exact absurd hk this
      | succ m=>simp
    · rw[if_neg h2]
theorem putF_in (f:Nat→Value) (o:Nat) (vs:List Value) {j:Nat} {v:Value} (h:vs[j]?=some v):putF f o vs (o+j)=v:=by
  unfold putF
  rw[if_pos (by omega),show o+j-o=j by omega,h]
theorem putF_out (f:Nat→Value) (o:Nat) (vs:List Value) {k:Nat} (h:k<o∨o+vs.length≤k):putF f o vs k=f k:=by
  unfold putF
  by_cases h2:o≤k
  · rw[if_pos h2,List.getElem?_eq_none (by omega)]
  · rw[if_neg h2]
end Go.Ev
end
section
namespace Go.Proofs.Ytmpnblcfpdnlmaa.spec
open Go Go.Ev Go.Proofs.Ytmpnblcfpdnlmaa.nestFits Go.Proofs.Ytmpnblcfpdnlmaa.G
set_option maxRecDepth 100000
variable {ρ:Type}
theorem und115:P.underlying 114=some (.array 8 113):=by kernel_rfl
theorem und114:P.underlying 113=some (.array 3 112):=by kernel_rfl
theorem sz114:szT P 113=some 99:=by kernel_rfl
theorem at115 (b o:Nat) {i:Nat} (hi:i<8):indexAddrV P 114 (.pointer (some ⟨b,o,none⟩)) (.int .i64 i)=some (.pointer (some ⟨b,o+i * 99,none⟩)):=by
  unfold indexAddrV
  simp only[und115,idx_lt hi,sz114]
  rfl
theorem at114 (b o:Nat) {i:Nat} (hi:i<3):indexAddrV P 113 (.pointer (some ⟨b,o,none⟩)) (.int .i64 i)=some (.pointer (some ⟨b,o+i * 33,none⟩)):=by
  unfold indexAddrV
  simp only[und114,idx_lt hi,sz113]
  rfl
open Classical in
noncomputable def nearB (js:List Int) (i:Nat) (a b:Nat):Bool:=decide (∃ q,q<i∧J js a b q)
noncomputable def shP (js ks:List Int) (nj np p kd:Nat):List Int:=sharesL (ks.getD (kd * 5+1) 0) (ks.getD (kd * 5+2) 0) (ks.getD (kd * 5+3) 0) (ks.getD (kd * 5+4) 0) (nearB js nj p) np p
def NestAt (f:Nat→Value) (js ks:List Int) (nj np p kd:Nat):Prop:=∃ B,BoundsTo (ks.getD (kd * 5) 0) (shP js ks nj np p kd) B 8∧∀ j,j<33→f (67+p * 99+kd * 33+j)=.int .i64 ((nestL (ks.getD (kd * 5) 0) (shP js ks nj np p kd) B).getD j 0)
structure SiteF (f:Nat→Value) (x y z:Value) (js:List Int) (i:Nat):Prop where
  x:f 0=x
  y:f 1=y
  z:f 2=z
  near:∀ a b,a<8→b<8→f (3+a * 8+b)=.bool (nearB js i a b)
open Classical in
theorem nearB_next {js:List Int} {i A B:Nat} (hA:js[i * 2]?=some (A:Int)) (hB:js[i * 2+1]?=some (B:Int)) (a b:Nat) :
    nearB js (i+1) a b=if(a=A∧b=B)∨(a=B∧b=A) then true else nearB js i a b:=by
  have hJ:J js a b i↔(a=A∧b=B)∨(a=B∧b=A):=by
    unfold J; rw[hA,hB]; simp only[Option.some.injEq]; omega
  unfold nearB
  by_cases h:(a=A∧b=B)∨(a=B∧b=A)
  · rw[if_pos h]
    exact decide_eq_true ⟨i,by omega,hJ.2 h⟩
  · rw[if_neg h]
    congr 1
    exact propext ⟨fun⟨q,h1,h2⟩=>by
      rcases Nat.lt_or_ge q i with z | z
      · exact⟨q,z,h2⟩
      · rw[show q=i by omega] at h2
        exact absurd (hJ.1 h2) h,fun⟨q,h1,h2⟩=>⟨q,by omega,h2⟩⟩
theorem near_loop61 (c:Cal) (k:Nat) (g np nj:Nat) (js:List Int) (x y z:Value) (hnp:np≤8) (hnj:nj≤1000) (hjs:∀ i,i<nj→∃ A B:Nat,js[i * 2]?=some (A:Int)∧js[i * 2+1]?=some (B:Int)∧A<np∧B<np)
    (Q:Res→Prop) (H0:Hp) (n0:Nat) (hg:n0≤g) (hy0:SliceR H0 n0 2 y nj js) (hx:∀(H:Hp) (n:Nat) (f:Nat→Value),n0≤n→g<n→Keep n0 H0 H→CellsF H g 859 116 f→SiteF f x y z js nj →
      (∀ p kd j,p<8→kd<3→j<33→f (67+p * 99+kd * 33+j)=.int .i64 0→True)→Q (S61_2 c k k (.pointer (some ⟨g,0,none⟩)) (.int .i64 np) (.int .i64 0) H n)) (hlx:lenV P 31 x=some (.int .i64 np)) :
    ∀(m i:Nat) (H:Hp) (n:Nat) (f:Nat→Value),n0≤n→g<n→Keep n0 H0 H→CellsF H g 859 116 f→SiteF f x y z js i→i≤nj→nj-i≤m →
    Q (S61_1 c k m (.pointer (some ⟨g,0,none⟩)) y (.int .i64 nj) (.int .i64 i) H n):=by
  have body:∀(b1:Value→Value→Value→Value→Hp→Nat→Res) (m i:Nat) (H:Hp) (n:Nat) (f:Nat→Value),n0≤n→g<n→Keep n0 H0 H→CellsF H g 859 116 f→SiteF f x y z js i→i≤nj →
      (∀(H:Hp) (n:Nat) (f:Nat→Value),n0≤n→g<n→Keep n0 H0 H→CellsF H g 859 116 f→SiteF f x y z js (i+1)→i<nj→Q (b1 (.pointer (some ⟨g,0,none⟩)) y (.int .i64 nj) (.int .i64 ((i+1:Nat):Int)) H n)) →
      Q (C61_1 c k m b1 (.pointer (some ⟨g,0,none⟩)) y (.int .i64 nj) (.int .i64 i) H n):=by
    intro b1 m i H n f hn hgn hk hf hs hi ih
    unfold C61_1 B61_1
    generalize hS:S61_2 c k k=S
    rw[binK_some bin_lss,ifK_d]
    by_cases hlt:i<nj
    · rw[if_pos (by omega)]
      obtain⟨A,B,hA,hB,hA8,hB8⟩:=hjs i hlt
      have hy:=(hy0.keep hk (Nat.le_refl _)).up hn
      obtain⟨bb,o,hix,hbn,hc⟩:=hy.at_ und32 sz88 hlt
      have hl2:i * 2+2≤js.length:=by rw[hy.1]; omega
      obtain⟨u,w,hu,hw,huw⟩:=pair_at hl2
      rw[hA] at hu; rw[hB] at hw
      cases hu; cases hw
      have hld:loadV P H 88 ⟨bb,o+i * 2,none⟩=some (.agg ⟨[.int .i64 A,.int .i64 B]⟩):=by
        rw[loadV_agg hc agg88 sz88 (by rw[ints_length]; exact hl2) (ints_noHole _),huw]
      obtain⟨H1,k1,k2,k3⟩:=spill (P:=P) (ρ:=Value × Hp × Nat) (H:=H) (n:=n) (L:=[.int .i64 A,.int .i64 B]) zero88 rfl sz88 rfl rfl
      rw[hix,bindO_some,addrV_eq,bindO_some,hld,bindO_some,k3]
      have la:loadV P H1 3 ⟨n,0+0,none⟩=some (.int .i64 A):=loadV_int (cells_at k2) agg3 rfl
      have lb:loadV P H1 3 ⟨n,0+1,none⟩=some (.int .i64 B):=loadV_int (cells_at k2) agg3 rfl
      rw[fa88_0,bindO_some,addrV_eq,bindO_some,la,bindO_some,fa88_1,bindO_some,addrV_eq,bindO_some,lb,bindO_some,bindO_some,addrV_eq,bindO_some,lb,bindO_some,bindO_some,addrV_eq,bindO_some,la,bindO_some,nil_ptr,bindO_some,fa117_1,bindO_some,
        at109 _ _ (by omega),bindO_some,at108 _ _ (by omega),bindO_some,bindO_some,fa117_1,bindO_some,at109 _ _ (by omega),bindO_some]
      have hf1:=hf.keep k1 hgn
      obtain⟨H2,H2',n2,e2,⟨r1,r2,r3⟩,r4,r5⟩:=effK_gen (P:=P) (ρ:=Value × Hp × Nat) (ex:=[.l 3 ⟨n,0+0,none⟩,.l 3 ⟨n,0+1,none⟩]) (H:=H1) (n:=n+1) (v:=undef)
        (op:=fun H n k=>bindO (storeP P 4 (.pointer (some ⟨g,0+3+A * 8+B * 1,none⟩)) (.bool true) H) fun H=>k undef H n)
        (R:=fun H' n'=>n'=n+1∧CellsF H' g 859 116 (putF f (0+3+A * 8+B * 1) [.bool true])∧∀ b,b≠n→b≠g→H'.get b=H1.get b)
        (fun q hq=>by
          simp only[List.mem_cons,List.not_mem_nil,or_false] at hq
          rcases hq with rfl | rfl <;> exact⟨_,_,rfl,.inl ⟨_,_,_,_,k2⟩⟩)
        (fun Hm hm=>by
          have hld:∀ b,ldOf [.l 3 ⟨n,0+0,none⟩,.l 3 ⟨n,0+1,none⟩] b↔b=n:=fun b=>by
            constructor
            · rintro⟨t,a,h1,h2⟩
              simp only[List.mem_cons,List.not_mem_nil,or_false,Extra.l.injEq] at h1
              rcases h1 with⟨_,rfl⟩ | ⟨_,rfl⟩ <;> exact h2.symm
            · rintro rfl
              exact⟨3,⟨_,0+0,none⟩,by simp,rfl⟩
          have hmg:CellsF Hm g 859 116 f:=by
            obtain⟨c,e1,e2,e3⟩:=hf1
            exact⟨c,by rw[hm g (fun h=>by have:=(hld g).1 h; omega)]; exact e1,e2,e3⟩
          obtain⟨H',s1,s2,s3⟩:=hmg.storeN (o:=0+3+A * 8+B * 1) (vs:=[.bool true]) (by simp; omega) rfl
          refine⟨H',n+1,fun k=>by rw[storeP_leaf sz4 rfl,s1,bindO_some],fun b hb=>s3 b (by have:=(hld b).1 hb; omega),rfl,s2,fun b hb hb'=>?_⟩
          rw[s3 b hb',hm b (fun h=>hb ((hld b).1 h))])
      rw[e2,at108 _ _ (by omega),bindO_some]
      subst r1
      have hld:∀ b,ldOf [.l 3 ⟨n,0+0,none⟩,.l 3 ⟨n,0+1,none⟩] b↔b=n:=fun b=>by
        constructor
        · rintro⟨t,a,h1,h2⟩
          simp only[List.mem_cons,List.not_mem_nil,or_false,Extra.l.injEq] at h1
          rcases h1 with⟨_,rfl⟩ | ⟨_,rfl⟩ <;> exact h2.symm
        · rintro rfl
          exact⟨3,⟨_,0+0,none⟩,by simp,rfl⟩
      have hf2:CellsF H2 g 859 116 (putF f (0+3+A * 8+B * 1) [.bool true]):=by
        obtain⟨c,e1,e2,e3⟩:=r2
        exact⟨c,by rw[r5 g (fun h=>by have:=(hld g).1 h; omega)]; exact e1,e2,e3⟩
      obtain⟨H3,s1,s2,s3⟩:=hf2.storeN (o:=0+3+B * 8+A * 1) (vs:=[.bool true]) (by simp; omega) rfl
      have hI:I64 ((i:Int)+1):=by unfold I64; omega
      have hcast:((i:Int)+1)=((i+1:Nat):Int):=by omega
      rw[storeP_leaf sz4 rfl,s1,bindO_some,binK_some (bin_add hI),hcast]
      refine ih H3 (n+1) _ (by omega) (by omega) (fun b hb=>?_) s2 ⟨?_,?_,?_,fun a b ha hb=>?_⟩ hlt
      · rw[s3 b (by omega),r5 b (fun h=>by have:=(hld b).1 h; omega),r3 b (by omega) (by omega),k1 b (by omega),hk b hb]
      · rw[putF_one,if_neg (by omega),putF_one,if_neg (by omega)]; exact hs.x
      · rw[putF_one,if_neg (by omega),putF_one,if_neg (by omega)]; exact hs.y
      · rw[putF_one,if_neg (by omega),putF_one,if_neg (by omega)]; exact hs.z
      · rw[putF_one,putF_one,nearB_next hA hB,hs.near a b ha hb]
        by_cases c1:3+a * 8+b=0+3+B * 8+A * 1
        · rw[if_pos c1,if_pos (.inr ⟨by omega,by omega⟩)]
        · rw[if_neg c1]
          by_cases c2:3+a * 8+b=0+3+A * 8+B * 1
          · rw[if_pos c2,if_pos (.inl ⟨by omega,by omega⟩)]
          · rw[if_neg c2,if_neg]
            rintro(⟨h1,h2⟩ | ⟨h1,h2⟩)
            · exact c2 (by subst h1; subst h2; omega)
            · exact c1 (by subst h1; subst h2; omega)
    · rw[if_neg (by omega)]
      have hi':i=nj:=by omega
      subst hi'
      have lx:loadV P H 31 ⟨g,0+0+0,none⟩=some x:=by
        have:=hf.load (P:=P) (k:=0) agg31 (by omega)
        rw[hs.x] at this; exact this
      rw[nil_ptr,bindO_some,fa117_0,bindO_some,fa35_0,bindO_some,addrV_eq,bindO_some,lx,bindO_some,hlx,bindO_some,← hS]
      exact hx H n f hn hgn hk hf hs (fun _ _ _ _ _ _ _=>trivial)
  intro m
  induction m with
  | zero=>
    intro i H n f h1 h2 h3 h4 h5 h6 h7
    exact body _ 0 i H n f h1 h2 h3 h4 h5 h6 (fun _ _ _ _ _ _ _ _ h=>by omega)
  | succ m ih=>
    intro i H n f h1 h2 h3 h4 h5 h6 h7
    exact body _ (m+1) i H n f h1 h2 h3 h4 h5 h6 (fun H n f q1 q2 q3 q4 q5 q6=>ih (i+1) H n f q1 q2 q3 q4 q5 (by omega) (by omega))
end Go.Proofs.Ytmpnblcfpdnlmaa.spec
end
section
namespace Go.Proofs.Ytmpnblcfpdnlmaa.spec
open Go Go.Ev Go.Proofs.Ytmpnblcfpdnlmaa.nestFits Go.Proofs.Ytmpnblcfpdnlmaa.G
set_option maxRecDepth 100000
variable {ρ:Type}
theorem getD_some {X:List Int} {j:Nat} (h:j<X.length):X[j]?=some (X.getD j 0):=by
  rw[List.getD_eq_getElem?_getD,List.getElem?_eq_getElem h]; rfl
theorem nestOn_call (l:Nat) {H:Hp} {n g np pad:Nat} {f:Nat→Value} {x:Value} {near:Nat→Bool} {y a1 a2 a3 a4:Int} (hg:g<n) (hs:CellsF H g 859 116 f) (hx:f 0=x) (hlen:lenV P 31 x=some (.int .i64 np)) (hnp:np≤8) (hpad:pad<8)
    (hnear:∀ b,b<8→f (3+pad * 8+b)=.bool (near b)) (hy:0≤y∧y≤1000) (h1:okR a1 a2) (h2:okR a3 a4) :
    ∃ B H' n',BoundsTo y (sharesL a1 a2 a3 a4 near np pad) B 8∧(∀ k:Value→Hp→Nat→Option ρ,callFK P (cal (l+5)) 97 [.pointer (some ⟨g,0,none⟩),.int .i64 pad,.agg ⟨[.int .i64 y,.int .i64 a1,.int .i64 a2,.int .i64 a3,.int .i64 a4]⟩] H n k =
      k (.agg ⟨ints (nestL y (sharesL a1 a2 a3 a4 near np pad) B)⟩) H' n')∧n≤n'∧Keep n H H':=by
  obtain⟨B,hB,H',n',e,h3,h4⟩:=nestOn_spec l hg hs hx hlen hnp hpad hnear hy h1 h2
  refine⟨B,H',n',hB,fun k=>?_,h3,h4⟩
  unfold callFK
  have:(flatF P 97 && pureL [.pointer (some ⟨g,0,none⟩),.int .i64 pad,.agg ⟨[.int .i64 y,.int .i64 a1,.int .i64 a2,.int .i64 a3,.int .i64 a4]⟩])=false:=by rw[Bool.and_eq_false_iff]; exact .inr rfl
  rw[this,e]
  rfl
def NestsTo (f:Nat→Value) (js ks:List Int) (nj np nk pd i:Nat):Prop:=∀ p kd,p<np→kd<nk→(p<pd∨(p=pd∧kd<i))→NestAt f js ks nj np p kd
def KindsOk (ks:List Int) (nk:Nat):Prop:=∀ kd,kd<nk→(0≤ks.getD (kd * 5) 0∧ks.getD (kd * 5) 0≤1000)∧okR (ks.getD (kd * 5+1) 0) (ks.getD (kd * 5+2) 0)∧okR (ks.getD (kd * 5+3) 0) (ks.getD (kd * 5+4) 0)
theorem nests_loop3 (l k m1:Nat) (g np nj nk:Nat) (js ks:List Int) (x y z:Value) (hnp:np≤8) (hnk:nk≤3) (hks:KindsOk ks nk)
    (Q:Res→Prop) (H0:Hp) (n0:Nat) (hg:n0≤g) (hz0:SliceR H0 n0 5 z nk ks) (hlx:lenV P 31 x=some (.int .i64 np)) (pd:Nat) (hpd:pd<np) (b2:Value→Value→Value→Hp→Nat→Res)
    (hb2:∀(H:Hp) (n:Nat) (f:Nat→Value),n0≤n→g<n→Keep n0 H0 H→CellsF H g 859 116 f→SiteF f x y z js nj→NestsTo f js ks nj np nk (pd+1) 0→Q (b2 (.pointer (some ⟨g,0,none⟩)) (.int .i64 np) (.int .i64 ((pd+1:Nat):Int)) H n)) :
    ∀(m i:Nat) (H:Hp) (n:Nat) (f:Nat→Value),n0≤n→g<n→Keep n0 H0 H→CellsF H g 859 116 f→SiteF f x y z js nj→NestsTo f js ks nj np nk pd i→i≤nk→nk-i≤m →
    Q (S61_3 (cal (l+5)) k m1 b2 m (.pointer (some ⟨g,0,none⟩)) (.int .i64 pd) (.int .i64 np) (.int .i64 pd) z (.int .i64 nk) (.int .i64 i) H n):=by
  have body:∀(b3:Value→Value→Value→Value→Value→Value→Value→Hp→Nat→Res) (m i:Nat) (H:Hp) (n:Nat) (f:Nat→Value),n0≤n→g<n→Keep n0 H0 H→CellsF H g 859 116 f→SiteF f x y z js nj→NestsTo f js ks nj np nk pd i→i≤nk →
      (∀(H:Hp) (n:Nat) (f:Nat→Value),n0≤n→g<n→Keep n0 H0 H→CellsF H g 859 116 f→SiteF f x y z js nj→NestsTo f js ks nj np nk pd (i+1)→i<nk →
        Q (b3 (.pointer (some ⟨g,0,none⟩)) (.int .i64 pd) (.int .i64 np) (.int .i64 pd) z (.int .i64 nk) (.int .i64 ((i+1:Nat):Int)) H n)) →
      Q (C61_3 (cal (l+5)) k m1 m b2 b3 (.pointer (some ⟨g,0,none⟩)) (.int .i64 pd) (.int .i64 np) (.int .i64 pd) z (.int .i64 nk) (.int .i64 i) H n):=by
    intro b3 m i H n f hn hgn hk hf hs hnt hi ih
    unfold C61_3 B61_3
    rw[binK_some bin_lss,ifK_d]
    by_cases hlt:i<nk
    · rw[if_pos (by omega)]
      have hz:=(hz0.keep hk (Nat.le_refl _)).up hn
      obtain⟨bb,o,hix,hbn,hc⟩:=hz.at_ und33 sz86 hlt
      have hl2:i * 5+5≤ks.length:=by rw[hz.1]; omega
      have hld:loadV P H 86 ⟨bb,o+i * 5,none⟩=some (.agg ⟨[.int .i64 (ks.getD (i * 5) 0),.int .i64 (ks.getD (i * 5+1) 0),.int .i64 (ks.getD (i * 5+2) 0),.int .i64 (ks.getD (i * 5+3) 0),.int .i64 (ks.getD (i * 5+4) 0)]⟩):=by
        rw[loadV_agg hc agg86 sz86 (by rw[ints_length]; exact hl2) (ints_noHole _),five_at hl2]
      obtain⟨H1,k1,k2,k3⟩:=spill (P:=P) (ρ:=Value × Hp × Nat) (H:=H) (n:=n) (L:=[.int .i64 (ks.getD (i * 5) 0),.int .i64 (ks.getD (i * 5+1) 0),.int .i64 (ks.getD (i * 5+2) 0),.int .i64 (ks.getD (i * 5+3) 0),.int .i64 (ks.getD (i * 5+4) 0)]) zero86 rfl sz86 rfl rfl
      rw[hix,bindO_some,addrV_eq,bindO_some,hld,bindO_some,k3]
      have hback:=load_all k2 agg86 sz86 rfl
      rw[addrV_eq,bindO_some,hback,bindO_some,nil_ptr,bindO_some,fa117_2,bindO_some,at115 _ _ (by omega),bindO_some]
      have hf1:=hf.keep k1 hgn
      obtain⟨y1,y2,y3⟩:=hks i hlt
      obtain⟨B,H2,n2,hB,e2,e3,e4⟩:=nestOn_call (ρ:=Value × Hp × Nat) l (n:=n+1) (by omega) hf1 hs.x hlx hnp (show pd<8 by omega) (near:=nearB js nj pd) (fun b hb=>hs.near pd b (by omega) hb) y1 y2 y3
      rw[e2,at114 _ _ (by omega),bindO_some]
      have hf2:=hf1.keep e4 (by omega)
      have lens:(ints (nestL (ks.getD (i * 5) 0) (sharesL (ks.getD (i * 5+1) 0) (ks.getD (i * 5+2) 0) (ks.getD (i * 5+3) 0) (ks.getD (i * 5+4) 0) (nearB js nj pd) np pd) B)).length=33:=by rw[ints_length,nest_cells (sharesL_len ..) hB.1]
      obtain⟨H3,s1,s2,s3⟩:=hf2.storeN (o:=0+67+pd * 99+i * 33) (vs:=ints (nestL (ks.getD (i * 5) 0) (sharesL (ks.getD (i * 5+1) 0) (ks.getD (i * 5+2) 0) (ks.getD (i * 5+3) 0) (ks.getD (i * 5+4) 0) (nearB js nj pd) np pd) B)) (by rw[lens]; omega) (ints_leaf _)
      have hI:I64 ((i:Int)+1):=by unfold I64; omega
      have hcast:((i:Int)+1)=((i+1:Nat):Int):=by omega
      rw[storeP_agg sz113 lens,s1,bindO_some,binK_some (bin_add hI),hcast]
      refine ih H3 n2 _ (by omega) (by omega) (fun b hb=>?_) s2 ⟨?_,?_,?_,fun a b ha hb=>?_⟩ (fun p kd hp hkd hpk=>?_) hlt
      · rw[s3 b (by omega),e4 b (by omega),k1 b (by omega),hk b hb]
      · rw[putF_out _ _ _ (.inl (by omega))]; exact hs.x
      · rw[putF_out _ _ _ (.inl (by omega))]; exact hs.y
      · rw[putF_out _ _ _ (.inl (by omega))]; exact hs.z
      · rw[putF_out _ _ _ (.inl (by omega))]; exact hs.near a b ha hb
      · by_cases hnew:p=pd∧kd=i
        · obtain⟨rfl,rfl⟩:=hnew
          refine⟨B,hB,fun j hj=>?_⟩
          rw[show 67+p * 99+kd * 33+j=0+67+p * 99+kd * 33+j by omega]
          refine putF_in _ _ _ (ints_get ?_)
          have:j<(nestL (ks.getD (kd * 5) 0) (sharesL (ks.getD (kd * 5+1) 0) (ks.getD (kd * 5+2) 0) (ks.getD (kd * 5+3) 0) (ks.getD (kd * 5+4) 0) (nearB js nj p) np p) B).length:=by rw[← ints_length,lens]; exact hj
          exact getD_some this
        · obtain⟨B',hB',hf'⟩:=hnt p kd hp hkd (by omega)
          refine⟨B',hB',fun j hj=>?_⟩
          rw[putF_out _ _ _ (by rw[lens]; omega)]
          exact hf' j hj
    · rw[if_neg (by omega)]
      have hi':i=nk:=by omega
      subst hi'
      have hI:I64 ((pd:Int)+1):=by unfold I64; omega
      have hcast:((pd:Int)+1)=((pd+1:Nat):Int):=by omega
      rw[binK_some (bin_add hI),hcast]
      exact hb2 H n f hn hgn hk hf hs (fun p kd hp hkd h=>hnt p kd hp hkd (by omega))
  intro m
  induction m with
  | zero=>
    intro i H n f h1 h2 h3 h4 h5 h6 h7 h8
    exact body _ 0 i H n f h1 h2 h3 h4 h5 h6 h7 (fun _ _ _ _ _ _ _ _ _ h=>by omega)
  | succ m ih=>
    intro i H n f h1 h2 h3 h4 h5 h6 h7 h8
    exact body _ (m+1) i H n f h1 h2 h3 h4 h5 h6 h7 (fun H n f q1 q2 q3 q4 q5 q6 q7=>ih (i+1) H n f q1 q2 q3 q4 q5 q6 (by omega) (by omega))
theorem nests_loop2 (l k:Nat) (g np nj nk:Nat) (js ks:List Int) (x y z:Value) (hnp:np≤8) (hnk:nk≤3) (hks:KindsOk ks nk)
    (Q:Res→Prop) (H0:Hp) (n0:Nat) (hg:n0≤g) (hz0:SliceR H0 n0 5 z nk ks) (hlx:lenV P 31 x=some (.int .i64 np))
    (hq:∀(H:Hp) (n:Nat) (f:Nat→Value),n0≤n→g<n→Keep n0 H0 H→CellsF H g 859 116 f→SiteF f x y z js nj→(∀ p kd,p<np→kd<nk→NestAt f js ks nj np p kd)→Q (some (.tuple ⟨[.pointer (some ⟨g,0,none⟩),.int .i64 0]⟩,H,n))) :
    ∀(m i:Nat) (H:Hp) (n:Nat) (f:Nat→Value),n0≤n→g<n→Keep n0 H0 H→CellsF H g 859 116 f→SiteF f x y z js nj→NestsTo f js ks nj np nk i 0→i≤np→np-i+3≤m →
    Q (S61_2 (cal (l+5)) k m (.pointer (some ⟨g,0,none⟩)) (.int .i64 np) (.int .i64 i) H n):=by
  have body:∀(b2:Value→Value→Value→Hp→Nat→Res) (m i:Nat) (H:Hp) (n:Nat) (f:Nat→Value),n0≤n→g<n→Keep n0 H0 H→CellsF H g 859 116 f→SiteF f x y z js nj→NestsTo f js ks nj np nk i 0→i≤np→3≤m →
      (∀(H:Hp) (n:Nat) (f:Nat→Value),n0≤n→g<n→Keep n0 H0 H→CellsF H g 859 116 f→SiteF f x y z js nj→NestsTo f js ks nj np nk (i+1) 0→i<np→Q (b2 (.pointer (some ⟨g,0,none⟩)) (.int .i64 np) (.int .i64 ((i+1:Nat):Int)) H n)) →
      Q (C61_2 (cal (l+5)) k m b2 (.pointer (some ⟨g,0,none⟩)) (.int .i64 np) (.int .i64 i) H n):=by
    intro b2 m i H n f hn hgn hk hf hs hnt hi hm ih
    unfold C61_2 B61_2
    generalize hS:S61_3 (cal (l+5)) k m b2 m=S
    rw[binK_some bin_lss,ifK_d]
    by_cases hlt:i<np
    · rw[if_pos (by omega)]
      have lz:loadV P H 33 ⟨g,0+0+2,none⟩=some z:=by
        have:=hf.load (P:=P) (k:=2) agg33 (by omega)
        rw[hs.z] at this; exact this
      have e3:lenV P 33 z=some (.int .i64 nk):=hz0.len_eq und33
      rw[nil_ptr,bindO_some,fa117_0,bindO_some,fa35_2,bindO_some,addrV_eq,bindO_some,lz,bindO_some,e3,bindO_some,← hS]
      exact nests_loop3 l k m g np nj nk js ks x y z hnp hnk hks Q H0 n0 hg hz0 hlx i hlt b2 (fun H n f q1 q2 q3 q4 q5 q6=>ih H n f q1 q2 q3 q4 q5 q6 hlt) m 0 H n f hn hgn hk hf hs hnt (by omega) (by omega)
    · rw[if_neg (by omega)]
      exact hq H n f hn hgn hk hf hs (fun p kd hp hkd=>hnt p kd hp hkd (.inl (by omega)))
  intro m
  induction m with
  | zero=>
    intro i H n f h1 h2 h3 h4 h5 h6 h7 h8
    omega
  | succ m ih=>
    intro i H n f h1 h2 h3 h4 h5 h6 h7 h8
    exact body _ (m+1) i H n f h1 h2 h3 h4 h5 h6 h7 (by omega) (fun H n f q1 q2 q3 q4 q5 q6 q7=>ih (i+1) H n f q1 q2 q3 q4 q5 q6 (by omega) (by omega))
end Go.Proofs.Ytmpnblcfpdnlmaa.spec
end
section
namespace Go.Proofs.Ytmpnblcfpdnlmaa.spec
open Go Go.Ev Go.Proofs.Ytmpnblcfpdnlmaa.nestFits Go.Proofs.Ytmpnblcfpdnlmaa.G
set_option maxRecDepth 100000
variable {ρ:Type}
open Classical in
theorem nearB_zero (js:List Int) (a b:Nat):nearB js 0 a b=false:=by
  unfold nearB
  exact decide_eq_false (fun⟨q,h,_⟩=>by omega)
theorem build117 (x y z:Value):buildP P 116 [(0,.agg ⟨[x,y,z]⟩)]=some (.agg ⟨x::y::z::(List.replicate 64 (.bool false)++List.replicate 792 (.int .i64 0))⟩):=by kernel_rfl
def site0 (x y z:Value) (k:Nat):Value:=if k=0 then x else if k=1 then y else if k=2 then z else if k<67 then .bool false else .int .i64 0
theorem site0_at (x y z:Value) (k:Nat) (hk:k<859):(x::y::z::(List.replicate 64 (Value.bool false)++List.replicate 792 (Value.int .i64 0)))[k]?=some (site0 x y z k):=by
  match k,hk with
  | 0,_=>rfl
  | 1,_=>rfl
  | 2,_=>rfl
  | k+3,hk=>
    rw[List.getElem?_cons_succ,List.getElem?_cons_succ,List.getElem?_cons_succ]
    unfold site0
    rw[if_neg (by omega),if_neg (by omega),if_neg (by omega)]
    by_cases h:k<64
    · rw[List.getElem?_append_left (by simp; omega),List.getElem?_replicate,if_pos h,if_pos (by omega)]
    · rw[List.getElem?_append_right (by simp; omega),List.getElem?_replicate,List.length_replicate,if_pos (by omega),if_neg (by omega)]
structure Good (np nj nk:Nat) (ps js ks:List Int):Prop where
  np8:np≤8
  nj16:nj≤16
  nk3:nk≤3
  np1:np≠0
  nk1:nk≠0
  ok:¬ GBad np nj nk ps js ks
theorem good_of {np nj nk:Nat} {ps js ks:List Int} (h:faultN np nj nk ps js ks=0):Good np nj nk ps js ks:=by
  unfold faultN at h
  by_cases c1:8<np∨16<nj∨3<nk
  · rw[if_pos c1] at h; omega
  · rw[if_neg c1] at h
    by_cases c2:np=0∨nk=0
    · rw[if_pos c2] at h; omega
    · rw[if_neg c2] at h
      by_cases c3:GBad np nj nk ps js ks
      · rw[if_pos c3] at h; omega
      · exact⟨by omega,by omega,by omega,by omega,by omega,c3⟩
theorem Good.kinds {np nj nk:Nat} {ps js ks:List Int} (h:Good np nj nk ps js ks):KindsOk ks nk:=by
  intro kd hkd
  have hb:¬ KBad ks kd:=fun c=>h.ok (.inr (.inl ⟨kd,hkd,c⟩))
  unfold KBad at hb
  unfold okR
  omega
theorem Good.joins {np nj nk:Nat} {ps js ks:List Int} (h:Good np nj nk ps js ks) (hl:js.length=nj * 2) (i:Nat) (hi:i<nj):∃ A B:Nat,js[i * 2]?=some (A:Int)∧js[i * 2+1]?=some (B:Int)∧A<np∧B<np:=by
  have hb:∀ i,i<nj→okJ js np nj (js.getD (i * 2) 0) (js.getD (i * 2+1) 0):=(joins_all hl).2 fun c=>h.ok (.inr (.inr c))
  obtain⟨o1,o2,_,_⟩:=hb i hi
  refine⟨(js.getD (i * 2) 0).toNat,(js.getD (i * 2+1) 0).toNat,?_,?_,by omega,by omega⟩
  · rw[getD_some (show i * 2<js.length by omega)]; congr 1; omega
  · rw[getD_some (show i * 2+1<js.length by omega)]; congr 1; omega
def Opened (r:Res) (n:Nat) (H:Hp) (v:Value) (np nj nk:Nat) (js ks:List Int):Prop:=∃(g:Nat) (x y z:Value) (f:Nat→Value) (H':Hp) (n':Nat),r=some (.tuple ⟨[.pointer (some ⟨g,0,none⟩),.int .i64 0]⟩,H',n')∧n≤n'∧Keep n H H'∧n≤g∧g<n' ∧
  v=.agg ⟨[x,y,z]⟩∧CellsF H' g 859 116 f∧SiteF f x y z js nj∧∀ p kd,p<np→kd<nk→NestAt f js ks nj np p kd
theorem open_spec (l:Nat) {np nj nk:Nat} {ps js ks:List Int} {H:Hp} {n:Nat} {v:Value} (hg:GroveP H n v np nj nk ps js ks) (hnp:np≤1000) (hnj:nj≤1000) (hnk:nk≤1000) :
    (faultN np nj nk ps js ks≠0→Ret (C61_0 (cal (l+5)) KK v H n) n H (.tuple ⟨[.pointer none,.int .i64 (faultN np nj nk ps js ks)]⟩)) ∧
    (faultN np nj nk ps js ks=0→Opened (C61_0 (cal (l+5)) KK v H n) n H v np nj nk js ks):=by
  have hg0:=hg
  obtain⟨x,y,z,rfl,h1,h2,h3⟩:=hg
  unfold C61_0 B61_0
  generalize hS:S61_1 (cal (l+5)) KK KK=S
  rw[boxK_eq]
  simp only[cellsV,ptr]
  have hk:Keep n H (H.set n (some (.cells [x,y,z] 35 false none))):=(Keep.refl n H).set (Nat.le_refl _) _
  have hb:CellsAt (H.set n (some (.cells [x,y,z] 35 false none))) n 0 [x,y,z]:=CellsAt.new
  generalize H.set n (some (.cells [x,y,z] 35 false none))=H1 at hk hb ⊢
  have lg:∀ H2,CellsAt H2 n 0 [x,y,z]→loadV P H2 35 ⟨n,0,none⟩=some (.agg ⟨[x,y,z]⟩):=fun H2 h=>loadV_agg (o:=0) (k:=0) h agg35 sz35 (by simp) (by simp [h1.hole.1,h2.hole.1,h3.hole.1])
  obtain⟨H2,n2,e1,e2,e3⟩:=check_call (ρ:=Value × Hp × Nat) (l+1) (hg0.keep hk (show n≤n+1 by omega)) hnp hnj hnk
  rw[addrV_eq,bindO_some,lg H1 hb,bindO_some,e1,binK_some bin_neq]
  constructor
  · intro hne
    rw[decide_eq_false hne,Bool.not_false,ifK_t]
    exact⟨H2,n2,rfl,by omega,hk.trans e3 (by omega)⟩
  · intro he
    have good:=good_of he
    have hb2:=hb.keep e3 (by omega)
    rw[decide_eq_true he,Bool.not_true,ifK_f,bindO_some,lg H2 hb2,bindO_some,build117,bindO_some,boxK_eq]
    simp only[cellsV,ptr]
    have kk:Keep n H H2:=hk.trans e3 (by omega)
    have hf:CellsF (H2.set n2 (some (.cells (x::y::z::(List.replicate 64 (.bool false)++List.replicate 792 (.int .i64 0))) 116 false none))) n2 859 116 (site0 x y z):=CellsF.new (by simp) _ (site0_at x y z)
    have kk2:Keep n H (H2.set n2 (some (.cells (x::y::z::(List.replicate 64 (.bool false)++List.replicate 792 (.int .i64 0))) 116 false none))):=kk.set (by omega) _
    generalize H2.set n2 (some (.cells (x::y::z::(List.replicate 64 (.bool false)++List.replicate 792 (.int .i64 0))) 116 false none))=H3 at hf kk2 ⊢
    have ly:loadV P H3 32 ⟨n2,0+0+1,none⟩=some y:=hf.load (P:=P) (k:=1) agg32 (by omega)
    have ey:lenV P 32 y=some (.int .i64 nj):=h2.len_eq und32
    rw[nil_ptr,bindO_some,fa117_0,bindO_some,fa35_1,bindO_some,addrV_eq,bindO_some,ly,bindO_some,ey,bindO_some,← hS]
    have hlx:lenV P 31 x=some (.int .i64 np):=h1.len_eq und31
    refine near_loop61 (cal (l+5)) KK n2 np nj js x y z good.np8 hnj (good.joins h2.1) (fun r=>Opened r n H (.agg ⟨[x,y,z]⟩) np nj nk js ks) H n (by omega) h2
      (fun H4 n4 f4 q1 q2 q3 q4 q5 _=>nests_loop2 l KK n2 np nj nk js ks x y z good.np8 good.nk3 good.kinds (fun r=>Opened r n H (.agg ⟨[x,y,z]⟩) np nj nk js ks) H n (by omega) h3 hlx
        (fun H5 n5 f5 p1 p2 p3 p4 p5 p6=>⟨n2,x,y,z,f5,H5,n5,rfl,by omega,p3,by omega,p2,rfl,p4,p5,p6⟩) KK 0 H4 n4 f4 q1 q2 q3 q4 q5 (fun p kd _ _ h=>by omega) (by omega) (by have:=good.np8; unfold KK; omega)) hlx
      KK 0 H3 (n2+1) (site0 x y z) (by omega) (by omega) kk2 hf ⟨rfl,rfl,rfl,fun a b ha hb=>?_⟩ (by omega) (by unfold KK; omega)
    unfold site0
    rw[if_neg (by omega),if_neg (by omega),if_neg (by omega),if_pos (by omega),nearB_zero]
theorem flat61:flatF P 61=false:=by kernel_rfl
theorem call61 (l:Nat) (a:Value) (H:Hp) (n:Nat):(cal (l+1)).call 61 [a] H n=C61_0 (cal l) KK a H n:=by kernel_rfl
theorem open_call (l:Nat) (v:Value) (H:Hp) (n:Nat) (k:Value→Hp→Nat→Option ρ):callFK P (cal (l+6)) 61 [v] H n k=bindO (C61_0 (cal (l+5)) KK v H n) fun r=>k r.1 r.2.1 r.2.2:=by
  unfold callFK
  rw[flat61,call61]
  rfl
end Go.Proofs.Ytmpnblcfpdnlmaa.spec
end
section
namespace Go.Ev
open Go
variable {P:Program} {t t2 e e2:TypeId} {ρ:Type}
theorem loadN_all {H:Hp} {b o:Nat} {L:List Value} (h:CellsAt H b o L) (hn:L.all noHole=true) {m:Nat} (hm:L.length=m):loadN H ⟨b,o,none⟩ m=some L:=by
  have:=loadN_at (s:=m) (k:=0) h (by omega) hn
  rw[Nat.add_zero] at this
  rw[this,take_all _ _ hm]
end Go.Ev
end
section
namespace Go.Proofs.Ytmpnblcfpdnlmaa.spec
open Go Go.Ev Go.Proofs.Ytmpnblcfpdnlmaa.nestFits Go.Proofs.Ytmpnblcfpdnlmaa.G
set_option maxRecDepth 100000
variable {ρ:Type}
noncomputable def fitD (js ks:List Int) (nj np p kd:Nat):Bool:=decide (total (shP js ks nj np p kd) 0≤ks.getD (kd * 5) 0∧ks.getD (kd * 5) 0≤total (shP js ks nj np p kd) 1)
theorem shP_len (js ks:List Int) (nj np p kd:Nat):(shP js ks nj np p kd).length=16:=sharesL_len ..
theorem shP_bounded {js ks:List Int} {nj np nk p kd:Nat} (hks:KindsOk ks nk) (hkd:kd<nk) (hnp:np≤8) (hp:p<np):Bounded (shP js ks nj np p kd):=by
  obtain⟨_,h2,h3⟩:=hks kd hkd
  exact sharesL_bounded hnp (by omega) h2 h3
theorem nest_load {H:Hp} {g np nj p kd:Nat} {f:Nat→Value} {js ks:List Int} (hf:CellsF H g 859 116 f) (hn:NestAt f js ks nj np p kd) (hp:p<8) (hkd:kd<3) :
    ∃ B,BoundsTo (ks.getD (kd * 5) 0) (shP js ks nj np p kd) B 8∧loadV P H 112 ⟨g,0+67+p * 99+kd * 33,none⟩=some (.agg ⟨ints (nestL (ks.getD (kd * 5) 0) (shP js ks nj np p kd) B)⟩):=by
  obtain⟨B,hB,hj⟩:=hn
  refine⟨B,hB,?_⟩
  rw[hf.load_agg (k:=0+67+p * 99+kd * 33) agg113 sz113 (by omega)]
  have lens:(nestL (ks.getD (kd * 5) 0) (shP js ks nj np p kd) B).length=33:=nest_cells (shP_len ..) hB.1
  have e:(List.range 33).map (fun j=>f (0+67+p * 99+kd * 33+j))=ints (nestL (ks.getD (kd * 5) 0) (shP js ks nj np p kd) B):=by
    apply List.ext_getElem?
    intro j
    by_cases h:j<33
    · rw[List.getElem?_map,List.getElem?_range h,ints_get (getD_some (by omega))]
      simp only[Option.map_some]
      rw[show 0+67+p * 99+kd * 33+j=67+p * 99+kd * 33+j by omega,hj j h]
    · rw[List.getElem?_eq_none (by simp; omega),List.getElem?_eq_none (by rw[ints_length]; omega)]
  rw[e]
end Go.Proofs.Ytmpnblcfpdnlmaa.spec
end
section
namespace Go.Proofs.Ytmpnblcfpdnlmaa.spec
open Go Go.Ev Go.Proofs.Ytmpnblcfpdnlmaa.nestFits Go.Proofs.Ytmpnblcfpdnlmaa.G
set_option maxRecDepth 100000
variable {ρ:Type}
theorem Good.small {np nj nk:Nat} {ps js ks:List Int} (h:Good np nj nk ps js ks):Small ks nk:=by
  intro kd hkd
  obtain⟨h1,h2,h3⟩:=h.kinds kd hkd
  unfold okR at h2 h3
  omega
theorem Good.inner {np nj nk:Nat} {ps js ks:List Int} (h:Good np nj nk ps js ks) (hl:js.length=nj * 2):Inner js nj np:=by
  intro j hj a b hJ
  obtain⟨A,B,hA,hB,h1,h2⟩:=h.joins hl j hj
  unfold J at hJ
  rw[hA,hB] at hJ
  simp only[Option.some.injEq] at hJ
  omega
open Classical in
theorem share_reach {js ks:List Int} {nj np p kd:Nat} (hi:Inner js nj np) (hnp:np≤8) (hp:p<np) (q:Nat) :
    (shP js ks nj np p kd).getD (q * 2) 0=(reach js ks nj kd p q).1∧(shP js ks nj np p kd).getD (q * 2+1) 0=(reach js ks nj kd p q).2:=by
  obtain⟨g1,g2⟩:=sharesL_get (a1:=ks.getD (kd * 5+1) 0) (a2:=ks.getD (kd * 5+2) 0) (a3:=ks.getD (kd * 5+3) 0) (a4:=ks.getD (kd * 5+4) 0) (near:=nearB js nj p) hnp (show p<8 by omega) q
  unfold shP
  rw[g1,g2]
  unfold reach
  by_cases e:q=p
  · subst e
    rw[if_pos rfl,if_pos rfl,if_pos rfl]
    exact⟨rfl,rfl⟩
  · rw[if_neg e,if_neg e,if_neg (show ¬ (p:Int)=(q:Int) by omega)]
    by_cases hn:Near js nj p q
    · have hb:nearB js nj p q=true:=by unfold nearB; rw[decide_eq_true_eq]; exact hn
      have hq:q<np:=by obtain⟨j,h1,h2⟩:=hn; have:=hi j h1 _ _ h2; omega
      have hc:q<np∧nearB js nj p q=true:=⟨hq,hb⟩
      rw[if_pos hc,if_pos hc,if_pos hn]
      exact⟨rfl,rfl⟩
    · have hb:¬ (q<np∧nearB js nj p q=true):=fun⟨_,h⟩=>hn (by unfold nearB at h; rw[decide_eq_true_eq] at h; exact h)
      rw[if_neg hb,if_neg hb,if_neg hn]
      exact⟨rfl,rfl⟩
theorem fitsB_iff8 {js ks:List Int} {nj np nk kind a:Nat} (hs:Small ks nk) (hk:kind<nk) (ha:a<np) (hi:Inner js nj np) (hnp:np≤8) :
    fitsB js ks nj np kind a↔sumTo (fun p=>(reach js ks nj kind a p).1) 8≤ks.getD (kind * 5) 0∧ks.getD (kind * 5) 0≤sumTo (fun p=>(reach js ks nj kind a p).2) 8:=by
  rw[fitsB_iff hs hk ha hi (by omega)]
  have e1:sumTo (fun p=>(reach js ks nj kind a p).1) 11=sumTo (fun p=>(reach js ks nj kind a p).1) 8:=sumTo_zero (by omega) fun k h1 _=>by rw[reach_far hi ha (by omega)]
  have e2:sumTo (fun p=>(reach js ks nj kind a p).2) 11=sumTo (fun p=>(reach js ks nj kind a p).2) 8:=sumTo_zero (by omega) fun k h1 _=>by rw[reach_far hi ha (by omega)]
  rw[e1,e2]
theorem fits_agree {np nj nk p kd:Nat} {ps js ks:List Int} (good:Good np nj nk ps js ks) (hl:js.length=nj * 2) (hp:p<np) (hkd:kd<nk):fitD js ks nj np p kd=true↔fitsB js ks nj np kd p:=by
  rw[fitsB_iff8 good.small hkd hp (good.inner hl) good.np8]
  unfold fitD total
  rw[decide_eq_true_eq,sumTo_same (f:=fun q=>(shP js ks nj np p kd).getD (q * 2+0) 0) (g:=fun q=>(reach js ks nj kd p q).1) (fun q _=>(share_reach (good.inner hl) good.np8 hp q).1),
    sumTo_same (f:=fun q=>(shP js ks nj np p kd).getD (q * 2+1) 0) (g:=fun q=>(reach js ks nj kd p q).2) (fun q _=>(share_reach (good.inner hl) good.np8 hp q).2)]
theorem call21 (l:Nat) (a b c:Value) (H:Hp) (n:Nat):(cal (l+1)).call 21 [a,b,c] H n=C21_0 (cal l) KK a b c H n:=by kernel_rfl
theorem fitsR_call (l:Nat) {np nj nk:Nat} {ps js ks:List Int} (hnj:nj≤KK) (hnp:np≤100) (kind:Nat) (hk:kind<nk) (at_:Int) (hs:Small ks nk) {H:Hp} {n:Nat} {v:Value} (hg:GroveI H n v np nj nk ps js ks) :
    ∃(r:Bool) (H':Hp) (n':Nat),(r=true↔fitsB js ks nj np kind at_)∧(∀ k:Value→Hp→Nat→Option ρ,callFK P (cal (l+4)) 21 [v,.int .i64 kind,.int .i64 at_] H n k=k (.bool r) H' n')∧n≤n'∧Keep n H H':=by
  obtain⟨r,H',n',⟨b,rfl,hb⟩,e1,e2,e3⟩:=callFK_spec (ρ:=ρ) (P:=P) (cal:=cal (l+4)) (f:=21) (args:=[v,.int .i64 kind,.int .i64 at_]) (H:=H) (n:=n)
    (Pre:=fun H n=>GroveI H n v np nj nk ps js ks) (Q:=fun r=>∃ b:Bool,r=.bool b∧(b=true↔fitsB js ks nj np kind at_))
    (fun H n h=>by
      obtain⟨r,h1,h2⟩:=fits_spec l hnj hnp kind hk at_ hs h
      exact⟨.bool r,by rw[call21]; exact h1,r,rfl,h2⟩) (fun r ⟨b,e,_⟩ _=>by subst e; rfl) hg (fun hp=>hg.nil (by simp only[pureL,Bool.and_eq_true] at hp; exact hp.1))
  exact⟨b,H',n',hb,e1,e2,e3⟩
end Go.Proofs.Ytmpnblcfpdnlmaa.spec
end
section
namespace Go.Proofs.Ytmpnblcfpdnlmaa.spec
open Go Go.Ev Go.Proofs.Ytmpnblcfpdnlmaa.nestFits Go.Proofs.Ytmpnblcfpdnlmaa.G
set_option maxRecDepth 100000
variable {ρ:Type}
def ListR (H:Hp) (n:Nat) (v:Value) (len:Nat) (xs:List Int):Prop:=xs.length=len∧(∀ x ∈ xs,I64 x) ∧
  ((v=.slice none 0 0∧len=0)∨∃ b o cap,v=.slice (some ⟨b,o,none⟩) len cap∧b<n∧CellsAt H b o (ints xs))
theorem ListR.keep {H H':Hp} {n m len:Nat} {v:Value} {xs:List Int} (h:ListR H n v len xs) (hk:Keep n H H') (hm:n≤m):ListR H' m v len xs:=by
  obtain⟨h1,h2,h3⟩:=h
  refine⟨h1,h2,?_⟩
  rcases h3 with h3 | ⟨b,o,cap,e,a,c⟩
  · exact .inl h3
  · exact .inr ⟨b,o,cap,e,by omega,c.keep hk a⟩
theorem ListR.nil {H:Hp} {n len:Nat} {v:Value} {xs:List Int} (h:ListR H n v len xs) (hp:pureV v=true):ListR .nil 0 v len xs:=by
  obtain⟨h1,h2,h3⟩:=h
  refine⟨h1,h2,?_⟩
  rcases h3 with h3 | ⟨b,o,cap,e,a,c⟩
  · exact .inl h3
  · subst e; simp [pureV] at hp
theorem und44:P.underlying 44=some (.slice 3):=by kernel_rfl
theorem sl44:sliceElem P 44=some 3:=by kernel_rfl
theorem sz3:szT P 3=some 1:=by kernel_rfl
theorem by3:bytesT P 3=some 8:=by kernel_rfl
theorem zero3:zeroT P 3=some (.int .i64 0):=by kernel_rfl
theorem ListR.len_eq {H:Hp} {n len:Nat} {v:Value} {xs:List Int} (h:ListR H n v len xs):lenV P 44 v=some (.int .i64 len):=by
  rcases h.2.2 with⟨rfl,rfl⟩ | ⟨b,o,cap,rfl,_⟩
  · unfold lenV; simp only[und44]; rfl
  · unfold lenV; simp only[und44]; rfl
theorem ListR.at_ {H:Hp} {n len:Nat} {v:Value} {xs:List Int} (h:ListR H n v len xs) {i:Nat} (hi:i<len) :
    ∃ b o,indexAddrV P 44 v (.int .i64 i)=some (.pointer (some ⟨b,o,none⟩))∧b<n∧loadV P H 3 ⟨b,o,none⟩=some (.int .i64 (xs.getD i 0)):=by
  rcases h.2.2 with⟨rfl,rfl⟩ | ⟨b,o,cap,rfl,a,c⟩
  · omega
  · refine⟨b,o+i,?_,a,?_⟩
    · unfold indexAddrV
      simp only[und44,idx_lt hi,sz3]
      simp [addA]
    · exact loadV_int c agg3 (ints_get (getD_some (by rw[h.1]; exact hi)))
theorem ListR.src {H:Hp} {n len:Nat} {v:Value} {xs:List Int} (h:ListR H n v len xs):srcCells H 1 v=some (ints xs,len):=by
  obtain⟨h1,_,h3⟩:=h
  rcases h3 with⟨rfl,rfl⟩ | ⟨b,o,cap,rfl,a,c⟩
  · have:xs=[]:=List.length_eq_zero_iff.1 h1
    subst this; rfl
  · unfold srcCells
    simp only[loadN_all c (ints_noHole _) (show(ints xs).length=len * 1 by rw[ints_length,h1,Nat.mul_one])]
theorem row44_0:rowOf P 44 0 []=some ([],3):=by kernel_rfl
theorem call23 (l:Nat) (a:Value) (H:Hp) (n:Nat):(cal (l+1)).call 23 [a] H n=C23_0 (cal l) KK a H n:=by kernel_rfl
end Go.Proofs.Ytmpnblcfpdnlmaa.spec
end
section
namespace Go.Proofs.Ytmpnblcfpdnlmaa.spec
open Go Go.Ev Go.Proofs.Ytmpnblcfpdnlmaa.nestFits Go.Proofs.Ytmpnblcfpdnlmaa.G
set_option maxRecDepth 100000
variable {ρ:Type}
theorem und121:P.underlying 120=some (.array 8 3):=by kernel_rfl
theorem agg121:isAggT P 120=some true:=by kernel_rfl
theorem sz121:szT P 120=some 8:=by kernel_rfl
theorem zero121:zeroT P 120=some (.agg ⟨ints (List.replicate 8 0)⟩):=by kernel_rfl
theorem build121:buildP P 120 []=some (.agg ⟨ints (List.replicate 8 0)⟩):=by kernel_rfl
theorem slice121 (b:Nat):sliceV P 120 (.pointer (some ⟨b,0,none⟩)) none none=some (.slice (some ⟨b,0,none⟩) 8 8):=by kernel_rfl
noncomputable def valR (r:Res):Option Value:=match r with
  | some (v,_,_)=>some v
  | none=>none
theorem valR_some {r:Res} {v:Value} (h:valR r=some v):∃ H n,r=some (v,H,n):=by
  unfold valR at h
  split at h
  · cases h; exact⟨_,_,rfl⟩
  · cases h
theorem bare_run (c:Cal):valR (C101_0 c KK .nil 0)=some (.agg ⟨ints (List.replicate 8 (-1))⟩):=by kernel_rfl
theorem flat101:flatF P 101=true:=by kernel_rfl
theorem call101 (l:Nat) (H:Hp) (n:Nat):(cal (l+1)).call 101 [] H n=C101_0 (cal l) KK H n:=by kernel_rfl
theorem bare_call (l:Nat) (H:Hp) (n:Nat) (k:Value→Hp→Nat→Option ρ):callFK P (cal (l+1)) 101 [] H n k=k (.agg ⟨ints (List.replicate 8 (-1))⟩) H n:=by
  obtain⟨H',n',e⟩:=valR_some (bare_run (cal l))
  refine callFK_pure flat101 rfl ((call101 ..).trans e) ?_
  simp only[pureV,pureA,pure_ints]
def takesP (js ks:List Int) (nj np nk p:Nat) (kind:Int):Prop:=0≤kind∧kind<nk∧fitD js ks nj np p kind.toNat=true
theorem takes_spec (l:Nat) {H:Hp} {n g np nj nk p:Nat} {f:Nat→Value} {js ks:List Int} {x y z:Value} (hf:CellsF H g 859 116 f) (hs:SiteF f x y z js nj) (hz:lenV P 33 z=some (.int .i64 nk)) (hn:∀ p kd,p<np→kd<nk→NestAt f js ks nj np p kd) (hks:KindsOk ks nk) (hnp:np≤8) (hnk:nk≤3) (hp:p<np) (kind:Int) :
    ∃ r,C102_0 (cal (l+3)) KK (.pointer (some ⟨g,0,none⟩)) (.int .i64 p) (.int .i64 kind) H n=some (.bool r,H,n)∧(r=true↔takesP js ks nj np nk p kind):=by
  unfold C102_0 B102_0
  have lz:loadV P H 33 ⟨g,0+0+2,none⟩=some z:=by
    have:=hf.load (P:=P) (k:=2) agg33 (by omega)
    rw[hs.z] at this; exact this
  rw[binK_some bin_geq]
  unfold takesP
  cases c1:decide (0≤kind) with
  | false=>
    simp only[guardK_ft,guardK_u,pickV_f,bindO_some]
    exact⟨false,rfl,⟨fun h=>(by cases h),fun h=>absurd h.1 (of_decide_eq_false c1)⟩⟩
  | true=>
    have h0:=of_decide_eq_true c1
    simp only[guardK_tt,nil_ptr,bindO_some,fa117_0,fa35_2,addrV_eq,lz,hz,binK_some bin_lss,pickV_t]
    cases c2:decide (kind<(nk:Int)) with
    | false=>
      simp only[guardK_ft,guardK_u,pickV_f,bindO_some]
      exact⟨false,rfl,⟨fun h=>(by cases h),fun h=>absurd h.2.1 (of_decide_eq_false c2)⟩⟩
    | true=>
      have h1:=of_decide_eq_true c2
      obtain⟨kd,rfl⟩:∃ kd:Nat,kind=kd:=⟨kind.toNat,by omega⟩
      have hkd:kd<nk:=by omega
      obtain⟨B,hB,ln⟩:=nest_load hf (hn p kd hp hkd) (by omega) (by omega)
      simp only[guardK_tt,nil_ptr,bindO_some,fa117_2,at115 _ _ (show p<8 by omega),at114 _ _ (show kd<3 by omega),addrV_eq,ln,fit_call l (shP_len ..) hB.1 (shP_bounded hks hkd hnp hp),pickV_t]
      refine⟨_,rfl,?_⟩
      have e:fitD js ks nj np p (kd:Int).toNat=fitD js ks nj np p kd:=by rw[Int.toNat_natCast]
      rw[e]
      unfold fitD
      exact⟨fun h=>⟨h0,h1,h⟩,fun h=>h.2.2⟩
theorem call102 (l:Nat) (a b c:Value) (H:Hp) (n:Nat):(cal (l+1)).call 102 [a,b,c] H n=C102_0 (cal l) KK a b c H n:=by kernel_rfl
theorem takes_call (l:Nat) {H:Hp} {n g np nj nk p:Nat} {f:Nat→Value} {js ks:List Int} {x y z:Value} (hf:CellsF H g 859 116 f) (hs:SiteF f x y z js nj) (hz:lenV P 33 z=some (.int .i64 nk)) (hn:∀ p kd,p<np→kd<nk→NestAt f js ks nj np p kd) (hks:KindsOk ks nk) (hnp:np≤8) (hnk:nk≤3) (hp:p<np) (kind:Int) :
    ∃ r:Bool,(r=true↔takesP js ks nj np nk p kind)∧∀ k:Value→Hp→Nat→Option ρ,callFK P (cal (l+4)) 102 [.pointer (some ⟨g,0,none⟩),.int .i64 p,.int .i64 kind] H n k=k (.bool r) H n:=by
  obtain⟨r,e,h⟩:=takes_spec l (n:=n) hf hs hz hn hks hnp hnk hp kind
  refine⟨r,h,fun k=>?_⟩
  unfold callFK
  have:(flatF P 102 && pureL [.pointer (some ⟨g,0,none⟩),.int .i64 p,.int .i64 kind])=false:=by rw[Bool.and_eq_false_iff]; exact .inr rfl
  rw[this,call102,e]
  rfl
theorem results65_eq:results65=[.tmp 4,.cell 5 120,.tmp 6]:=by kernel_rfl
theorem res65 {H:Hp} {b:Nat} {v:Value} (p e:Value) (h:loadV P H 120 ⟨b,0,none⟩=some v):resV P (Tr.set (Tr.set (Tr.set Tr.nil 6 (some e)) 5 (some (.pointer (some ⟨b,0,none⟩)))) 4 (some p)) H results65=some [p,v,e]:=by
  rw[results65_eq]
  simp [resV,Tr.get_set,h]
theorem index121 {L:List Int} (hL:L.length=8) {i:Nat} (hi:i<8):indexV P 120 (.agg ⟨ints L⟩) (.int .i64 i)=some (.int .i64 (L.getD i 0)):=by
  unfold indexV
  have a3:isAggT P 3=some false:=agg3
  simp only[und121,idx_lt hi,sz3,partV,a3]
  rw[Nat.mul_one]
  exact ints_get (getD_some (by omega))
def laidL (ls:List Int) (np:Nat):List Int:=ls++List.replicate (8-np) (-1)
theorem laidL_len {ls:List Int} {np:Nat} (h:ls.length=np) (hnp:np≤8):(laidL ls np).length=8:=by unfold laidL; simp [h]; omega
theorem laidL_in {ls:List Int} {np p:Nat} (h:ls.length=np) (hp:p<np):(laidL ls np).getD p 0=ls.getD p 0:=by
  unfold laidL
  rw[List.getD_eq_getElem?_getD,List.getElem?_append_left (by omega),← List.getD_eq_getElem?_getD]
theorem laidL_out {ls:List Int} {np p:Nat} (h:ls.length=np) (hp:np≤p) (hp8:p<8):(laidL ls np).getD p 0=-1:=by
  unfold laidL
  rw[List.getD_eq_getElem?_getD,List.getElem?_append_right (by omega),List.getElem?_replicate,if_pos (by omega)]
  rfl
def laidOk (js ks ls:List Int) (nj np nk:Nat):Prop:=∀ p,p<np→ls.getD p 0=-1∨takesP js ks nj np nk p (ls.getD p 0)
theorem splice_ints:∀ {L X:List Int},L.length≤X.length→splice.over (ints X) (ints L)=some (ints (L++X.drop L.length))
  | [],X,_=>by cases X <;> simp [ints,splice.over]
  | a::L,[],h=>by simp at h
  | a::L,x::X,h=>by
    have ih:=splice_ints (L:=L) (X:=X) (by simpa using h)
    simp only[ints,List.map_cons,splice.over] at ih ⊢
    rw[ih]
    simp
theorem copy_row {H:Hp} {n b np:Nat} {w:Value} {ls X:List Int} {e:TypeId} (hw:ListR H n w np ls) (h1:0<np) (h8:np≤8) (hX:X.length=8) (hg:H.get b=some (.cells (ints X) e false none)) :
    copyV P (bare H n) 44 (.slice (some ⟨b,0,none⟩) 8 8) w=some (.int .i64 np,bare (H.set b (some (.cells (ints (ls++X.drop np)) e false none))) n):=by
  obtain⟨hl,_,hw⟩:=hw
  rcases hw with⟨_,h0⟩ | ⟨rb,ro,cap,rfl,hr,hc⟩
  · omega
  have hmin':Nat.min np 8=np:=Nat.min_eq_left h8
  have hld:loadN H ⟨rb,ro,none⟩ (np * 1)=some (ints ls):=loadN_all hc (ints_noHole _) (by rw[ints_length,hl,Nat.mul_one])
  have hsp:splice (ints X) 0 (ints ls)=some (ints (ls++X.drop ls.length)):=by
    unfold splice
    exact splice_ints (by omega)
  have hst:storeN H ⟨b,0,none⟩ (ints ls)=some (H.set b (some (.cells (ints (ls++X.drop np)) e false none))):=by
    unfold storeN
    simp only[hg,ints_leaf,if_true,hsp,hl]
  unfold copyV
  simp only[sl44,sz3,bare,hmin',hld,hst]
  rfl
theorem openLaid_loop (l k:Nat) {H:Hp} {n g np nj nk b5 b9:Nat} {f:Nat→Value} {js ks ls:List Int} {x y z:Value} (hf:CellsF H g 859 116 f) (hs:SiteF f x y z js nj) (hz:lenV P 33 z=some (.int .i64 nk)) (hn:∀ p kd,p<np→kd<nk→NestAt f js ks nj np p kd) (hks:KindsOk ks nk) (hnp:np≤8) (hnk:nk≤3)
    (hls:ls.length=np) (h5:∃ w,H.get b5=some (.cells w 120 false none)∧w.length=8) (h9:H.get b9=some (.cells (ints (laidL ls np)) 120 false none)) (hne:b5≠b9):∀(m i:Nat),i≤8→8-i≤m →
    ((∃ p,i≤p∧p<np∧¬ (ls.getD p 0=-1∨takesP js ks nj np nk p (ls.getD p 0)))∧∃ H',S65_1 (cal (l+4)) k m (.pointer (some ⟨b5,0,none⟩)) (.pointer (some ⟨g,0,none⟩)) (.pointer (some ⟨b9,0,none⟩)) (.agg ⟨ints (laidL ls np)⟩) (.int .i64 i) H n=some (.tuple ⟨[.pointer none,.agg ⟨ints (List.replicate 8 0)⟩,.int .i64 2]⟩,H',n)∧∀ b,b≠b5→H'.get b=H.get b) ∨
    ((∀ p,i≤p→p<np→ls.getD p 0=-1∨takesP js ks nj np nk p (ls.getD p 0))∧∃ H',S65_1 (cal (l+4)) k m (.pointer (some ⟨b5,0,none⟩)) (.pointer (some ⟨g,0,none⟩)) (.pointer (some ⟨b9,0,none⟩)) (.agg ⟨ints (laidL ls np)⟩) (.int .i64 i) H n=some (.tuple ⟨[.pointer (some ⟨g,0,none⟩),.agg ⟨ints (laidL ls np)⟩,.int .i64 0]⟩,H',n)∧∀ b,b≠b5→H'.get b=H.get b):=by
  obtain⟨w5,h5,hw5⟩:=h5
  have body:∀(b1:Value→Value→Value→Value→Value→Hp→Nat→Res) (m i:Nat),i≤8 →
      (i<8→((∃ p,i+1≤p∧p<np∧¬ (ls.getD p 0=-1∨takesP js ks nj np nk p (ls.getD p 0)))∧∃ H',b1 (.pointer (some ⟨b5,0,none⟩)) (.pointer (some ⟨g,0,none⟩)) (.pointer (some ⟨b9,0,none⟩)) (.agg ⟨ints (laidL ls np)⟩) (.int .i64 ((i+1:Nat):Int)) H n=some (.tuple ⟨[.pointer none,.agg ⟨ints (List.replicate 8 0)⟩,.int .i64 2]⟩,H',n)∧∀ b,b≠b5→H'.get b=H.get b) ∨
        ((∀ p,i+1≤p→p<np→ls.getD p 0=-1∨takesP js ks nj np nk p (ls.getD p 0))∧∃ H',b1 (.pointer (some ⟨b5,0,none⟩)) (.pointer (some ⟨g,0,none⟩)) (.pointer (some ⟨b9,0,none⟩)) (.agg ⟨ints (laidL ls np)⟩) (.int .i64 ((i+1:Nat):Int)) H n=some (.tuple ⟨[.pointer (some ⟨g,0,none⟩),.agg ⟨ints (laidL ls np)⟩,.int .i64 0]⟩,H',n)∧∀ b,b≠b5→H'.get b=H.get b)) →
      ((∃ p,i≤p∧p<np∧¬ (ls.getD p 0=-1∨takesP js ks nj np nk p (ls.getD p 0)))∧∃ H',C65_1 (cal (l+4)) k m b1 (.pointer (some ⟨b5,0,none⟩)) (.pointer (some ⟨g,0,none⟩)) (.pointer (some ⟨b9,0,none⟩)) (.agg ⟨ints (laidL ls np)⟩) (.int .i64 i) H n=some (.tuple ⟨[.pointer none,.agg ⟨ints (List.replicate 8 0)⟩,.int .i64 2]⟩,H',n)∧∀ b,b≠b5→H'.get b=H.get b) ∨
      ((∀ p,i≤p→p<np→ls.getD p 0=-1∨takesP js ks nj np nk p (ls.getD p 0))∧∃ H',C65_1 (cal (l+4)) k m b1 (.pointer (some ⟨b5,0,none⟩)) (.pointer (some ⟨g,0,none⟩)) (.pointer (some ⟨b9,0,none⟩)) (.agg ⟨ints (laidL ls np)⟩) (.int .i64 i) H n=some (.tuple ⟨[.pointer (some ⟨g,0,none⟩),.agg ⟨ints (laidL ls np)⟩,.int .i64 0]⟩,H',n)∧∀ b,b≠b5→H'.get b=H.get b):=by
    intro b1 m i hi ih
    unfold C65_1 B65_1
    rw[binK_some bin_lss,ifK_d]
    have l8:=laidL_len hls hnp
    by_cases hlt:i<8
    · rw[if_pos (by omega),index121 l8 hlt,bindO_some,binK_some bin_neq]
      have hI:I64 ((i:Int)+1):=by unfold I64; omega
      have hcast:((i:Int)+1)=((i+1:Nat):Int):=by omega
      have go:(i<np→ls.getD i 0=-1∨takesP js ks nj np nk i (ls.getD i 0))→∀ r:Res,r=b1 (.pointer (some ⟨b5,0,none⟩)) (.pointer (some ⟨g,0,none⟩)) (.pointer (some ⟨b9,0,none⟩)) (.agg ⟨ints (laidL ls np)⟩) (.int .i64 ((i+1:Nat):Int)) H n →
          ((∃ p,i≤p∧p<np∧¬ (ls.getD p 0=-1∨takesP js ks nj np nk p (ls.getD p 0)))∧∃ H',r=some (.tuple ⟨[.pointer none,.agg ⟨ints (List.replicate 8 0)⟩,.int .i64 2]⟩,H',n)∧∀ b,b≠b5→H'.get b=H.get b) ∨
          ((∀ p,i≤p→p<np→ls.getD p 0=-1∨takesP js ks nj np nk p (ls.getD p 0))∧∃ H',r=some (.tuple ⟨[.pointer (some ⟨g,0,none⟩),.agg ⟨ints (laidL ls np)⟩,.int .i64 0]⟩,H',n)∧∀ b,b≠b5→H'.get b=H.get b):=by
        rintro hok r rfl
        rcases ih hlt with⟨⟨p,q1,q2,q3⟩,q4⟩ | ⟨q1,q2⟩
        · exact .inl ⟨⟨p,by omega,q2,q3⟩,q4⟩
        · refine .inr ⟨fun p p1 p2=>?_,q2⟩
          rcases Nat.eq_or_lt_of_le p1 with z | z
          · subst z; exact hok p2
          · exact q1 p z p2
      cases c1:decide ((laidL ls np).getD i 0=-1) with
      | true=>
        simp only[Bool.not_true,guardK_ft,guardK_u,pickV_f,bindO_some,ifK_f,binK_some (bin_add hI),hcast]
        refine go (fun hp=>.inl ?_) _ rfl
        rw[← laidL_in hls hp]; exact of_decide_eq_true c1
      | false=>
        have hip:i<np:=by
          rcases Nat.lt_or_ge i np with q | q
          · exact q
          · exact absurd (laidL_out hls q hlt) (of_decide_eq_false c1)
        have hv:=laidL_in hls hip
        obtain⟨r,hr,hc⟩:=takes_call (ρ:=Value × Hp × Nat) l (n:=n) hf hs hz hn hks hnp hnk hip ((laidL ls np).getD i 0)
        rw[hv] at hr c1
        simp only[Bool.not_false,guardK_tt,hc]
        cases r with
        | true=>
          simp only[guardK_tt,not_t,bindO_some,pickV_t,ifK_f,binK_some (bin_add hI),hcast]
          exact go (fun _=>.inr (hr.1 rfl)) _ rfl
        | false=>
          simp only[guardK_tt,not_f,bindO_some,pickV_t,ifK_t]
          have hst:=storeN_all (vs:=ints (List.replicate 8 0)) h5 (by rw[hw5]; rfl) (ints_leaf _)
          rw[build121,bindO_some,storeP_agg sz121 rfl,hst,bindO_some,res65 _ _ (load_all (t:=120) (s:=8) (L:=ints (List.replicate 8 0)) (e:=120) (vec:=none) (by rw[Tr.get_set,if_pos rfl]) agg121 sz121 rfl)]
          refine .inl ⟨⟨i,Nat.le_refl _,hip,?_⟩,_,rfl,fun b hb=>by rw[Tr.get_set,if_neg hb]⟩
          rintro(h | h)
          · exact of_decide_eq_false c1 h
          · exact absurd (hr.2 h) (by simp)
    · have lens:(ints (laidL ls np)).length=8:=by rw[ints_length,l8]
      have hst:=storeN_all (vs:=ints (laidL ls np)) h5 (by rw[hw5,lens]) (ints_leaf _)
      rw[if_neg (by omega),addrV_eq,bindO_some,load_all h9 agg121 sz121 lens,bindO_some,storeP_agg sz121 lens,hst,bindO_some,
        res65 _ _ (load_all (t:=120) (s:=8) (L:=ints (laidL ls np)) (e:=120) (vec:=none) (by rw[Tr.get_set,if_pos rfl]) agg121 sz121 lens)]
      exact .inr ⟨fun p p1 p2=>by omega,_,rfl,fun b hb=>by rw[Tr.get_set,if_neg hb]⟩
  intro m
  induction m with
  | zero=>intro i h1 h2; exact body _ 0 i h1 (fun h=>by omega)
  | succ m ih=>intro i h1 h2; exact body _ (m+1) i h1 (fun h=>ih (i+1) (by omega) (by omega))
end Go.Proofs.Ytmpnblcfpdnlmaa.spec
end
section
namespace Go.Proofs.Ytmpnblcfpdnlmaa.spec
open Go Go.Ev Go.Proofs.Ytmpnblcfpdnlmaa.nestFits Go.Proofs.Ytmpnblcfpdnlmaa.G
set_option maxRecDepth 100000
variable {ρ:Type}
open Classical in
noncomputable def placedN (np nj nk nl:Nat) (ps js ks ls:List Int):Int:=if faultN np nj nk ps js ks≠0 then faultN np nj nk ps js ks else if nl=np∧laidOk js ks ls nj np nk then 0 else 2
def NotLaid (r:Res) (n:Nat) (H:Hp) (e:Int):Prop:=∃ H' n',r=some (.tuple ⟨[.pointer none,.agg ⟨ints (List.replicate 8 0)⟩,.int .i64 e]⟩,H',n')∧n≤n'∧Keep n H H'
def IsLaid (r:Res) (n:Nat) (H:Hp) (v:Value) (np nj nk:Nat) (js ks ls:List Int):Prop:=∃(g:Nat) (x y z:Value) (f:Nat→Value) (H':Hp) (n':Nat),r=some (.tuple ⟨[.pointer (some ⟨g,0,none⟩),.agg ⟨ints (laidL ls np)⟩,.int .i64 0]⟩,H',n')∧n≤n'∧Keep n H H'∧n≤g∧g<n' ∧
  v=.agg ⟨[x,y,z]⟩∧CellsF H' g 859 116 f∧SiteF f x y z js nj∧∀ p kd,p<np→kd<nk→NestAt f js ks nj np p kd
theorem openLaid_spec (l:Nat) {np nj nk nl:Nat} {ps js ks ls:List Int} {H:Hp} {n:Nat} {v w:Value} (hg:GroveP H n v np nj nk ps js ks) (hw:ListR H n w nl ls) (hnp:np≤1000) (hnj:nj≤1000) (hnk:nk≤1000) :
    (placedN np nj nk nl ps js ks ls≠0→NotLaid (C65_0 (cal (l+6)) KK v w H n) n H (placedN np nj nk nl ps js ks ls)) ∧
    (placedN np nj nk nl ps js ks ls=0→IsLaid (C65_0 (cal (l+6)) KK v w H n) n H v np nj nk js ks ls∧nl=np∧laidOk js ks ls nj np nk∧faultN np nj nk ps js ks=0):=by
  have hg0:=hg
  obtain⟨x,y,z,rfl,h1,h2,h3⟩:=hg
  unfold C65_0 B65_0
  generalize hS:S65_1 (cal (l+6)) KK KK=S
  rw[boxK_eq,allocK_eq zero121]
  simp only[cellsV,ptr]
  have hk:Keep n H ((H.set n (some (.cells [x,y,z] 35 false none))).set (n+1) (some (.cells (ints (List.replicate 8 0)) 120 false none))):=((Keep.refl n H).set (Nat.le_refl _) _).set (by omega) _
  have hb:CellsAt ((H.set n (some (.cells [x,y,z] 35 false none))).set (n+1) (some (.cells (ints (List.replicate 8 0)) 120 false none))) n 0 [x,y,z]:=CellsAt.new.set (by omega)
  have hr:((H.set n (some (.cells [x,y,z] 35 false none))).set (n+1) (some (.cells (ints (List.replicate 8 0)) 120 false none))).get (n+1)=some (.cells (ints (List.replicate 8 0)) 120 false none):=by rw[Tr.get_set,if_pos rfl]
  generalize (H.set n (some (.cells [x,y,z] 35 false none))).set (n+1) (some (.cells (ints (List.replicate 8 0)) 120 false none))=H1 at hk hb hr ⊢
  have lg:loadV P H1 35 ⟨n,0,none⟩=some (.agg ⟨[x,y,z]⟩):=loadV_agg (o:=0) (k:=0) hb agg35 sz35 (by simp) (by simp [h1.hole.1,h2.hole.1,h3.hole.1])
  obtain⟨o1,o2⟩:=open_spec l (hg0.keep hk (show n≤n+1+1 by omega)) hnp hnj hnk
  rw[addrV_eq,bindO_some,lg,bindO_some,open_call]
  have bad:∀(H2:Hp) (n2:Nat) (e:Int),n+1+1≤n2→Keep (n+1+1) H1 H2→NotLaid (bindO (storeP P 120 (.pointer (some ⟨n+1,0,none⟩)) (.agg ⟨ints (List.replicate 8 0)⟩) H2) fun H_p=>
      bindO (resV P (Tr.set (Tr.set (Tr.set Tr.nil 6 (some (.int .i64 e))) 5 (some (.pointer (some ⟨n+1,0,none⟩)))) 4 (some (Value.pointer none))) H_p results65) fun v_r=>some (oneV v_r,H_p,n2)) n H e:=by
    intro H2 n2 e hn hk2
    have hr2:=(hk2 (n+1) (by omega)).trans hr
    rw[storeP_agg sz121 rfl,storeN_all hr2 rfl (ints_leaf _),bindO_some,res65 _ _ (load_all (t:=120) (s:=8) (L:=ints (List.replicate 8 0)) (e:=120) (vec:=none) (by rw[Tr.get_set,if_pos rfl]) agg121 sz121 rfl)]
    exact⟨_,_,rfl,by omega,(hk.trans hk2 (by omega)).set (by omega) _⟩
  by_cases he:faultN np nj nk ps js ks=0
  · have good:=good_of he
    obtain⟨g,x',y',z',f,H2,n2,e1,e2,e3,e4,e5,e6,e7,e8,e9⟩:=o2 he
    simp only[Value.agg.injEq,Array.mk.injEq,List.cons.injEq,and_true] at e6
    obtain⟨rfl,rfl,rfl⟩:=e6
    have t0:tupV (.tuple ⟨[.pointer (some ⟨g,0,none⟩),.int .i64 0]⟩) 0=some (.pointer (some ⟨g,0,none⟩)):=rfl
    have t1:tupV (.tuple ⟨[.pointer (some ⟨g,0,none⟩),.int .i64 0]⟩) 1=some (.int .i64 0):=rfl
    have d0:decide ((0:Int)=0)=true:=rfl
    have lx:loadV P H2 31 ⟨g,0+0+0,none⟩=some x:=by
      have:=e7.load (P:=P) (k:=0) agg31 (by omega)
      rw[e8.x] at this; exact this
    have hlx:lenV P 31 x=some (.int .i64 np):=h1.len_eq und31
    have hlz:lenV P 33 z=some (.int .i64 nk):=h3.len_eq und33
    have kk:Keep n H H2:=hk.trans e3 (by omega)
    have hw2:=hw.keep kk (show n≤n2 by omega)
    rw[e1,bindO_some,t0,bindO_some,t1,bindO_some,binK_some bin_neq,d0,Bool.not_true,ifK_f,hw.len_eq,bindO_some,nil_ptr,bindO_some,fa117_0,bindO_some,fa35_0,bindO_some,addrV_eq,bindO_some,lx,bindO_some,hlx,bindO_some,binK_some bin_neq]
    unfold placedN
    rw[if_neg (fun h=>h he)]
    by_cases hl:nl=np
    · subst hl
      have dl:decide ((nl:Int)=(nl:Int))=true:=decide_eq_true rfl
      have l8:=laidL_len hw.1 good.np8
      have lens:(ints (laidL ls nl)).length=8:=by rw[ints_length,l8]
      rw[dl,Bool.not_true,ifK_f,bare_call (l+5)]
      obtain⟨H3,k1,k2,k3⟩:=spill (P:=P) (ρ:=Value × Hp × Nat) (H:=H2) (n:=n2) (L:=ints (List.replicate 8 (-1))) zero121 rfl sz121 rfl (ints_leaf _)
      rw[k3,slice121,bindO_some]
      have hw3:=hw2.keep k1 (show n2≤n2+1 by omega)
      unfold stK
      rw[copy_row hw3 (by have:=good.np1; omega) good.np8 rfl k2,bindO_some]
      dsimp only [bare]
      have hrow:(H3.set n2 (some (.cells (ints (ls++(List.replicate 8 (-1)).drop nl)) 120 false none))).get n2=some (.cells (ints (laidL ls nl)) 120 false none):=by
        rw[Tr.get_set,if_pos rfl,List.drop_replicate]; rfl
      have kk3:Keep n2 H2 (H3.set n2 (some (.cells (ints (ls++(List.replicate 8 (-1)).drop nl)) 120 false none))):=k1.set (Nat.le_refl _) _
      generalize H3.set n2 (some (.cells (ints (ls++(List.replicate 8 (-1)).drop nl)) 120 false none))=H4 at hrow kk3 ⊢
      rw[addrV_eq,bindO_some,load_all hrow agg121 sz121 lens,bindO_some,← hS]
      have hf4:=e7.keep kk3 e5
      have hr4:H4.get (n+1)=some (.cells (ints (List.replicate 8 0)) 120 false none):=by rw[kk3 _ (by omega),e3 _ (by omega)]; exact hr
      rcases openLaid_loop (l+2) KK (n:=n2+1) hf4 e8 hlz e9 good.kinds good.np8 good.nk3 hw.1 ⟨_,hr4,rfl⟩ hrow (by omega) KK 0 (by omega) (by unfold KK; omega) with⟨⟨p,q1,q2,q3⟩,H5,q4,q5⟩ | ⟨q1,H5,q4,q5⟩
      · have hno:¬ (nl=nl∧laidOk js ks ls nj nl nk):=fun h=>q3 (h.2 p q2)
        rw[if_neg hno]
        refine⟨fun _=>⟨H5,n2+1,q4,by omega,fun b hb=>?_⟩,fun h=>by omega⟩
        rw[q5 b (by omega),kk3 b (by omega),kk b hb]
      · have hyes:nl=nl∧laidOk js ks ls nj nl nk:=⟨rfl,fun p hp=>q1 p (Nat.zero_le _) hp⟩
        rw[if_pos hyes]
        refine⟨fun h=>absurd rfl h,fun _=>⟨⟨g,x,y,z,f,H5,n2+1,q4,by omega,fun b hb=>?_,by omega,by omega,rfl,?_,e8,e9⟩,rfl,hyes.2,he⟩⟩
        · rw[q5 b (by omega),kk3 b (by omega),kk b hb]
        · obtain⟨c,a1,a2,a3⟩:=hf4
          exact⟨c,by rw[q5 g (by omega)]; exact a1,a2,a3⟩
    · have dl:decide ((nl:Int)=(np:Int))=false:=decide_eq_false (by omega)
      have hno:¬ (nl=np∧laidOk js ks ls nj np nk):=fun h=>hl h.1
      rw[dl,Bool.not_false,ifK_t,if_neg hno,build121,bindO_some]
      exact⟨fun _=>bad H2 n2 2 e2 e3,fun h=>by omega⟩
  · obtain⟨H2,n2,e1,e2,e3⟩:=o1 he
    have t0:tupV (.tuple ⟨[.pointer none,.int .i64 (faultN np nj nk ps js ks)]⟩) 0=some (.pointer none):=rfl
    have t1:tupV (.tuple ⟨[.pointer none,.int .i64 (faultN np nj nk ps js ks)]⟩) 1=some (.int .i64 (faultN np nj nk ps js ks)):=rfl
    unfold placedN
    rw[if_pos he,e1,bindO_some,t0,bindO_some,t1,bindO_some,binK_some bin_neq,decide_eq_false he,Bool.not_false,ifK_t,build121,bindO_some]
    exact⟨fun _=>bad H2 n2 _ e2 e3,fun h=>absurd h he⟩
theorem flat65:flatF P 65=false:=by kernel_rfl
theorem call65 (l:Nat) (a b:Value) (H:Hp) (n:Nat):(cal (l+1)).call 65 [a,b] H n=C65_0 (cal l) KK a b H n:=by kernel_rfl
theorem openLaid_call (l:Nat) (v w:Value) (H:Hp) (n:Nat) (k:Value→Hp→Nat→Option ρ):callFK P (cal (l+7)) 65 [v,w] H n k=bindO (C65_0 (cal (l+6)) KK v w H n) fun r=>k r.1 r.2.1 r.2.2:=by
  unfold callFK
  rw[flat65,call65]
  rfl
end Go.Proofs.Ytmpnblcfpdnlmaa.spec
end
section
namespace Go.Ev
open Go
variable {P:Program} {ρ:Type}
theorem splice_one {a:Int}:∀ {X:List Int} {o:Nat},o<X.length→splice (ints X) o [.int .i64 a]=some (ints (X.set o a))
  | [],_,h=>by simp at h
  | x::X,0,_=>by
    unfold splice
    cases X <;> simp [ints,splice.over]
  | x::X,o+1,h=>by
    have ih:=splice_one (a:=a) (X:=X) (o:=o) (by simpa using h)
    unfold splice
    simp only[ints,List.map_cons,List.set_cons_succ] at ih ⊢
    rw[ih]
theorem store_one {a:Int} {X:List Int} {o g:Nat} {H:Hp} {e:TypeId} {vec:Option Nat} (h:H.get g=some (.cells (ints X) e false vec)) (ho:o<X.length) :
    storeN H ⟨g,o,none⟩ [.int .i64 a]=some (H.set g (some (.cells (ints (X.set o a)) e false vec))):=by
  unfold storeN
  simp only[h,splice_one ho]
  rfl
end Go.Ev
end
section
namespace Go.Proofs.Ytmpnblcfpdnlmaa.spec
open Go Go.Ev Go.Proofs.Ytmpnblcfpdnlmaa.nestFits Go.Proofs.Ytmpnblcfpdnlmaa.G
set_option maxRecDepth 100000
variable {ρ:Type}
theorem res103 (H:Hp) (b:Nat):resV P (Tr.set Tr.nil 4 (some (.pointer (some ⟨b,0,none⟩)))) H results103=(match loadV P H 110 ⟨b,0,none⟩ with
  | none=>none
  | some v=>some [v]):=by kernel_rfl
def Mild (X:List Int):Prop:=∀ k:Nat,-1000000≤X.getD k 0∧X.getD k 0≤1000000
structure PlusTo (X Y Z:List Int) (i:Nat):Prop where
  len:Z.length=16
  below:∀ p,p<i→Z.getD (p * 2) 0=X.getD (p * 2) 0+Y.getD (p * 2) 0∧Z.getD (p * 2+1) 0=X.getD (p * 2+1) 0+Y.getD (p * 2+1) 0
  above:∀ p,i≤p→Z.getD (p * 2) 0=X.getD (p * 2) 0∧Z.getD (p * 2+1) 0=X.getD (p * 2+1) 0
theorem load_int_at {H:Hp} {g o:Nat} {X:List Int} {e:TypeId} {ro:Bool} {vec:Option Nat} (h:H.get g=some (.cells (ints X) e ro vec)) (ho:o<X.length):loadV P H 3 ⟨g,o,none⟩=some (.int .i64 (X.getD o 0)):=by
  have:=loadV_int (P:=P) (t:=3) (o:=0) (k:=o) (cells_at h) agg3 (ints_get (getD_some ho))
  rw[Nat.zero_add] at this
  exact this
theorem plus_loop (c:Cal) (k:Nat) {X Y:List Int} (hY:Y.length=16) (mX:Mild X) (mY:Mild Y) (b2 b4:Nat) (hne:b2≠b4):∀(m i:Nat) (Z:List Int) (H:Hp) (n:Nat),b2<n→b4<n→H.get b2=some (.cells (ints Z) 110 false none)→(∃ w,H.get b4=some (.cells w 110 false none)∧w.length=16)→PlusTo X Y Z i→i≤8→8-i≤m →
    ∃ Z' H' n',S103_1 c k m (.pointer (some ⟨b2,0,none⟩)) (.pointer (some ⟨b4,0,none⟩)) (.agg ⟨ints Y⟩) (.int .i64 i) H n=some (.agg ⟨ints Z'⟩,H',n')∧PlusTo X Y Z' 8:=by
  have body:∀(b1:Value→Value→Value→Value→Hp→Nat→Res) (m i:Nat) (Z:List Int) (H:Hp) (n:Nat),b2<n→b4<n→H.get b2=some (.cells (ints Z) 110 false none)→(∃ w,H.get b4=some (.cells w 110 false none)∧w.length=16)→PlusTo X Y Z i→i≤8 →
      (∀ Z2 H2 n2,b2<n2→b4<n2→H2.get b2=some (.cells (ints Z2) 110 false none)→(∃ w,H2.get b4=some (.cells w 110 false none)∧w.length=16)→PlusTo X Y Z2 (i+1)→i<8 →
        ∃ Z' H' n',b1 (.pointer (some ⟨b2,0,none⟩)) (.pointer (some ⟨b4,0,none⟩)) (.agg ⟨ints Y⟩) (.int .i64 ((i+1:Nat):Int)) H2 n2=some (.agg ⟨ints Z'⟩,H',n')∧PlusTo X Y Z' 8) →
      ∃ Z' H' n',C103_1 c k m b1 (.pointer (some ⟨b2,0,none⟩)) (.pointer (some ⟨b4,0,none⟩)) (.agg ⟨ints Y⟩) (.int .i64 i) H n=some (.agg ⟨ints Z'⟩,H',n')∧PlusTo X Y Z' 8:=by
    intro b1 m i Z H n hb2 hb4 hg2 hg4 hZ hi ih
    have lZ:=hZ.len
    unfold C103_1 B103_1
    rw[binK_some bin_lss,ifK_d]
    by_cases hlt:i<8
    · obtain⟨g1,g2⟩:=ints_take (xs:=Y) (i:=i) (s:=2) (by omega)
      obtain⟨H1,k1,k2,k3⟩:=spill (P:=P) (ρ:=Value × Hp × Nat) (H:=H) (n:=n) zero53 rfl sz53 g1 g2
      rw[if_pos (by omega),index_row hY hlt,bindO_some,k3]
      rw[two_at (show i * 2+2≤Y.length by omega)] at k2
      have q2:H1.get b2=some (.cells (ints Z) 110 false none):=(k1 b2 hb2).trans hg2
      obtain⟨a1,a2⟩:=hZ.above i (Nat.le_refl _)
      have z0:loadV P H1 3 ⟨b2,0+i * 2+0,none⟩=some (.int .i64 (X.getD (i * 2) 0)):=by rw[show 0+i * 2+0=i * 2 by omega,load_int_at q2 (by omega),a1]
      have y0:loadV P H1 3 ⟨n,0+0,none⟩=some (.int .i64 (Y.getD (i * 2) 0)):=loadV_int (cells_at k2) agg3 rfl
      obtain⟨m1,m2⟩:=mX (i * 2)
      obtain⟨m3,m4⟩:=mY (i * 2)
      obtain⟨m5,m6⟩:=mX (i * 2+1)
      obtain⟨m7,m8⟩:=mY (i * 2+1)
      have hI0:I64 (X.getD (i * 2) 0+Y.getD (i * 2) 0):=by unfold I64; omega
      have hI1:I64 (X.getD (i * 2+1) 0+Y.getD (i * 2+1) 0):=by unfold I64; omega
      have hI:I64 ((i:Int)+1):=by unfold I64; omega
      have hcast:((i:Int)+1)=((i+1:Nat):Int):=by omega
      have s0:=store_one (a:=X.getD (i * 2) 0+Y.getD (i * 2) 0) (o:=0+i * 2+0) q2 (by omega)
      have q3:(H1.set b2 (some (.cells (ints (Z.set (0+i * 2+0) (X.getD (i * 2) 0+Y.getD (i * 2) 0))) 110 false none))).get b2=some (.cells (ints (Z.set (0+i * 2+0) (X.getD (i * 2) 0+Y.getD (i * 2) 0))) 110 false none):=by rw[Tr.get_set,if_pos rfl]
      have q4:∀ b,b≠b2→(H1.set b2 (some (.cells (ints (Z.set (0+i * 2+0) (X.getD (i * 2) 0+Y.getD (i * 2) 0))) 110 false none))).get b=H1.get b:=fun b hb=>by rw[Tr.get_set,if_neg hb]
      generalize H1.set b2 (some (.cells (ints (Z.set (0+i * 2+0) (X.getD (i * 2) 0+Y.getD (i * 2) 0))) 110 false none))=H2 at s0 q3 q4
      have z1:loadV P H2 3 ⟨b2,0+i * 2+1,none⟩=some (.int .i64 (X.getD (i * 2+1) 0)):=by
        rw[load_int_at q3 (by simp; omega),List.getD_eq_getElem?_getD,List.getElem?_set,if_neg (by omega),← List.getD_eq_getElem?_getD,show 0+i * 2+1=i * 2+1 by omega,a2]
      have y1:loadV P H2 3 ⟨n,0+1,none⟩=some (.int .i64 (Y.getD (i * 2+1) 0)):=loadV_int (cells_at ((q4 n (by omega)).trans k2)) agg3 rfl
      have s1:=store_one (a:=X.getD (i * 2+1) 0+Y.getD (i * 2+1) 0) (o:=0+i * 2+1) q3 (by simp; omega)
      simp only[at111 b2 0 hlt,bindO_some,fa53_0,fa53_1,addrV_eq,z0,y0,binK_some (bin_add hI0),storeP_leaf sz3 (show leafV (.int .i64 _)=true from rfl),s0,z1,y1,binK_some (bin_add hI1),s1,binK_some (bin_add hI),hcast]
      obtain⟨w,w1,w2⟩:=hg4
      refine ih _ _ (n+1) (by omega) (by omega) (by rw[Tr.get_set,if_pos rfl]) ⟨w,by rw[Tr.get_set,if_neg (Ne.symm hne),q4 _ (Ne.symm hne),k1 b4 hb4]; exact w1,w2⟩ ?_ hlt
      have e0:0+i * 2+0=i * 2:=by omega
      have e1:0+i * 2+1=i * 2+1:=by omega
      rw[e0,e1]
      refine⟨by rw[set_two_len]; exact lZ,fun p hp=>?_,fun p hp=>?_⟩
      · obtain⟨t1,t2⟩:=set_two_get (q:=p) lZ hlt (X.getD (i * 2) 0+Y.getD (i * 2) 0) (X.getD (i * 2+1) 0+Y.getD (i * 2+1) 0)
        rw[t1,t2]
        by_cases e:p=i
        · subst e; rw[if_pos rfl,if_pos rfl]; exact⟨rfl,rfl⟩
        · rw[if_neg e,if_neg e]; exact hZ.below p (by omega)
      · obtain⟨t1,t2⟩:=set_two_get (q:=p) lZ hlt (X.getD (i * 2) 0+Y.getD (i * 2) 0) (X.getD (i * 2+1) 0+Y.getD (i * 2+1) 0)
        rw[t1,t2,if_neg (by omega),if_neg (by omega)]
        exact hZ.above p (by omega)
    · have hi':i=8:=by omega
      subst hi'
      obtain⟨w,w1,w2⟩:=hg4
      have lens:(ints Z).length=16:=by rw[ints_length,lZ]
      rw[if_neg (by omega),addrV_eq,bindO_some,load_all hg2 agg111 sz111 lens,bindO_some,storeP_agg sz111 lens,storeN_all w1 (by rw[lens,w2]) (ints_leaf _),bindO_some,res103,
        load_all (t:=110) (s:=16) (L:=ints Z) (e:=110) (vec:=none) (by rw[Tr.get_set,if_pos rfl]) agg111 sz111 lens]
      exact⟨Z,_,_,rfl,hZ⟩
  intro m
  induction m with
  | zero=>
    intro i Z H n h1 h2 h3 h4 h5 h6 h7
    exact body _ 0 i Z H n h1 h2 h3 h4 h5 h6 (fun _ _ _ _ _ _ _ _ h=>by omega)
  | succ m ih=>
    intro i Z H n h1 h2 h3 h4 h5 h6 h7
    exact body _ (m+1) i Z H n h1 h2 h3 h4 h5 h6 (fun Z2 H2 n2 q1 q2 q3 q4 q5 q6=>ih (i+1) Z2 H2 n2 q1 q2 q3 q4 q5 (by omega) (by omega))
theorem plus_spec (c:Cal) {X Y:List Int} (hX:X.length=16) (hY:Y.length=16) (mX:Mild X) (mY:Mild Y) :
    ∃ Z H' n',C103_0 c KK (.agg ⟨ints X⟩) (.agg ⟨ints Y⟩) .nil 0=some (.agg ⟨ints Z⟩,H',n')∧PlusTo X Y Z 8:=by
  unfold C103_0 B103_0
  generalize hS:S103_1 c KK KK=S
  rw[boxK_eq,boxK_eq,allocK_eq zero111]
  simp only[cellsV,ptr]
  have g0:((((Tr.nil:Hp).set 0 (some (.cells (ints X) 110 false none))).set (0+1) (some (.cells (ints Y) 110 false none))).set (0+1+1) (some (.cells (ints (List.replicate 16 0)) 110 false none))).get 0=some (.cells (ints X) 110 false none):=by rw[Tr.get_set,if_neg (by omega),Tr.get_set,if_neg (by omega),Tr.get_set,if_pos rfl]
  have g1:((((Tr.nil:Hp).set 0 (some (.cells (ints X) 110 false none))).set (0+1) (some (.cells (ints Y) 110 false none))).set (0+1+1) (some (.cells (ints (List.replicate 16 0)) 110 false none))).get (0+1)=some (.cells (ints Y) 110 false none):=by rw[Tr.get_set,if_neg (by omega),Tr.get_set,if_pos rfl]
  have g2:((((Tr.nil:Hp).set 0 (some (.cells (ints X) 110 false none))).set (0+1) (some (.cells (ints Y) 110 false none))).set (0+1+1) (some (.cells (ints (List.replicate 16 0)) 110 false none))).get (0+1+1)=some (.cells (ints (List.replicate 16 0)) 110 false none):=by rw[Tr.get_set,if_pos rfl]
  generalize (((Tr.nil:Hp).set 0 (some (.cells (ints X) 110 false none))).set (0+1) (some (.cells (ints Y) 110 false none))).set (0+1+1) (some (.cells (ints (List.replicate 16 0)) 110 false none))=H1 at g0 g1 g2 ⊢
  rw[addrV_eq,bindO_some,load_all g1 agg111 sz111 (by rw[ints_length,hY]),bindO_some,← hS]
  exact plus_loop c KK hY mX mY 0 (0+1+1) (by omega) KK 0 X H1 (0+1+1+1) (by omega) (by omega) g0 ⟨_,g2,rfl⟩ ⟨hX,fun p hp=>by omega,fun p _=>⟨rfl,rfl⟩⟩ (by omega) (by unfold KK; omega)
theorem flat103:flatF P 103=true:=by kernel_rfl
theorem call103 (l:Nat) (a b:Value) (H:Hp) (n:Nat):(cal (l+1)).call 103 [a,b] H n=C103_0 (cal l) KK a b H n:=
  (show(cal (l+1)).call 103 [a,b] H n=quick ent103 (cal l) [a,b] H n by kernel_rfl).trans (quick_eq ..)
theorem plus_call (l:Nat) {X Y:List Int} (hX:X.length=16) (hY:Y.length=16) (mX:Mild X) (mY:Mild Y):∃ Z,PlusTo X Y Z 8∧∀(H:Hp) (n:Nat) (k:Value→Hp→Nat→Option ρ),
    callFK P (cal (l+1)) 103 [.agg ⟨ints X⟩,.agg ⟨ints Y⟩] H n k=k (.agg ⟨ints Z⟩) H n:=by
  obtain⟨Z,H',n',e,hZ⟩:=plus_spec (cal l) hX hY mX mY
  refine⟨Z,hZ,fun H n k=>callFK_pure flat103 ?_ ((call103 ..).trans e) ?_⟩
  · simp only[pureL,pureV,pureA,pure_ints,Bool.and_self]
  · simp only[pureV,pureA,pure_ints]
end Go.Proofs.Ytmpnblcfpdnlmaa.spec
end
section
namespace Go.Proofs.Ytmpnblcfpdnlmaa.spec
open Go Go.Ev Go.Proofs.Ytmpnblcfpdnlmaa.nestFits Go.Proofs.Ytmpnblcfpdnlmaa.G
set_option maxRecDepth 100000
variable {ρ:Type}
noncomputable def code66:Code:=codeOf 66
noncomputable def results66:List ResultVar:=resOf 66
noncomputable def asg66:Code:=asgOf (cL (cR (cL (cR (cR code66)))))
noncomputable def bod66:Code:=bodOf (cL (cR (cL (cR (cR code66)))))
noncomputable def K66 (c:Cal) (k:Nat):KC (Value × Hp × Nat):=codeE P c (codeF P c k) none 66 (cR (cR (cR code66))) .leaf (doneK P results66) X0 (doneK P results66)
noncomputable def T66 (v0 v1 v3 v4 v5 v9 v10:Value):Tm:=((((((((Tr.nil:Tm).set 0 (some v0)).set 1 (some v1)).set 3 (some v3)).set 4 (some v4)).set 5 (some v5)).set 8 (some v0)).set 9 (some v9)).set 10 (some v10)
theorem pre66 (c:Cal) (k:Nat) (v0 v1:Value) (H:Hp) (n:Nat):bodyE P c A (k+1) 66 [v0,v1] H n =
    (boxK 120 v1 H n fun v3 H n=>allocK P 110 H n fun v4 H n=>allocK P 110 H n fun v5 H n=>bindO (addrV v3) fun a=>bindO (loadV P H 120 a) fun v9=>callFK P c 74 [v0,v9] H n fun v10 H n=>
      rangeK P c none 66 v10 #[11,12] asg66 bod66 (K66 c k) (upX 0 (K66 c k) X0) (doneK P results66) (T66 v0 v1 v3 v4 v5 v9 v10) H n []):=by
  rw[body_eq (fn:=Go.Proofs.Try.f66) (c:=code66) (rs:=results66) (by kernel_rfl) (by kernel_rfl) (by kernel_rfl) (by kernel_rfl)]
  kernel_rfl
theorem post66 (c:Cal) (k:Nat) (v0 v1 v3 v4 v5 v9 v10:Value) (H:Hp) (n:Nat) (D:List Nat):K66 c k (T66 v0 v1 v3 v4 v5 v9 v10) H n D =
    (bindO (addrV v5) fun a=>bindO (loadV P H 110 a) fun v17=>bindO (storeP P 110 v4 v17 H) fun H=>getK (takeD H D) fun H=>bindO (resV P ((Tr.nil:Tm).set 4 (some v4)) H results66) fun vs=>some (oneV vs,H,n)):=by
  kernel_rfl
theorem call66 (l:Nat) (a b:Value) (H:Hp) (n:Nat):(cal (l+1)).call 66 [a,b] H n=bodyE P (cal l) A (KK+1) 66 [a,b] H n:=by kernel_rfl
theorem asg66_eq (l lp:Nat) (v0 v1 v3 v4 v5 v9 v10 p q:Value) (H:Hp) (n:Nat) :
    (cal (l+1)).body lp 66 asg66 { T:=((T66 v0 v1 v3 v4 v5 v9 v10).set 11 (some p)).set 12 (some q),H,n,D:=[] } =
      (allocK P 112 H n fun v7 H n=>bindO (storeP P 112 v7 q H) fun H=>some (.norm,{ T:=(((T66 v0 v1 v3 v4 v5 v9 v10).set 11 (some p)).set 12 (some q)).set 7 (some v7),H,n,D:=[] })):=by kernel_rfl
theorem bod66_eq (l lp:Nat) (v0 v1 v3 v4 v5 v9 v10 p q v7:Value) (H:Hp) (n:Nat) :
    (cal (l+1)).body lp 66 bod66 { T:=(((T66 v0 v1 v3 v4 v5 v9 v10).set 11 (some p)).set 12 (some q)).set 7 (some v7),H,n,D:=[] } =
      (bindO (addrV v5) fun a=>bindO (loadV P H 110 a) fun v13=>bindO (fieldAddrV P 112 v7 2) fun v14=>bindO (addrV v14) fun a=>bindO (loadV P H 110 a) fun v15=>callFK P (cal l) 103 [v13,v15] H n fun v16 H n=>bindO (storeP P 110 v5 v16 H) fun H=>
        some (.norm,{ T:=(((((((T66 v0 v1 v3 v4 v5 v9 v10).set 11 (some p)).set 12 (some q)).set 7 (some v7)).set 13 (some v13)).set 14 (some v14)).set 15 (some v15)).set 16 (some v16),H,n,D:=[] })):=by kernel_rfl
theorem res66 (H:Hp) (b:Nat):resV P ((Tr.nil:Tm).set 4 (some (.pointer (some ⟨b,0,none⟩)))) H results66=(match loadV P H 110 ⟨b,0,none⟩ with
  | none=>none
  | some v=>some [v]):=by kernel_rfl
theorem ntm66:ntm P 66=18:=by kernel_rfl
theorem flat74:flatF P 74=false:=by kernel_rfl
theorem call74 (l:Nat) (a b:Value) (H:Hp) (n:Nat):(cal (l+1)).call 74 [a,b] H n=C74_0 (cal l) KK a b H n:=by kernel_rfl
theorem call104 (l:Nat) (a b c:Value) (H:Hp) (n:Nat):(cal (l+1)).call 104 [a,b,c] H n=C104_0 (cal l) KK a b c H n:=by kernel_rfl
theorem placed_call (l:Nat) (g:Nat) {L:List Int} (H:Hp) (n:Nat) (k:Value→Hp→Nat→Option ρ):callFK P (cal (l+1)) 74 [.pointer (some ⟨g,0,none⟩),.agg ⟨ints L⟩] H n k =
    k (.func (.func 104) ⟨[]⟩ ⟨[.pointer (some ⟨n+1,0,none⟩),.pointer (some ⟨n,0,none⟩)]⟩) ((H.set n (some (.cells [.pointer (some ⟨g,0,none⟩)] 104 false none))).set (n+1) (some (.cells (ints L) 120 false none))) (n+2):=by
  unfold callFK
  rw[flat74,call74]
  rfl
theorem range66 (c:Cal) (a b:Value) (K:KC (Value × Hp × Nat)) (X:XC (Value × Hp × Nat)) (Kr:KC (Value × Hp × Nat)) (T:Tm) (H:Hp) (n:Nat) :
    rangeK P c none 66 (.func (.func 104) ⟨[]⟩ ⟨[a,b]⟩) #[11,12] asg66 bod66 K X Kr T H n [] =
      callFK P c 104 [.func (.yield (n+1)) #[] #[],a,b] ((H.set n (some .deferred)).set (n+1) (some (.loop .ready none 66 T (ntm P 66) #[11,12] asg66 bod66 n))) (n+2) fun _ H n'=>fin K X Kr (rangeOut (n+1) { T:=T,H,n:=n',D:=[n] }):=rfl
theorem yield66 (L:Nat) {H:Hp} {n lb b5 d:Nat} {v0 v1 v3 v4 v9 v10 q0:Value} {X S B:List Int} {y:Int} (hl:H.get lb=some (.loop .ready none 66 (T66 v0 v1 v3 v4 (.pointer (some ⟨b5,0,none⟩)) v9 v10) (ntm P 66) #[11,12] asg66 bod66 d))
    (h5:H.get b5=some (.cells (ints X) 110 false none)) (hX:X.length=16) (hS:S.length=16) (hB:B.length=16) (mX:Mild X) (mB:Mild B) (n5:b5≠lb) (hln:lb<n) (h5n:b5<n) :
    ∃ Z H',PlusTo X B Z 8∧(∀ k:Value→Hp→Nat→Option ρ,callVK P (cal (L+2)) (.func (.yield lb) #[] #[]) [q0,.agg ⟨ints (nestL y S B)⟩] H n k=k (.bool true) H' (n+1))∧H'.get lb=H.get lb ∧
      H'.get b5=some (.cells (ints Z) 110 false none)∧∀ b,b<n→b≠lb→b≠b5→H'.get b=H.get b:=by
  obtain⟨Z,hZ,hplus⟩:=plus_call (ρ:=Ex × St) L hX hB mX mB
  have lens:(ints (nestL y S B)).length=33:=by rw[ints_length,nest_cells hS hB]
  have hpar:paramsT (T66 v0 v1 v3 v4 (.pointer (some ⟨b5,0,none⟩)) v9 v10) (ntm P 66) (#[11,12]:Array Tmp).toList [q0,.agg ⟨ints (nestL y S B)⟩]=some (((T66 v0 v1 v3 v4 (.pointer (some ⟨b5,0,none⟩)) v9 v10).set 11 (some q0)).set 12 (some (.agg ⟨ints (nestL y S B)⟩))):=by
    rw[ntm66]; rfl
  generalize hT:T66 v0 v1 v3 v4 (.pointer (some ⟨b5,0,none⟩)) v9 v10=T at hl hpar
  obtain⟨H1,k1,k2,k3⟩:=spill (P:=P) (ρ:=Ex × St) (H:=H) (n:=n) (L:=ints (nestL y S B)) zero113 (by show(ints (nestL 0 zeros zeros)).length=33; rw[ints_length,nest_cells zeros_len zeros_len]) sz113 lens (ints_leaf _)
  have hasg:(cal (L+2)).body lb 66 asg66 { T:=(T.set 11 (some q0)).set 12 (some (.agg ⟨ints (nestL y S B)⟩)),H,n,D:=[] }=some (.norm,{ T:=((T.set 11 (some q0)).set 12 (some (.agg ⟨ints (nestL y S B)⟩))).set 7 (some (.pointer (some ⟨n,0,none⟩))),H:=H1,n:=n+1,D:=[] }):=by
    rw[← hT,asg66_eq,k3]
  have hl1:=(k1 lb hln).trans hl
  have h51:=(k1 b5 h5n).trans h5
  have hrdy:isReady H1 lb=true:=by unfold isReady; rw[hl1]
  have hpen:pendingOf H1 lb=none:=by unfold pendingOf; rw[hl1]
  have hbusy:setLoop H1 lb .busy none=some (H1.set lb (some (.loop .busy none 66 T (ntm P 66) #[11,12] asg66 bod66 d))):=by unfold setLoop; rw[hl1]
  have g5:(H1.set lb (some (.loop .busy none 66 T (ntm P 66) #[11,12] asg66 bod66 d))).get b5=some (.cells (ints X) 110 false none):=by rw[Tr.get_set,if_neg n5]; exact h51
  have g7:(H1.set lb (some (.loop .busy none 66 T (ntm P 66) #[11,12] asg66 bod66 d))).get n=some (.cells (ints (nestL y S B)) 112 false none):=by rw[Tr.get_set,if_neg (by omega)]; exact k2
  have gl:(H1.set lb (some (.loop .busy none 66 T (ntm P 66) #[11,12] asg66 bod66 d))).get lb=some (.loop .busy none 66 T (ntm P 66) #[11,12] asg66 bod66 d):=by rw[Tr.get_set,if_pos rfl]
  have ho:∀ b,b≠lb→(H1.set lb (some (.loop .busy none 66 T (ntm P 66) #[11,12] asg66 bod66 d))).get b=H1.get b:=fun b hb=>by rw[Tr.get_set,if_neg hb]
  generalize H1.set lb (some (.loop .busy none 66 T (ntm P 66) #[11,12] asg66 bod66 d))=H2 at hbusy g5 g7 gl ho
  have hnb:loadV P H2 110 ⟨n,0+17,none⟩=some (.agg ⟨ints B⟩):=by
    have:=loadV_agg (P:=P) (k:=17) (cells_at g7) agg111 sz111 (by rw[lens]; omega) (ints_noHole _)
    have e:((ints (nestL y S B)).drop 17).take 16=ints B:=by
      rw[ints_cut]
      congr 1
      unfold nestL
      rw[List.drop_succ_cons,List.drop_left' hS,← hB,List.take_length]
    rw[e] at this
    exact this
  have lX:(ints X).length=16:=by rw[ints_length,hX]
  have lZ:(ints Z).length=16:=by rw[ints_length,hZ.len]
  have hst:=storeN_all (vs:=ints Z) g5 (by rw[lX,lZ]) (ints_leaf _)
  have q5:(H2.set b5 (some (.cells (ints Z) 110 false none))).get b5=some (.cells (ints Z) 110 false none):=by rw[Tr.get_set,if_pos rfl]
  have ql:(H2.set b5 (some (.cells (ints Z) 110 false none))).get lb=some (.loop .busy none 66 T (ntm P 66) #[11,12] asg66 bod66 d):=by rw[Tr.get_set,if_neg (Ne.symm n5)]; exact gl
  have qo:∀ b,b≠lb→b≠b5→(H2.set b5 (some (.cells (ints Z) 110 false none))).get b=H1.get b:=fun b hb hb5=>by rw[Tr.get_set,if_neg hb5]; exact ho b hb
  have hbody:∃ T',(cal (L+2)).body lb 66 bod66 { T:=((T.set 11 (some q0)).set 12 (some (.agg ⟨ints (nestL y S B)⟩))).set 7 (some (.pointer (some ⟨n,0,none⟩))),H:=H2,n:=n+1,D:=[] }=some (.norm,{ T:=T',H:=H2.set b5 (some (.cells (ints Z) 110 false none)),n:=n+1,D:=[] }):=by
    rw[← hT,bod66_eq (L+1),addrV_eq,bindO_some,load_all g5 agg111 sz111 lX,bindO_some,fa113_2,bindO_some,addrV_eq,bindO_some,hnb,bindO_some,hplus,storeP_agg sz111 lZ,hst,bindO_some]
    exact⟨_,rfl⟩
  generalize H2.set b5 (some (.cells (ints Z) 110 false none))=H3 at q5 ql qo hbody
  obtain⟨T',hbody⟩:=hbody
  have hend:setLoop H3 lb .ready none=some (H3.set lb (some (.loop .ready none 66 T (ntm P 66) #[11,12] asg66 bod66 d))):=by unfold setLoop; rw[ql]
  refine⟨Z,H3.set lb (some (.loop .ready none 66 T (ntm P 66) #[11,12] asg66 bod66 d)),hZ,fun k=>?_,by rw[Tr.get_set,if_pos rfl,hl],by rw[Tr.get_set,if_neg n5]; exact q5,fun b hbn hb hb5=>by rw[Tr.get_set,if_neg hb,qo b hb hb5]; exact k1 b hbn⟩
  show stK (yieldF (fun | some l=>(cal (L+2)).body l | none=>fun _ _ _=>none) P lb [q0,.agg ⟨ints (nestL y S B)⟩] (bare H n)) k=_
  have hy:yieldF (fun | some l=>(cal (L+2)).body l | none=>fun _ _ _=>none) P lb [q0,.agg ⟨ints (nestL y S B)⟩] (bare H n)=some (.bool true,{ bare H n with H:=H3.set lb (some (.loop .ready none 66 T (ntm P 66) #[11,12] asg66 bod66 d)),n:=n+1 }):=by
    unfold yieldF
    have hb:Nat.beq (ntm P 66) (ntm P 66)=true:=Nat.beq_refl _
    have hx:exCode .norm=some none:=rfl
    simp only[bare,hl,hb,hpar,hasg,hrdy,hpen,hbusy,hbody,hx,Option.isNone_none,if_true,hend]
  rw[hy]
  rfl
end Go.Proofs.Ytmpnblcfpdnlmaa.spec
end
section
namespace Go.Proofs.Ytmpnblcfpdnlmaa.spec
open Go Go.Ev Go.Proofs.Ytmpnblcfpdnlmaa.nestFits Go.Proofs.Ytmpnblcfpdnlmaa.G
set_option maxRecDepth 100000
variable {ρ:Type}
def KindsIn (L:List Int) (np nk:Nat):Prop:=∀ i,i<8→L.getD i 0=-1∨(i<np∧∃ kd:Nat,kd<nk∧L.getD i 0=kd)
theorem iter104_loop (c:Cal) (k:Nat) (yv:Value) (sb g np nj nk:Nat) (js ks L:List Int) (hL:L.length=8) (hK:KindsIn L np nk) (hnp:np≤8) (hnk:nk≤3) (Inv:Nat→Hp→Nat→Prop)
    (hR:∀ i H n,Inv i H n→loadV P H 104 ⟨sb,0,none⟩=some (.pointer (some ⟨g,0,none⟩))∧∀ p kd,p<np→kd<nk→∃ B,BoundsTo (ks.getD (kd * 5) 0) (shP js ks nj np p kd) B 8∧loadV P H 112 ⟨g,0+67+p * 99+kd * 33,none⟩=some (.agg ⟨ints (nestL (ks.getD (kd * 5) 0) (shP js ks nj np p kd) B)⟩))
    (hY:∀(i:Nat) (H:Hp) (n kd:Nat) (B:List Int),Inv i H n→i<np→kd<nk→L.getD i 0=kd→BoundsTo (ks.getD (kd * 5) 0) (shP js ks nj np i kd) B 8 →
      ∃ H' n',(∀ k:Value→Hp→Nat→Res,callVK P c yv [.int .i64 i,.agg ⟨ints (nestL (ks.getD (kd * 5) 0) (shP js ks nj np i kd) B)⟩] H n k=k (.bool true) H' n')∧Inv (i+1) H' n')
    (hSkip:∀(i:Nat) (H:Hp) (n:Nat),Inv i H n→L.getD i 0=-1→Inv (i+1) H n):∀(m i:Nat) (H:Hp) (n:Nat),Inv i H n→i≤8→8-i≤m →
    ∃ H' n',S104_1 c k m yv (.pointer (some ⟨sb,0,none⟩)) (.agg ⟨ints L⟩) (.int .i64 i) H n=some (.tuple ⟨[]⟩,H',n')∧Inv 8 H' n':=by
  have body:∀(b1:Value→Value→Value→Value→Hp→Nat→Res) (m i:Nat) (H:Hp) (n:Nat),Inv i H n→i≤8 →
      (∀ H' n',Inv (i+1) H' n'→i<8→∃ H2 n2,b1 yv (.pointer (some ⟨sb,0,none⟩)) (.agg ⟨ints L⟩) (.int .i64 ((i+1:Nat):Int)) H' n'=some (.tuple ⟨[]⟩,H2,n2)∧Inv 8 H2 n2) →
      ∃ H' n',C104_1 c k m b1 yv (.pointer (some ⟨sb,0,none⟩)) (.agg ⟨ints L⟩) (.int .i64 i) H n=some (.tuple ⟨[]⟩,H',n')∧Inv 8 H' n':=by
    intro b1 m i H n hI hi ih
    unfold C104_1 B104_1
    rw[binK_some bin_lss,ifK_d]
    by_cases hlt:i<8
    · have hI1:I64 ((i:Int)+1):=by unfold I64; omega
      have hcast:((i:Int)+1)=((i+1:Nat):Int):=by omega
      rw[if_pos (by omega),index121 hL hlt,bindO_some,binK_some bin_neq]
      rcases hK i hlt with h | ⟨hip,kd,hkd,h⟩
      · have hd:decide (L.getD i 0=-1)=true:=decide_eq_true h
        simp only[hd,Bool.not_true,guardK_ft,guardK_u,pickV_f,bindO_some,ifK_f,binK_some (bin_add hI1),hcast]
        exact ih H n (hSkip i H n hI h) hlt
      · have hd:decide (L.getD i 0=-1)=false:=decide_eq_false (by omega)
        obtain⟨r1,r2⟩:=hR _ _ _ hI
        obtain⟨B,hB,hn⟩:=r2 i kd hip hkd
        obtain⟨H1,n1,e1,e2⟩:=hY i H n kd B hI hip hkd h hB
        rw[hd,h]
        simp only[Bool.not_false,guardK_tt,addrV_eq,bindO_some,r1,nil_ptr,fa117_2,at115 _ _ hlt,at114 _ _ (show kd<3 by omega),hn,e1,not_t,pickV_t,ifK_f,binK_some (bin_add hI1),hcast]
        exact ih H1 n1 e2 hlt
    · rw[if_neg (by omega)]
      have hi':i=8:=by omega
      subst hi'
      exact⟨H,n,rfl,hI⟩
  intro m
  induction m with
  | zero=>intro i H n h1 h2 h3; exact body _ 0 i H n h1 h2 (fun _ _ _ h=>by omega)
  | succ m ih=>intro i H n h1 h2 h3; exact body _ (m+1) i H n h1 h2 (fun H' n' q1 q2=>ih (i+1) H' n' q1 (by omega) (by omega))
noncomputable def bsum (js ks L:List Int) (nj np i e q:Nat):Int:=sumTo (fun p=>if L.getD p 0=-1 then 0 else ext (ks.getD ((L.getD p 0).toNat * 5) 0) (shP js ks nj np p (L.getD p 0).toNat) e q) i
theorem ext_mild {y:Int} {S:List Int} (hS:Bounded S) (hy:0≤y∧y≤1000) {e q:Nat} (he:e<2):-10000≤ext y S e q∧ext y S e q≤10000:=by
  obtain⟨a1,a2⟩:=hS (q * 2+e)
  obtain⟨b1,b2⟩:=hS (q * 2+(1-e))
  obtain⟨c1,c2⟩:=total_range hS (1-e)
  unfold ext
  match e,he with
  | 0,_=>unfold lim; simp only at *; omega
  | 1,_=>unfold lim; simp only at *; omega
theorem sumTo_mild {f:Nat→Int} {c:Int} (hc:0≤c):∀ {i:Nat},(∀ k,k<i→-c≤f k∧f k≤c)→-(c * i)≤sumTo f i∧sumTo f i≤c * i
  | 0,_=>by simp [sumTo]
  | i+1,h=>by
    obtain⟨h1,h2⟩:=sumTo_mild hc (i:=i) (fun k hk=>h k (by omega))
    obtain⟨g1,g2⟩:=h i (by omega)
    simp only[sumTo]
    have:c * ((i+1:Nat):Int)=c * i+c:=by rw[Int.natCast_add,Int.mul_add]; simp
    omega
theorem bsum_mild {js ks L:List Int} {nj np nk i e q:Nat} (hks:KindsOk ks nk) (hnp:np≤8) (hK:KindsIn L np nk) (hi:i≤8) (he:e<2):-1000000≤bsum js ks L nj np i e q∧bsum js ks L nj np i e q≤1000000:=by
  have h:=sumTo_mild (f:=fun p=>if L.getD p 0=-1 then 0 else ext (ks.getD ((L.getD p 0).toNat * 5) 0) (shP js ks nj np p (L.getD p 0).toNat) e q) (c:=10000) (by omega) (i:=i) (fun p hp=>by
    split
    · omega
    · rename_i hne
      rcases hK p (by omega) with h | ⟨hip,kd,hkd,h⟩
      · exact absurd h hne
      · rw[h,Int.toNat_natCast]
        obtain⟨y1,_,_⟩:=hks kd hkd
        exact ext_mild (shP_bounded hks hkd hnp hip) y1 he)
  unfold bsum
  omega
def RowIs (X:List Int) (js ks L:List Int) (nj np i:Nat):Prop:=X.length=16∧∀ q,q<8→X.getD (q * 2) 0=bsum js ks L nj np i 0 q∧X.getD (q * 2+1) 0=bsum js ks L nj np i 1 q
theorem row_mild {X:List Int} (hl:X.length=16) (h:∀ q,q<8→(-1000000≤X.getD (q * 2) 0∧X.getD (q * 2) 0≤1000000)∧(-1000000≤X.getD (q * 2+1) 0∧X.getD (q * 2+1) 0≤1000000)):Mild X:=by
  intro k
  by_cases hk:k<16
  · obtain⟨h1,h2⟩:=h (k / 2) (by omega)
    rcases Nat.mod_two_eq_zero_or_one k with z | z
    · rw[show k / 2 * 2=k by omega] at h1; exact h1
    · rw[show k / 2 * 2+1=k by omega] at h2; exact h2
  · rw[List.getD_eq_getElem?_getD,List.getElem?_eq_none (by omega)]
    simp
theorem bounds_spec (l:Nat) {H:Hp} {n g np nj nk:Nat} {f:Nat→Value} {js ks L:List Int} (hgn:g<n) (hf:CellsF H g 859 116 f) (hn:∀ p kd,p<np→kd<nk→NestAt f js ks nj np p kd) (hks:KindsOk ks nk) (hnp:np≤8) (hnk:nk≤3) (hL:L.length=8) (hK:KindsIn L np nk) :
    ∃ X,RowIs X js ks L nj np 8∧Ret ((cal (l+4)).call 66 [.pointer (some ⟨g,0,none⟩),.agg ⟨ints L⟩] H n) n H (.agg ⟨ints X⟩):=by
  have lens:(ints L).length=8:=by rw[ints_length,hL]
  rw[call66,pre66]
  simp only[boxK_eq,allocK_eq zero111,cellsV,ptr]
  generalize hH0:((H.set n (some (.cells (ints L) 120 false none))).set (n+1) (some (.cells (ints (List.replicate 16 0)) 110 false none))).set (n+1+1) (some (.cells (ints (List.replicate 16 0)) 110 false none))=H0
  have k0:Keep n H H0:=fun b hb=>by rw[← hH0,Tr.get_set,if_neg (by omega),Tr.get_set,if_neg (by omega),Tr.get_set,if_neg (by omega)]
  have p0:H0.get n=some (.cells (ints L) 120 false none):=by rw[← hH0,Tr.get_set,if_neg (by omega),Tr.get_set,if_neg (by omega),Tr.get_set,if_pos rfl]
  have p1:H0.get (n+1)=some (.cells (ints (List.replicate 16 0)) 110 false none):=by rw[← hH0,Tr.get_set,if_neg (by omega),Tr.get_set,if_pos rfl]
  have p2:H0.get (n+1+1)=some (.cells (ints (List.replicate 16 0)) 110 false none):=by rw[← hH0,Tr.get_set,if_pos rfl]
  clear hH0
  rw[addrV_eq,bindO_some,load_all p0 agg121 sz121 lens,bindO_some,placed_call (l+2),range66]
  generalize hH1:(H0.set (n+1+1+1) (some (.cells [.pointer (some ⟨g,0,none⟩)] 104 false none))).set (n+1+1+1+1) (some (.cells (ints L) 120 false none))=H1
  have k1:∀ b,b<n+1+1+1→H1.get b=H0.get b:=fun b hb=>by rw[← hH1,Tr.get_set,if_neg (by omega),Tr.get_set,if_neg (by omega)]
  have q3:H1.get (n+1+1+1)=some (.cells [.pointer (some ⟨g,0,none⟩)] 104 false none):=by rw[← hH1,Tr.get_set,if_neg (by omega),Tr.get_set,if_pos rfl]
  have q4:H1.get (n+1+1+1+1)=some (.cells (ints L) 120 false none):=by rw[← hH1,Tr.get_set,if_pos rfl]
  clear hH1
  generalize hT:T66 (.pointer (some ⟨g,0,none⟩)) (.agg ⟨ints L⟩) (.pointer (some ⟨n,0,none⟩)) (.pointer (some ⟨n+1,0,none⟩)) (.pointer (some ⟨n+1+1,0,none⟩)) (.agg ⟨ints L⟩) (.func (.func 104) ⟨[]⟩ ⟨[.pointer (some ⟨n+1+1+1+1,0,none⟩),.pointer (some ⟨n+1+1+1,0,none⟩)]⟩)=T
  have hc104:∀(a b c:Value) (H:Hp) (n:Nat) (k:Value→Hp→Nat→Res),pureV b=false→callFK P (cal (l+3)) 104 [a,b,c] H n k=bindO (C104_0 (cal (l+2)) KK a b c H n) fun r=>k r.1 r.2.1 r.2.2:=by
    intro a b c H n k hb
    unfold callFK
    have:(flatF P 104 && pureL [a,b,c])=false:=by simp [pureL,hb]
    rw[this,call104]
  rw[hc104 _ _ _ _ _ _ rfl]
  generalize hH2:(H1.set (n+1+1+1+2) (some .deferred)).set (n+1+1+1+2+1) (some (.loop .ready none 66 T (ntm P 66) #[11,12] asg66 bod66 (n+1+1+1+2)))=H2
  have r1:∀ b,b<n+1+1+1+2→H2.get b=H1.get b:=fun b hb=>by rw[← hH2,Tr.get_set,if_neg (by omega),Tr.get_set,if_neg (by omega)]
  have r2:H2.get (n+1+1+1+2)=some .deferred:=by rw[← hH2,Tr.get_set,if_neg (by omega),Tr.get_set,if_pos rfl]
  have r3:H2.get (n+1+1+1+2+1)=some (.loop .ready none 66 T (ntm P 66) #[11,12] asg66 bod66 (n+1+1+1+2)):=by rw[← hH2,Tr.get_set,if_pos rfl]
  clear hH2
  have hg2:H2.get g=H.get g:=by rw[r1 _ (by omega),k1 _ (by omega),k0 _ hgn]
  have l104:loadV P H2 120 ⟨n+1+1+1+1,0,none⟩=some (.agg ⟨ints L⟩):=load_all (by rw[r1 _ (by omega)]; exact q4) agg121 sz121 lens
  have base:RowIs (List.replicate 16 0) js ks L nj np 0:=⟨rfl,fun q hq=>by
    have z:∀ k:Nat,(List.replicate 16 (0:Int)).getD k 0=0:=by
      intro k
      rw[List.getD_eq_getElem?_getD,List.getElem?_replicate]
      split <;> rfl
    rw[z,z]; exact⟨rfl,rfl⟩⟩
  obtain⟨H3,n3,e3,i0,i1,X,i2,i3,i4⟩:=iter104_loop (cal (l+2)) KK (.func (.yield (n+1+1+1+2+1)) #[] #[]) (n+1+1+1) g np nj nk js ks L hL hK hnp hnk
    (fun i Hc nc=>n+1+1+1+2+2≤nc∧Hc.get (n+1+1+1+2+1)=some (.loop .ready none 66 T (ntm P 66) #[11,12] asg66 bod66 (n+1+1+1+2))∧∃ X,Hc.get (n+1+1)=some (.cells (ints X) 110 false none)∧(i≤8→RowIs X js ks L nj np i)∧∀ b,b<n+1+1+1+2+2→b≠n+1+1+1+2+1→b≠n+1+1→Hc.get b=H2.get b)
    (fun i Hc nc ⟨_,_,X,_,_,h⟩=>by
      refine⟨loadV_scalar (o:=0) (k:=0) (cells_at (by rw[h _ (by omega) (by omega) (by omega),r1 _ (by omega)]; exact q3)) agg105 rfl rfl rfl,fun p kd hp hkd=>?_⟩
      have cg:CellsF Hc g 859 116 f:=by
        obtain⟨c,e1,e2,e3⟩:=hf
        exact⟨c,by rw[h _ (by omega) (by omega) (by omega),hg2]; exact e1,e2,e3⟩
      exact nest_load cg (hn p kd hp hkd) (by omega) (by omega))
    (fun i Hc nc kd B ⟨h1,h2,X,h3,h4,h5⟩ hip hkd hLi hB=>by
      have hX:=h4 (by omega)
      obtain⟨y1,_,_⟩:=hks kd hkd
      have hsb:=shP_bounded (js:=js) (nj:=nj) hks hkd hnp hip
      have mX:Mild X:=row_mild hX.1 fun q hq=>by
        obtain⟨a,b⟩:=hX.2 q hq
        rw[a,b]; exact⟨bsum_mild hks hnp hK (by omega) (by omega),bsum_mild hks hnp hK (by omega) (by omega)⟩
      have mB:Mild B:=row_mild hB.1 fun q hq=>by
        obtain⟨a,b⟩:=hB.2 q hq
        have e0:=ext_mild hsb y1 (e:=0) (q:=q) (by omega)
        have e1:=ext_mild hsb y1 (e:=1) (q:=q) (by omega)
        rw[a,b]; omega
      rw[← hT] at h2
      obtain⟨Z,H',z1,z2,z3,z4,z5⟩:=yield66 (ρ:=Value × Hp × Nat) l (n:=nc) (q0:=.int .i64 i) (y:=ks.getD (kd * 5) 0) h2 h3 hX.1 (shP_len ..) hB.1 mX mB (by omega) (by omega) (by omega)
      refine⟨H',nc+1,z2,by omega,by rw[z3,h2,hT],Z,z4,fun _=>⟨z1.len,fun q hq=>?_⟩,fun b hb hb1 hb2=>(z5 b (by omega) hb1 hb2).trans (h5 b hb hb1 hb2)⟩
      obtain⟨a1,a2⟩:=z1.below q hq
      obtain⟨b1,b2⟩:=hX.2 q hq
      obtain⟨c1,c2⟩:=hB.2 q hq
      have hne:¬ L.getD i 0=-1:=by omega
      rw[a1,a2,b1,b2,c1,c2]
      unfold bsum
      simp only[sumTo]
      rw[if_neg hne,if_neg hne,hLi,Int.toNat_natCast]
      exact⟨rfl,rfl⟩)
    (fun i Hc nc ⟨h1,h2,X,h3,h4,h5⟩ hLi=>⟨h1,h2,X,h3,fun h8=>⟨(h4 (by omega)).1,fun q hq=>by
      obtain⟨b1,b2⟩:=(h4 (by omega)).2 q hq
      rw[b1,b2]
      unfold bsum
      simp only[sumTo]
      rw[if_pos hLi,if_pos hLi]
      omega⟩,h5⟩)
    KK 0 H2 (n+1+1+1+2+2) ⟨Nat.le_refl _,r3,List.replicate 16 0,by rw[r1 _ (by omega),k1 _ (by omega)]; exact p2,fun _=>base,fun _ _ _ _=>rfl⟩ (by omega) (by unfold KK; omega)
  have e3':C104_0 (cal (l+2)) KK (.func (.yield (n+1+1+1+2+1)) #[] #[]) (.pointer (some ⟨n+1+1+1+1,0,none⟩)) (.pointer (some ⟨n+1+1+1,0,none⟩)) H2 (n+1+1+1+2+2)=some (.tuple ⟨[]⟩,H3,n3):=by
    unfold C104_0 B104_0
    rw[addrV_eq,bindO_some,l104,bindO_some]
    exact e3
  rw[e3',bindO_some]
  have hout:rangeOut (n+1+1+1+2+1) { T:=T,H:=H3,n:=n3,D:=[n+1+1+1+2] }=some (.norm,{ T:=T,H:=H3.set (n+1+1+1+2+1) (some (.loop .exhausted none 66 T (ntm P 66) #[11,12] asg66 bod66 (n+1+1+1+2))),n:=n3,D:=[n+1+1+1+2] }):=by
    unfold rangeOut
    simp only[i1]
  rw[hout]
  show ∃ X,RowIs X js ks L nj np 8∧Ret (K66 (cal (l+3)) KK T (H3.set (n+1+1+1+2+1) (some (.loop .exhausted none 66 T (ntm P 66) #[11,12] asg66 bod66 (n+1+1+1+2)))) n3 [n+1+1+1+2]) n H (.agg ⟨ints X⟩)
  have hRow:=i3 (by omega)
  have lX:(ints X).length=16:=by rw[ints_length,hRow.1]
  generalize hH4:H3.set (n+1+1+1+2+1) (some (.loop .exhausted none 66 T (ntm P 66) #[11,12] asg66 bod66 (n+1+1+1+2)))=H4
  have o1:∀ b,b<n+1+1+1+2+2→b≠n+1+1+1+2+1→b≠n+1+1→H4.get b=H2.get b:=fun b hb hb1 hb2=>by rw[← hH4,Tr.get_set,if_neg hb1]; exact i4 b hb hb1 hb2
  have o2:H4.get (n+1+1)=some (.cells (ints X) 110 false none):=by rw[← hH4,Tr.get_set,if_neg (by omega)]; exact i2
  clear hH4 hout
  have o3:H4.get (n+1)=some (.cells (ints (List.replicate 16 0)) 110 false none):=by rw[o1 _ (by omega) (by omega) (by omega),r1 _ (by omega),k1 _ (by omega)]; exact p1
  have o4:H4.get (n+1+1+1+2)=some .deferred:=by rw[o1 _ (by omega) (by omega) (by omega)]; exact r2
  refine⟨X,hRow,?_⟩
  rw[← hT,post66,addrV_eq,bindO_some,load_all o2 agg111 sz111 lX,bindO_some,storeP_agg sz111 lX,storeN_all o3 (by rw[lX]; rfl) (ints_leaf _),bindO_some]
  generalize hH6:H4.set (n+1) (some (.cells (ints X) 110 false none))=H6
  have u1:H6.get (n+1)=some (.cells (ints X) 110 false none):=by rw[← hH6,Tr.get_set,if_pos rfl]
  have u2:∀ b,b≠n+1→H6.get b=H4.get b:=fun b hb=>by rw[← hH6,Tr.get_set,if_neg hb]
  clear hH6
  have ht:takeD H6 [n+1+1+1+2]=some (H6.set (n+1+1+1+2) none):=by
    have:H6.get (n+1+1+1+2)=some .deferred:=by rw[u2 _ (by omega)]; exact o4
    unfold takeD
    simp only[this]
    rfl
  rw[ht]
  show Ret (bindO (resV P ((Tr.nil:Tm).set 4 (some (.pointer (some ⟨n+1,0,none⟩)))) (H6.set (n+1+1+1+2) none) results66) fun vs=>some (oneV vs,H6.set (n+1+1+1+2) none,n3)) n H _
  rw[res66,load_all (t:=110) (s:=16) (L:=ints X) (e:=110) (vec:=none) (by rw[Tr.get_set,if_neg (by omega)]; exact u1) agg111 sz111 lX]
  refine⟨_,_,rfl,by omega,fun b hb=>?_⟩
  rw[Tr.get_set,if_neg (by omega),u2 _ (by omega),o1 _ (by omega) (by omega) (by omega),r1 _ (by omega),k1 _ (by omega),k0 _ hb]
end Go.Proofs.Ytmpnblcfpdnlmaa.spec
end
section
namespace Go.Proofs.Ytmpnblcfpdnlmaa.spec
open Go Go.Ev Go.Proofs.Ytmpnblcfpdnlmaa.nestFits Go.Proofs.Ytmpnblcfpdnlmaa.G
set_option maxRecDepth 100000
variable {ρ:Type}
theorem laid_kinds {js ks ls:List Int} {nj np nk:Nat} (hl:ls.length=np) (hok:laidOk js ks ls nj np nk):KindsIn (laidL ls np) np nk:=by
  intro i hi
  rcases Nat.lt_or_ge i np with h | h
  · rw[laidL_in hl h]
    rcases hok i h with q | ⟨q1,q2,_⟩
    · exact .inl q
    · exact .inr ⟨h,(ls.getD i 0).toNat,by omega,by omega⟩
  · exact .inl (laidL_out hl h hi)
theorem limit_loads {H:Hp} {n g np p:Nat} {f:Nat→Value} {x y z:Value} {ps js X:List Int} {nj b:Nat} (hf:CellsF H g 859 116 f) (hs:SiteF f x y z js nj) (hx:SliceR H n 2 x np ps) (hp:p<np) (hnp:np≤8) (hb:H.get b=some (.cells (ints X) 110 false none)) (hX:X.length=16) :
    loadV P H 31 ⟨g,0+0+0,none⟩=some x∧loadV P H 3 ⟨b,0+p * 2+0,none⟩=some (.int .i64 (X.getD (p * 2) 0))∧loadV P H 3 ⟨b,0+p * 2+1,none⟩=some (.int .i64 (X.getD (p * 2+1) 0)) ∧
      ∃ rb o,indexAddrV P 31 x (.int .i64 p)=some (.pointer (some ⟨rb,o,none⟩))∧loadV P H 3 ⟨rb,o+0,none⟩=some (.int .i64 (ps.getD (p * 2) 0))∧loadV P H 3 ⟨rb,o+1,none⟩=some (.int .i64 (ps.getD (p * 2+1) 0)):=by
  refine⟨?_,?_,?_,?_⟩
  · have:=hf.load (P:=P) (k:=0) agg31 (by omega)
    rw[hs.x] at this; exact this
  · rw[show 0+p * 2+0=p * 2 by omega]; exact load_int_at hb (by omega)
  · rw[show 0+p * 2+1=p * 2+1 by omega]; exact load_int_at hb (by omega)
  · obtain⟨rb,o,hix,_,hc⟩:=hx.at_ und31 sz90 hp
    have hl:p * 2+2≤ps.length:=by rw[hx.1]; omega
    refine⟨rb,o+p * 2,hix,?_,?_⟩
    · rw[show o+p * 2+0=o+(p * 2) by omega]; exact loadV_int hc agg3 (ints_get (getD_some (by omega)))
    · rw[show o+p * 2+1=o+(p * 2+1) by omega]; exact loadV_int hc agg3 (ints_get (getD_some (by omega)))
theorem call68 (l:Nat) (a b c:Value) (H:Hp) (n:Nat):(cal (l+1)).call 68 [a,b,c] H n=C68_0 (cal l) KK a b c H n:=by kernel_rfl
theorem call69 (l:Nat) (a b c:Value) (H:Hp) (n:Nat):(cal (l+1)).call 69 [a,b,c] H n=C69_0 (cal l) KK a b c H n:=by kernel_rfl
theorem missed_call (l:Nat) {H:Hp} {n g np p:Nat} {f:Nat→Value} {x y z:Value} {ps js X:List Int} {nj:Nat} (hgn:g<n) (hf:CellsF H g 859 116 f) (hs:SiteF f x y z js nj) (hx:SliceR H n 2 x np ps) (hp:p<np) (hnp:np≤8) (hX:X.length=16) :
    ∃ H' n',(∀ k:Value→Hp→Nat→Option ρ,callFK P (cal (l+1)) 68 [.pointer (some ⟨g,0,none⟩),.agg ⟨ints X⟩,.int .i64 p] H n k=k (.bool (decide (X.getD (p * 2) 0<ps.getD (p * 2) 0))) H' n')∧n≤n'∧Keep n H H':=by
  have hk:Keep n H (H.set n (some (.cells (ints X) 110 false none))):=(Keep.refl n H).set (Nat.le_refl _) _
  have hb:(H.set n (some (.cells (ints X) 110 false none))).get n=some (.cells (ints X) 110 false none):=by rw[Tr.get_set,if_pos rfl]
  refine⟨H.set n (some (.cells (ints X) 110 false none)),n+1,fun k=>?_,by omega,hk⟩
  unfold callFK
  have:(flatF P 68 && pureL [.pointer (some ⟨g,0,none⟩),.agg ⟨ints X⟩,.int .i64 p])=false:=by rw[Bool.and_eq_false_iff]; exact .inr rfl
  rw[this,call68]
  unfold C68_0 B68_0
  rw[boxK_eq]
  simp only[cellsV,ptr]
  obtain⟨a1,a2,a3,rb,o,a4,a5,a6⟩:=limit_loads (hf.keep hk hgn) hs ((hx.keep hk (Nat.le_refl _)).up (show n≤n+1 by omega)) hp hnp hb hX
  rw[at111 n 0 (by omega),bindO_some,fa53_0,bindO_some,addrV_eq,bindO_some,a2,bindO_some,nil_ptr,bindO_some,fa117_0,bindO_some,fa35_0,bindO_some,addrV_eq,bindO_some,a1,bindO_some,a4,bindO_some,fa90_0,bindO_some,addrV_eq,bindO_some,a5,bindO_some,binK_some bin_lss]
  rfl
theorem over_call (l:Nat) {H:Hp} {n g np p:Nat} {f:Nat→Value} {x y z:Value} {ps js X:List Int} {nj:Nat} (hgn:g<n) (hf:CellsF H g 859 116 f) (hs:SiteF f x y z js nj) (hx:SliceR H n 2 x np ps) (hp:p<np) (hnp:np≤8) (hX:X.length=16) :
    ∃ H' n',(∀ k:Value→Hp→Nat→Option ρ,callFK P (cal (l+1)) 69 [.pointer (some ⟨g,0,none⟩),.agg ⟨ints X⟩,.int .i64 p] H n k=k (.bool (decide (ps.getD (p * 2+1) 0<X.getD (p * 2+1) 0))) H' n')∧n≤n'∧Keep n H H':=by
  have hk:Keep n H (H.set n (some (.cells (ints X) 110 false none))):=(Keep.refl n H).set (Nat.le_refl _) _
  have hb:(H.set n (some (.cells (ints X) 110 false none))).get n=some (.cells (ints X) 110 false none):=by rw[Tr.get_set,if_pos rfl]
  refine⟨H.set n (some (.cells (ints X) 110 false none)),n+1,fun k=>?_,by omega,hk⟩
  unfold callFK
  have:(flatF P 69 && pureL [.pointer (some ⟨g,0,none⟩),.agg ⟨ints X⟩,.int .i64 p])=false:=by rw[Bool.and_eq_false_iff]; exact .inr rfl
  rw[this,call69]
  unfold C69_0 B69_0
  rw[boxK_eq]
  simp only[cellsV,ptr]
  obtain⟨a1,a2,a3,rb,o,a4,a5,a6⟩:=limit_loads (hf.keep hk hgn) hs ((hx.keep hk (Nat.le_refl _)).up (show n≤n+1 by omega)) hp hnp hb hX
  rw[at111 n 0 (by omega),bindO_some,fa53_1,bindO_some,addrV_eq,bindO_some,a3,bindO_some,nil_ptr,bindO_some,fa117_0,bindO_some,fa35_0,bindO_some,addrV_eq,bindO_some,a1,bindO_some,a4,bindO_some,fa90_1,bindO_some,addrV_eq,bindO_some,a6,bindO_some,binK_some bin_gtr]
  rfl
theorem sl45:sliceElem P 45=some 53:=by kernel_rfl
theorem by53:bytesT P 53=some 16:=by kernel_rfl
theorem und45:P.underlying 45=some (.slice 53):=by kernel_rfl
theorem row45_0:rowOf P 45 0 []=some ([],53):=by kernel_rfl
theorem eq45 (p q:Operand) (b l c:Nat):binV P .eql 45 p q (.slice (some ⟨b,0,none⟩) l c) (.slice none 0 0)=some (.bool false):=by kernel_rfl
theorem slice111 (b:Nat) {np:Nat} (h:np≤8):sliceV P 110 (.pointer (some ⟨b,0,none⟩)) none (some (.int .i64 np))=some (.slice (some ⟨b,0,none⟩) np 8):=by
  show sliceV P 110 (.pointer (some ⟨b,0,none⟩)) none (some (.int .i64 (.ofNat np)))=_
  unfold sliceV
  simp [und111,sz53,boundsV,hiV,loV,bndIn,h,capV,addA]
theorem clone_spec (c:Cal) (k:Nat) {H:Hp} {n b np:Nat} {X:List Int} (hb:H.get b=some (.cells (ints X) 110 false none)) (hbn:b<n) (hX:X.length=16) (h1:0<np) (h8:np≤8) :
    ∃ H' n' cp,C67_0 c k (.slice (some ⟨b,0,none⟩) np 8) H n=some (.slice (some ⟨n+1,0,none⟩) np cp,H',n')∧n+1<n'∧Keep n H H'∧CellsAt H' (n+1) 0 (ints (X.take (np * 2))):=by
  unfold C67_0 B67_0
  rw[binK_some (eq45 ..),ifK_f]
  unfold rowK
  rw[row45_0,bindO_some]
  unfold newK
  dsimp only
  have hk:Keep n H (H.set n (some (.cells [] 53 false none))):=(Keep.refl n H).set (Nat.le_refl _) _
  have hg:(H.set n (some (.cells [] 53 false none))).get n=some (.cells [] 53 false none):=by rw[Tr.get_set,if_pos rfl]
  have hb1:=(hk b hbn).trans hb
  generalize H.set n (some (.cells [] 53 false none))=H1 at hk hg hb1 ⊢
  have hold:loadN H1 ⟨n,0,none⟩ (0 * 2)=some []:=loadN_all (L:=[]) (cells_at hg) rfl rfl
  have hbig:bigOk (0+np) 2 16=true:=by unfold bigOk; simp; omega
  have hbz:Nat.beq (cellsV (.agg #[.int .i64 0,.int .i64 0])).length 2=true:=rfl
  have c0:Nat.blt 0 capV=true:=by decide +kernel
  have c1:Nat.ble np 0=false:=by
    cases np with
    | zero=>omega
    | succ m=>rfl
  have hsrc:srcCells H1 2 (.slice (some ⟨b,0,none⟩) np 8)=some (ints (X.take (np * 2)),np):=by
    have:=loadN_at (s:=np * 2) (k:=0) (cells_at hb1) (by rw[ints_length]; omega) (ints_noHole _)
    unfold srcCells
    rw[Nat.add_zero,List.drop_zero] at this
    have e:(ints X).take (np * 2)=ints (X.take (np * 2)):=by simp [ints,List.map_take]
    rw[e] at this
    simp only[this]
  have ha:appendV P (bare H1 (n+1)) 45 45 (.slice (some ⟨n,0,none⟩) 0 0) (.slice (some ⟨b,0,none⟩) np 8)=some (.slice (some ⟨n+1,0,none⟩) np capV,bare (H1.set (n+1) (some (.cells (ints (X.take (np * 2))) 53 false (some 2)))) (n+1+1)):=by
    unfold appendV
    have hs:srcCells (bare H1 (n+1)).H 2 (.slice (some ⟨b,0,none⟩) np 8)=some (ints (X.take (np * 2)),np):=hsrc
    have hold':loadN (bare H1 (n+1)).H ⟨n,0,none⟩ (0 * 2)=some []:=hold
    simp only[sl45,sz53,by53,zero53,hs,hbz,hold',hbig]
    unfold appendTo
    simp only[c0,c1,growV,bare,pushB,List.nil_append,Nat.zero_add]
  unfold stK
  rw[ha,bindO_some]
  dsimp only [bare]
  exact⟨_,_,_,rfl,by omega,hk.set (by omega) _,cells_at (by rw[Tr.get_set,if_pos rfl])⟩
theorem flat67:flatF P 67=false:=by kernel_rfl
theorem call67 (l:Nat) (a:Value) (H:Hp) (n:Nat):(cal (l+1)).call 67 [a] H n=C67_0 (cal l) KK a H n:=by kernel_rfl
theorem clone_call (l:Nat) (a:Value) (H:Hp) (n:Nat) (k:Value→Hp→Nat→Option ρ):callFK P (cal (l+1)) 67 [a] H n k=bindO (C67_0 (cal l) KK a H n) fun r=>k r.1 r.2.1 r.2.2:=by
  unfold callFK
  rw[flat67,call67]
  rfl
theorem bounds_call (l:Nat) {H:Hp} {n g np nj nk:Nat} {f:Nat→Value} {js ks L:List Int} (hgn:g<n) (hf:CellsF H g 859 116 f) (hn:∀ p kd,p<np→kd<nk→NestAt f js ks nj np p kd) (hks:KindsOk ks nk) (hnp:np≤8) (hnk:nk≤3) (hL:L.length=8) (hK:KindsIn L np nk) :
    ∃ X H' n',RowIs X js ks L nj np 8∧(∀ k:Value→Hp→Nat→Option ρ,callFK P (cal (l+4)) 66 [.pointer (some ⟨g,0,none⟩),.agg ⟨ints L⟩] H n k=k (.agg ⟨ints X⟩) H' n')∧n≤n'∧Keep n H H':=by
  obtain⟨X,hX,H',n',e,h1,h2⟩:=bounds_spec l hgn hf hn hks hnp hnk hL hK
  refine⟨X,H',n',hX,fun k=>?_,h1,h2⟩
  unfold callFK
  have:(flatF P 66 && pureL [.pointer (some ⟨g,0,none⟩),.agg ⟨ints L⟩])=false:=by rw[Bool.and_eq_false_iff]; exact .inr rfl
  rw[this,e]
  rfl
def BoundsOut (r:Res) (n:Nat) (H:Hp) (np nj:Nat) (js ks ls:List Int):Prop:=∃(b cp:Nat) (X:List Int) (H':Hp) (n':Nat),r=some (.tuple ⟨[.slice (some ⟨b,0,none⟩) np cp,.int .i64 0]⟩,H',n')∧n≤n'∧Keep n H H'∧b<n' ∧
  RowIs X js ks (laidL ls np) nj np 8∧CellsAt H' b 0 (ints (X.take (np * 2)))
theorem Bounds_spec (l:Nat) {np nj nk nl:Nat} {ps js ks ls:List Int} {H:Hp} {n:Nat} {v w:Value} (hg:GroveP H n v np nj nk ps js ks) (hw:ListR H n w nl ls) (hnp:np≤1000) (hnj:nj≤1000) (hnk:nk≤1000) :
    (placedN np nj nk nl ps js ks ls≠0→Ret (C22_0 (cal (l+7)) KK v w H n) n H (.tuple ⟨[.slice none 0 0,.int .i64 (placedN np nj nk nl ps js ks ls)]⟩)) ∧
    (placedN np nj nk nl ps js ks ls=0→BoundsOut (C22_0 (cal (l+7)) KK v w H n) n H np nj js ks ls):=by
  have hg0:=hg
  obtain⟨x,y,z,rfl,h1,h2,h3⟩:=hg
  unfold C22_0 B22_0
  rw[boxK_eq]
  simp only[cellsV,ptr]
  have hk:Keep n H (H.set n (some (.cells [x,y,z] 35 false none))):=(Keep.refl n H).set (Nat.le_refl _) _
  have hb:CellsAt (H.set n (some (.cells [x,y,z] 35 false none))) n 0 [x,y,z]:=CellsAt.new
  generalize H.set n (some (.cells [x,y,z] 35 false none))=H1 at hk hb ⊢
  have lg:loadV P H1 35 ⟨n,0,none⟩=some (.agg ⟨[x,y,z]⟩):=loadV_agg (o:=0) (k:=0) hb agg35 sz35 (by simp) (by simp [h1.hole.1,h2.hole.1,h3.hole.1])
  obtain⟨o1,o2⟩:=openLaid_spec l (hg0.keep hk (show n≤n+1 by omega)) (hw.keep hk (show n≤n+1 by omega)) hnp hnj hnk
  rw[addrV_eq,bindO_some,lg,bindO_some,openLaid_call]
  constructor
  · intro hne
    obtain⟨H2,n2,e1,e2,e3⟩:=o1 hne
    have t0:tupV (.tuple ⟨[.pointer none,.agg ⟨ints (List.replicate 8 0)⟩,.int .i64 (placedN np nj nk nl ps js ks ls)]⟩) 0=some (.pointer none):=rfl
    have t1:tupV (.tuple ⟨[.pointer none,.agg ⟨ints (List.replicate 8 0)⟩,.int .i64 (placedN np nj nk nl ps js ks ls)]⟩) 1=some (.agg ⟨ints (List.replicate 8 0)⟩):=rfl
    have t2:tupV (.tuple ⟨[.pointer none,.agg ⟨ints (List.replicate 8 0)⟩,.int .i64 (placedN np nj nk nl ps js ks ls)]⟩) 2=some (.int .i64 (placedN np nj nk nl ps js ks ls)):=rfl
    obtain⟨H3,k1,k2,k3⟩:=spill (P:=P) (ρ:=Value × Hp × Nat) (H:=H2) (n:=n2) (L:=ints (List.replicate 8 0)) zero121 rfl sz121 rfl (ints_leaf _)
    rw[e1,bindO_some,t0,bindO_some,t1,bindO_some,t2,bindO_some,k3,binK_some bin_neq,decide_eq_false hne,Bool.not_false,ifK_t]
    exact⟨H3,n2+1,rfl,by omega,(hk.trans e3 (by omega)).trans k1 (by omega)⟩
  · intro he
    obtain⟨⟨g,x',y',z',f,H2,n2,e1,e2,e3,e4,e5,e6,e7,e8,e9⟩,hnl,hok,hft⟩:=o2 he
    simp only[Value.agg.injEq,Array.mk.injEq,List.cons.injEq,and_true] at e6
    obtain⟨rfl,rfl,rfl⟩:=e6
    have good:=good_of hft
    subst hnl
    have l8:=laidL_len hw.1 good.np8
    have lens:(ints (laidL ls nl)).length=8:=by rw[ints_length,l8]
    have t0:tupV (.tuple ⟨[.pointer (some ⟨g,0,none⟩),.agg ⟨ints (laidL ls nl)⟩,.int .i64 0]⟩) 0=some (.pointer (some ⟨g,0,none⟩)):=rfl
    have t1:tupV (.tuple ⟨[.pointer (some ⟨g,0,none⟩),.agg ⟨ints (laidL ls nl)⟩,.int .i64 0]⟩) 1=some (.agg ⟨ints (laidL ls nl)⟩):=rfl
    have t2:tupV (.tuple ⟨[.pointer (some ⟨g,0,none⟩),.agg ⟨ints (laidL ls nl)⟩,.int .i64 0]⟩) 2=some (.int .i64 0):=rfl
    have d0:decide ((0:Int)=0)=true:=rfl
    obtain⟨H3,k1,k2,k3⟩:=spill (P:=P) (ρ:=Value × Hp × Nat) (H:=H2) (n:=n2) (L:=ints (laidL ls nl)) zero121 rfl sz121 lens (ints_leaf _)
    rw[e1,bindO_some,t0,bindO_some,t1,bindO_some,t2,bindO_some,k3,binK_some bin_neq,d0,Bool.not_true,ifK_f,addrV_eq,bindO_some,load_all k2 agg121 sz121 lens,bindO_some]
    have f3:=e7.keep k1 e5
    obtain⟨X,H4,n4,hX,b1,b2,b3⟩:=bounds_call (ρ:=Value × Hp × Nat) (l+3) (n:=n2+1) (by omega) f3 e9 good.kinds good.np8 good.nk3 l8 (laid_kinds hw.1 hok)
    have lX:(ints X).length=16:=by rw[ints_length,hX.1]
    have f4:=f3.keep b3 (by omega)
    obtain⟨H5,c1,c2,c3⟩:=spill (P:=P) (ρ:=Value × Hp × Nat) (H:=H4) (n:=n4) (L:=ints X) zero111 rfl sz111 lX (ints_leaf _)
    rw[b1,c3]
    have f5:=f4.keep c1 (by omega)
    have lx:loadV P H5 31 ⟨g,0+0+0,none⟩=some x:=by
      have:=f5.load (P:=P) (k:=0) agg31 (by omega)
      rw[e8.x] at this; exact this
    have hlx:lenV P 31 x=some (.int .i64 nl):=h1.len_eq und31
    rw[nil_ptr,bindO_some,fa117_0,bindO_some,fa35_0,bindO_some,addrV_eq,bindO_some,lx,bindO_some,hlx,bindO_some,slice111 _ good.np8,bindO_some,clone_call (l+6)]
    obtain⟨H6,n6,cp,d1,d2,d3,d4⟩:=clone_spec (cal (l+6)) KK c2 (show n4<n4+1 by omega) hX.1 (by have:=good.np1; omega) good.np8
    rw[d1,bindO_some]
    refine⟨n4+1+1,cp,X,H6,n6,rfl,by omega,fun b hb=>?_,d2,hX,d4⟩
    rw[d3 b (by omega),c1 b (by omega),b3 b (by omega),k1 b (by omega),e3 b (by omega),hk b hb]
theorem flat22:flatF P 22=false:=by kernel_rfl
theorem call22 (l:Nat) (a b:Value) (H:Hp) (n:Nat):(cal (l+1)).call 22 [a,b] H n=C22_0 (cal l) KK a b H n:=by kernel_rfl
theorem Bounds_call (l:Nat) (v w:Value) (H:Hp) (n:Nat) (k:Value→Hp→Nat→Option ρ):callFK P (cal (l+8)) 22 [v,w] H n k=bindO (C22_0 (cal (l+7)) KK v w H n) fun r=>k r.1 r.2.1 r.2.2:=by
  unfold callFK
  rw[flat22,call22]
  rfl
end Go.Proofs.Ytmpnblcfpdnlmaa.spec
end
section
namespace Go.Proofs.Ytmpnblcfpdnlmaa.spec
open Go Go.Ev Go.Proofs.Ytmpnblcfpdnlmaa.nestFits Go.Proofs.Ytmpnblcfpdnlmaa.G
set_option maxRecDepth 100000
variable {ρ:Type}
def missB (X ps:List Int) (p:Nat):Bool:=decide (X.getD (p * 2) 0<ps.getD (p * 2) 0)
def overB (X ps:List Int) (p:Nat):Bool:=decide (ps.getD (p * 2+1) 0<X.getD (p * 2+1) 0)
end Go.Proofs.Ytmpnblcfpdnlmaa.spec
end
section
namespace Go.Proofs.Ytmpnblcfpdnlmaa.spec
open Go Go.Ev Go.Proofs.Ytmpnblcfpdnlmaa.nestFits Go.Proofs.Ytmpnblcfpdnlmaa.G
set_option maxRecDepth 100000
variable {ρ:Type}
theorem holds_loop (l k:Nat) {g b np nj:Nat} {f:Nat→Value} {x y z:Value} {ps js X:List Int} (hs:SiteF f x y z js nj) (hnp:np≤8) (hX:X.length=16):∀(m i:Nat) (H:Hp) (n:Nat),g<n→b<n→CellsF H g 859 116 f→H.get b=some (.cells (ints X) 110 false none)→SliceR H n 2 x np ps→i≤np→np-i≤m →
    ∃ r,Ret (S111_1 (cal (l+1)) k m (.pointer (some ⟨g,0,none⟩)) (.pointer (some ⟨b,0,none⟩)) (.int .i64 np) (.int .i64 i) H n) n H (.bool r)∧(r=true↔∀ p,i≤p→p<np→overB X ps p=false):=by
  have lX:(ints X).length=16:=by rw[ints_length,hX]
  have body:∀(b1:Value→Value→Value→Value→Hp→Nat→Res) (m i:Nat) (H:Hp) (n:Nat),g<n→b<n→CellsF H g 859 116 f→H.get b=some (.cells (ints X) 110 false none)→SliceR H n 2 x np ps→i≤np →
      (∀ H' n',n≤n'→Keep n H H'→i<np→∃ r,Ret (b1 (.pointer (some ⟨g,0,none⟩)) (.pointer (some ⟨b,0,none⟩)) (.int .i64 np) (.int .i64 ((i+1:Nat):Int)) H' n') n' H' (.bool r)∧(r=true↔∀ p,i+1≤p→p<np→overB X ps p=false)) →
      ∃ r,Ret (C111_1 (cal (l+1)) k m b1 (.pointer (some ⟨g,0,none⟩)) (.pointer (some ⟨b,0,none⟩)) (.int .i64 np) (.int .i64 i) H n) n H (.bool r)∧(r=true↔∀ p,i≤p→p<np→overB X ps p=false):=by
    intro b1 m i H n hg hb hf hbx hx hi ih
    unfold C111_1 B111_1
    rw[binK_some bin_lss,ifK_d]
    by_cases hlt:i<np
    · have hI:I64 ((i:Int)+1):=by unfold I64; omega
      have hcast:((i:Int)+1)=((i+1:Nat):Int):=by omega
      obtain⟨H2,n2,c1,c2,c3⟩:=over_call (ρ:=Value × Hp × Nat) (l+0) hg hf hs hx hlt hnp hX
      rw[if_pos (by omega),addrV_eq,bindO_some,load_all hbx agg111 sz111 lX,bindO_some,c1]
      cases hd:overB X ps i with
      | true=>
        have hd':decide (ps.getD (i * 2+1) 0<X.getD (i * 2+1) 0)=true:=hd
        rw[hd',ifK_t]
        exact⟨false,⟨H2,n2,rfl,c2,c3⟩,⟨fun h=>(by cases h),fun h=>absurd (h i (Nat.le_refl _) hlt) (by rw[hd]; simp)⟩⟩
      | false=>
        have hd':decide (ps.getD (i * 2+1) 0<X.getD (i * 2+1) 0)=false:=hd
        rw[hd',ifK_f,binK_some (bin_add hI),hcast]
        obtain⟨r,⟨H3,n3,e1,e2,e3⟩,e4⟩:=ih H2 n2 c2 c3 hlt
        refine⟨r,⟨H3,n3,e1,by omega,c3.trans e3 c2⟩,e4.trans ?_⟩
        refine⟨fun h p q1 q2=>?_,fun h p q1 q2=>h p (by omega) q2⟩
        rcases Nat.eq_or_lt_of_le q1 with q | q
        · subst q; exact hd
        · exact h p q q2
    · have hi':i=np:=by omega
      subst hi'
      rw[if_neg (by omega)]
      exact⟨true,⟨H,n,rfl,Nat.le_refl _,Keep.refl _ _⟩,⟨fun _ p q1 q2=>by omega,fun _=>rfl⟩⟩
  intro m
  induction m with
  | zero=>intro i H n h1 h2 h3 h4 h5 h6 h7; exact body _ 0 i H n h1 h2 h3 h4 h5 h6 (fun _ _ _ _ h=>by omega)
  | succ m ih=>intro i H n h1 h2 h3 h4 h5 h6 h7; exact body _ (m+1) i H n h1 h2 h3 h4 h5 h6 (fun H' n' q1 q2 q3=>ih (i+1) H' n' (by omega) (by omega) (h3.keep q2 h1) ((q2 b h2).trans h4) ((h5.keep q2 (Nat.le_refl _)).up q1) (by omega) (by omega))
theorem call111 (l:Nat) (a b:Value) (H:Hp) (n:Nat):(cal (l+1)).call 111 [a,b] H n=C111_0 (cal l) KK a b H n:=by kernel_rfl
theorem holds_call (l:Nat) {H:Hp} {n g np nj:Nat} {f:Nat→Value} {x y z:Value} {ps js X:List Int} (hg:g<n) (hf:CellsF H g 859 116 f) (hs:SiteF f x y z js nj) (hx:SliceR H n 2 x np ps) (hnp:np≤8) (hX:X.length=16) :
    ∃(r:Bool) (H':Hp) (n':Nat),(r=true↔∀ p,p<np→overB X ps p=false)∧(∀ k:Value→Hp→Nat→Option ρ,callFK P (cal (l+2)) 111 [.pointer (some ⟨g,0,none⟩),.agg ⟨ints X⟩] H n k=k (.bool r) H' n')∧n≤n'∧Keep n H H':=by
  have hk:Keep n H (H.set n (some (.cells (ints X) 110 false none))):=(Keep.refl n H).set (Nat.le_refl _) _
  have hb:(H.set n (some (.cells (ints X) 110 false none))).get n=some (.cells (ints X) 110 false none):=by rw[Tr.get_set,if_pos rfl]
  obtain⟨r,⟨H',n',e1,e2,e3⟩,e4⟩:=holds_loop l KK hs hnp hX KK 0 (H.set n (some (.cells (ints X) 110 false none))) (n+1) (by omega) (Nat.lt_succ_self n) (hf.keep hk hg) hb ((hx.keep hk (Nat.le_refl _)).up (by omega)) (by omega) (by unfold KK; omega)
  refine⟨r,H',n',?_,fun k=>?_,by omega,hk.trans e3 (by omega)⟩
  · exact e4.trans ⟨fun h p hp=>h p (Nat.zero_le _) hp,fun h p _ hp=>h p hp⟩
  · unfold callFK
    have:(flatF P 111 && pureL [.pointer (some ⟨g,0,none⟩),.agg ⟨ints X⟩])=false:=by rw[Bool.and_eq_false_iff]; exact .inr rfl
    rw[this,call111]
    unfold C111_0 B111_0
    generalize hS:S111_1 (cal (l+1)) KK KK=S
    have lx:loadV P (H.set n (some (.cells (ints X) 110 false none))) 31 ⟨g,0+0+0,none⟩=some x:=by
      have:=(hf.keep hk hg).load (P:=P) (k:=0) agg31 (by omega)
      rw[hs.x] at this; exact this
    rw[boxK_eq]
    simp only[cellsV,ptr]
    rw[nil_ptr,bindO_some,fa117_0,bindO_some,fa35_0,bindO_some,addrV_eq,bindO_some,lx,bindO_some,hx.len_eq und31,bindO_some,← hS]
    exact congrArg (fun r=>bindO r _) e1
def RightX (X ps:List Int) (np:Nat):Prop:=∀ p,p<np→missB X ps p=false∧overB X ps p=false
theorem right_loop (l k:Nat) {g b np nj:Nat} {f:Nat→Value} {x y z:Value} {ps js X:List Int} (hs:SiteF f x y z js nj) (hnp:np≤8) (hX:X.length=16):∀(m i:Nat) (H:Hp) (n:Nat),g<n→b<n→CellsF H g 859 116 f→H.get b=some (.cells (ints X) 110 false none)→SliceR H n 2 x np ps→i≤np→np-i≤m →
    ∃ r,Ret (S83_1 (cal (l+3)) k m (.pointer (some ⟨g,0,none⟩)) (.pointer (some ⟨b,0,none⟩)) (.int .i64 np) (.int .i64 i) H n) n H (.bool r)∧(r=true↔(∀ p,i≤p→p<np→missB X ps p=false)∧∀ p,p<np→overB X ps p=false):=by
  have lX:(ints X).length=16:=by rw[ints_length,hX]
  have body:∀(b1:Value→Value→Value→Value→Hp→Nat→Res) (m i:Nat) (H:Hp) (n:Nat),g<n→b<n→CellsF H g 859 116 f→H.get b=some (.cells (ints X) 110 false none)→SliceR H n 2 x np ps→i≤np →
      (∀ H' n',n≤n'→Keep n H H'→i<np→∃ r,Ret (b1 (.pointer (some ⟨g,0,none⟩)) (.pointer (some ⟨b,0,none⟩)) (.int .i64 np) (.int .i64 ((i+1:Nat):Int)) H' n') n' H' (.bool r)∧(r=true↔(∀ p,i+1≤p→p<np→missB X ps p=false)∧∀ p,p<np→overB X ps p=false)) →
      ∃ r,Ret (C83_1 (cal (l+3)) k m b1 (.pointer (some ⟨g,0,none⟩)) (.pointer (some ⟨b,0,none⟩)) (.int .i64 np) (.int .i64 i) H n) n H (.bool r)∧(r=true↔(∀ p,i≤p→p<np→missB X ps p=false)∧∀ p,p<np→overB X ps p=false):=by
    intro b1 m i H n hg hb hf hbx hx hi ih
    unfold C83_1 B83_1
    rw[binK_some bin_lss,ifK_d]
    by_cases hlt:i<np
    · have hI:I64 ((i:Int)+1):=by unfold I64; omega
      have hcast:((i:Int)+1)=((i+1:Nat):Int):=by omega
      obtain⟨H2,n2,c1,c2,c3⟩:=missed_call (ρ:=Value × Hp × Nat) (l+2) hg hf hs hx hlt hnp hX
      rw[if_pos (by omega),addrV_eq,bindO_some,load_all hbx agg111 sz111 lX,bindO_some,c1]
      cases hd:missB X ps i with
      | true=>
        have hd':decide (X.getD (i * 2) 0<ps.getD (i * 2) 0)=true:=hd
        rw[hd',ifK_t]
        exact⟨false,⟨H2,n2,rfl,c2,c3⟩,⟨fun h=>(by cases h),fun h=>absurd (h.1 i (Nat.le_refl _) hlt) (by rw[hd]; simp)⟩⟩
      | false=>
        have hd':decide (X.getD (i * 2) 0<ps.getD (i * 2) 0)=false:=hd
        rw[hd',ifK_f,binK_some (bin_add hI),hcast]
        obtain⟨r,⟨H3,n3,e1,e2,e3⟩,e4⟩:=ih H2 n2 c2 c3 hlt
        refine⟨r,⟨H3,n3,e1,by omega,c3.trans e3 c2⟩,e4.trans ?_⟩
        refine⟨fun h=>⟨fun p q1 q2=>?_,h.2⟩,fun h=>⟨fun p q1 q2=>h.1 p (by omega) q2,h.2⟩⟩
        rcases Nat.eq_or_lt_of_le q1 with q | q
        · subst q; exact hd
        · exact h.1 p q q2
    · have hi':i=np:=by omega
      subst hi'
      rw[if_neg (by omega)]
      obtain⟨r,H2,n2,c0,c1,c2,c3⟩:=holds_call (ρ:=Value × Hp × Nat) (l+1) hg hf hs hx hnp hX
      rw[addrV_eq,bindO_some,load_all hbx agg111 sz111 lX,bindO_some,c1]
      exact⟨r,⟨H2,n2,rfl,c2,c3⟩,c0.trans ⟨fun h=>⟨fun p q1 q2=>by omega,h⟩,fun h=>h.2⟩⟩
  intro m
  induction m with
  | zero=>intro i H n h1 h2 h3 h4 h5 h6 h7; exact body _ 0 i H n h1 h2 h3 h4 h5 h6 (fun _ _ _ _ h=>by omega)
  | succ m ih=>intro i H n h1 h2 h3 h4 h5 h6 h7; exact body _ (m+1) i H n h1 h2 h3 h4 h5 h6 (fun H' n' q1 q2 q3=>ih (i+1) H' n' (by omega) (by omega) (h3.keep q2 h1) ((q2 b h2).trans h4) ((h5.keep q2 (Nat.le_refl _)).up q1) (by omega) (by omega))
theorem call83 (l:Nat) (a b:Value) (H:Hp) (n:Nat):(cal (l+1)).call 83 [a,b] H n=C83_0 (cal l) KK a b H n:=by kernel_rfl
theorem right_call (l:Nat) {H:Hp} {n g np nj:Nat} {f:Nat→Value} {x y z:Value} {ps js X:List Int} (hg:g<n) (hf:CellsF H g 859 116 f) (hs:SiteF f x y z js nj) (hx:SliceR H n 2 x np ps) (hnp:np≤8) (hX:X.length=16) :
    ∃(r:Bool) (H':Hp) (n':Nat),(r=true↔RightX X ps np)∧(∀ k:Value→Hp→Nat→Option ρ,callFK P (cal (l+4)) 83 [.pointer (some ⟨g,0,none⟩),.agg ⟨ints X⟩] H n k=k (.bool r) H' n')∧n≤n'∧Keep n H H':=by
  have hk:Keep n H (H.set n (some (.cells (ints X) 110 false none))):=(Keep.refl n H).set (Nat.le_refl _) _
  have hb:(H.set n (some (.cells (ints X) 110 false none))).get n=some (.cells (ints X) 110 false none):=by rw[Tr.get_set,if_pos rfl]
  obtain⟨r,⟨H',n',e1,e2,e3⟩,e4⟩:=right_loop l KK hs hnp hX KK 0 (H.set n (some (.cells (ints X) 110 false none))) (n+1) (by omega) (Nat.lt_succ_self n) (hf.keep hk hg) hb ((hx.keep hk (Nat.le_refl _)).up (by omega)) (by omega) (by unfold KK; omega)
  refine⟨r,H',n',?_,fun k=>?_,by omega,hk.trans e3 (by omega)⟩
  · exact e4.trans ⟨fun h p hp=>⟨h.1 p (Nat.zero_le _) hp,h.2 p hp⟩,fun h=>⟨fun p _ hp=>(h p hp).1,fun p hp=>(h p hp).2⟩⟩
  · unfold callFK
    have:(flatF P 83 && pureL [.pointer (some ⟨g,0,none⟩),.agg ⟨ints X⟩])=false:=by rw[Bool.and_eq_false_iff]; exact .inr rfl
    rw[this,call83]
    unfold C83_0 B83_0
    generalize hS:S83_1 (cal (l+3)) KK KK=S
    have lx:loadV P (H.set n (some (.cells (ints X) 110 false none))) 31 ⟨g,0+0+0,none⟩=some x:=by
      have:=(hf.keep hk hg).load (P:=P) (k:=0) agg31 (by omega)
      rw[hs.x] at this; exact this
    rw[boxK_eq]
    simp only[cellsV,ptr]
    rw[nil_ptr,bindO_some,fa117_0,bindO_some,fa35_0,bindO_some,addrV_eq,bindO_some,lx,bindO_some,hx.len_eq und31,bindO_some,← hS]
    exact congrArg (fun r=>bindO r _) e1
end Go.Proofs.Ytmpnblcfpdnlmaa.spec
end
section
namespace Go.Proofs.Ytmpnblcfpdnlmaa.spec
open Go Go.Ev Go.Proofs.Ytmpnblcfpdnlmaa.nestFits Go.Proofs.Ytmpnblcfpdnlmaa.G
set_option maxRecDepth 100000
variable {ρ:Type}
end Go.Proofs.Ytmpnblcfpdnlmaa.spec
end
section
namespace Go.Proofs.Ytmpnblcfpdnlmaa.spec
open Go Go.Ev Go.Proofs.Ytmpnblcfpdnlmaa.nestFits Go.Proofs.Ytmpnblcfpdnlmaa.G
set_option maxRecDepth 100000
variable {ρ:Type}
theorem guardD_ff {op:KD ρ→Option ρ} {ex:Extra} {H:Hp} {n:Nat} {k:KD ρ}:guardD (.bool false) false op ex H n k=op k:=rfl
theorem guardD_tf {op:KD ρ→Option ρ} {ex:Extra} {H:Hp} {n:Nat} {k:KD ρ}:guardD (.bool true) false op ex H n k=k undef ex H n:=rfl
theorem guardD_u {w:Bool} {op:KD ρ→Option ρ} {ex:Extra} {H:Hp} {n:Nat} {k:KD ρ}:guardD undef w op ex H n k=k undef ex H n:=rfl
theorem isLayout_loop (l k:Nat) {np nj nk:Nat} {ps js ks ls:List Int} (good:Good np nj nk ps js ks) (hjs:js.length=nj * 2) (g:Nat) (x y z w:Value) :
    ∀(m i:Nat) (H:Hp) (n:Nat),g<n→CellsAt H g 0 [x,y,z]→GroveI H n (.agg ⟨[x,y,z]⟩) np nj nk ps js ks→ListR H n w np ls→i≤np→np-i≤m →
    ∃ r,Ret (S58_1 (cal (l+4)) k m w (.pointer (some ⟨g,0,none⟩)) (.int .i64 i) H n) n H (.bool r)∧(r=true↔∀ p,i≤p→p<np→ls.getD p 0=-1∨takesP js ks nj np nk p (ls.getD p 0)):=by
  have body:∀(b1:Value→Value→Value→Hp→Nat→Res) (m i:Nat) (H:Hp) (n:Nat),g<n→CellsAt H g 0 [x,y,z]→GroveI H n (.agg ⟨[x,y,z]⟩) np nj nk ps js ks→ListR H n w np ls→i≤np →
      (∀ H' n',n≤n'→Keep n H H'→i<np→∃ r,Ret (b1 w (.pointer (some ⟨g,0,none⟩)) (.int .i64 ((i+1:Nat):Int)) H' n') n' H' (.bool r)∧(r=true↔∀ p,i+1≤p→p<np→ls.getD p 0=-1∨takesP js ks nj np nk p (ls.getD p 0))) →
      ∃ r,Ret (C58_1 (cal (l+4)) k m b1 w (.pointer (some ⟨g,0,none⟩)) (.int .i64 i) H n) n H (.bool r)∧(r=true↔∀ p,i≤p→p<np→ls.getD p 0=-1∨takesP js ks nj np nk p (ls.getD p 0)):=by
    intro b1 m i H n hgn hb hg hw hi ih
    have np8:=good.np8
    have nk3:=good.nk3
    have nj16:=good.nj16
    unfold C58_1 B58_1
    rw[hw.len_eq,bindO_some,binK_some bin_lss,ifK_d]
    by_cases hlt:i<np
    · obtain⟨rb,o,hix,_,hld⟩:=hw.at_ hlt
      have hI:I64 ((i:Int)+1):=by unfold I64; omega
      have hcast:((i:Int)+1)=((i+1:Nat):Int):=by omega
      have go:(ls.getD i 0=-1∨takesP js ks nj np nk i (ls.getD i 0))→∀(H':Hp) (n':Nat),n≤n'→Keep n H H' →
          ∃ r,Ret (b1 w (.pointer (some ⟨g,0,none⟩)) (.int .i64 ((i+1:Nat):Int)) H' n') n H (.bool r)∧(r=true↔∀ p,i≤p→p<np→ls.getD p 0=-1∨takesP js ks nj np nk p (ls.getD p 0)):=by
        intro hok H' n' h1 h2
        obtain⟨r,⟨H2,n2,e1,e2,e3⟩,e4⟩:=ih H' n' h1 h2 hlt
        refine⟨r,⟨H2,n2,e1,by omega,h2.trans e3 h1⟩,e4.trans ⟨fun h p q1 q2=>?_,fun h p q1 q2=>h p (by omega) q2⟩⟩
        rcases Nat.eq_or_lt_of_le q1 with q | q
        · subst q; exact hok
        · exact h p q q2
      have no:¬ (ls.getD i 0=-1∨takesP js ks nj np nk i (ls.getD i 0))→∀(H':Hp) (n':Nat),n≤n'→Keep n H H' →
          ∃ r,Ret (some (Value.bool false,H',n')) n H (.bool r)∧(r=true↔∀ p,i≤p→p<np→ls.getD p 0=-1∨takesP js ks nj np nk p (ls.getD p 0)):=
        fun hno H' n' h1 h2=>⟨false,⟨H',n',rfl,h1,h2⟩,⟨fun h=>(by cases h),fun h=>absurd (h i (Nat.le_refl _) hlt) hno⟩⟩
      rw[if_pos (by omega),hix,bindO_some,addrV_eq,bindO_some,hld,bindO_some,binK_some bin_neq]
      cases c1:decide (ls.getD i 0=-1) with
      | true=>
        simp only[Bool.not_true,guardD_ft,guardD_u,pickV_f,bindO_some,ifK_f,binK_some (bin_add hI),hcast]
        exact go (.inl (of_decide_eq_true c1)) H n (Nat.le_refl _) (Keep.refl _ _)
      | false=>
        have hg0:=hg
        obtain⟨x',y',z',hxyz,h1,h2,h3⟩:=hg.eq
        cases hxyz
        have lz:loadV P H 24 ⟨g,0+2,none⟩=some z:=loadV_scalar hb agg24 rfl h3.hole.1 h3.hole.2
        have elz:lenV P 24 z=some (.int .i64 nk):=h3.len_eq und24
        have hIk:I64 ((nk:Int)-1):=by unfold I64; omega
        have l26:=load26 hb h1.hole.1 h2.hole.1 h3.hole.1
        simp only[Bool.not_false,guardD_tt,hix,bindO_some,addrV_eq,hld,fa26_2,lz,elz,binK_some (bin_sub hIk),in_call (l+3)]
        cases c2:decide (0≤ls.getD i 0∧ls.getD i 0≤(nk:Int)-1) with
        | false=>
          simp only[not_f,bindO_some,guardD_tf,pickV_t,ifK_t]
          refine no ?_ H n (Nat.le_refl _) (Keep.refl _ _)
          rintro(h | ⟨q1,q2,_⟩)
          · exact of_decide_eq_false c1 h
          · exact of_decide_eq_false c2 ⟨q1,by omega⟩
        | true=>
          obtain⟨p1,p2⟩:=of_decide_eq_true c2
          obtain⟨kd,hkd⟩:∃ kd:Nat,ls.getD i 0=kd:=⟨(ls.getD i 0).toNat,by omega⟩
          have hk:kd<nk:=by omega
          obtain⟨r,H2,n2,d1,d2,d3,d4⟩:=fitsR_call (ρ:=Value × Hp × Nat) l (show nj≤KK by unfold KK; omega) (show np≤100 by omega) kd hk (i:Int) good.small hg0
          rw[hkd] at c1
          simp only[not_t,bindO_some,guardD_ff,hix,addrV_eq,hld,l26,hkd,d2]
          have ag:=fits_agree good hjs hlt hk
          have tk:takesP js ks nj np nk i (kd:Int)↔r=true:=by
            unfold takesP
            rw[Int.toNat_natCast,ag,d1]
            exact⟨fun h=>h.2.2,fun h=>⟨by omega,by omega,h⟩⟩
          cases r with
          | true=>
            simp only[not_t,bindO_some,pickV_t,pickV_f,ifK_f,binK_some (bin_add hI),hcast]
            refine go ?_ H2 n2 d3 d4
            rw[hkd]; exact .inr (tk.2 rfl)
          | false=>
            simp only[not_f,bindO_some,pickV_t,pickV_f,ifK_t]
            refine no ?_ H2 n2 d3 d4
            rw[hkd]
            rintro(h | h)
            · exact of_decide_eq_false c1 h
            · exact absurd (tk.1 h) (by simp)
    · rw[if_neg (by omega)]
      exact⟨true,⟨H,n,rfl,Nat.le_refl _,Keep.refl _ _⟩,⟨fun _ p q1 q2=>by omega,fun _=>rfl⟩⟩
  intro m
  induction m with
  | zero=>
    intro i H n h1 h2 h3 h4 h5 h6
    exact body _ 0 i H n h1 h2 h3 h4 h5 (fun _ _ _ _ h=>by omega)
  | succ m ih=>
    intro i H n h1 h2 h3 h4 h5 h6
    exact body _ (m+1) i H n h1 h2 h3 h4 h5 (fun H' n' q1 q2 q3=>ih (i+1) H' n' (by omega) (h2.keep q2 h1) (h3.keep q2 q1) (h4.keep q2 q1) (by omega) (by omega))
theorem isLayout_spec (l:Nat) {np nj nk nl:Nat} {ps js ks ls:List Int} (good:Good np nj nk ps js ks) {H:Hp} {n:Nat} {v w:Value} (hg:GroveI H n v np nj nk ps js ks) (hw:ListR H n w nl ls) :
    ∃ r,Ret (C58_0 (cal (l+4)) KK v w H n) n H (.bool r)∧(r=true↔nl=np∧laidOk js ks ls nj np nk):=by
  have hg0:=hg
  obtain⟨x,y,z,rfl,h1,h2,h3⟩:=hg.eq
  unfold C58_0 B58_0
  generalize hS:S58_1 (cal (l+4)) KK KK=S
  rw[boxK_eq]
  simp only[cellsV,ptr]
  have hk:Keep n H (H.set n (some (.cells [x,y,z] 26 false none))):=(Keep.refl n H).set (Nat.le_refl _) _
  have hb:CellsAt (H.set n (some (.cells [x,y,z] 26 false none))) n 0 [x,y,z]:=CellsAt.new
  generalize H.set n (some (.cells [x,y,z] 26 false none))=H1 at hk hb ⊢
  have lx:loadV P H1 22 ⟨n,0+0,none⟩=some x:=loadV_scalar hb agg22 rfl h1.hole.1 h1.hole.2
  have elx:lenV P 22 x=some (.int .i64 np):=h1.len_eq und22
  rw[hw.len_eq,bindO_some,fa26_0,bindO_some,addrV_eq,bindO_some,lx,bindO_some,elx,bindO_some,binK_some bin_neq]
  cases c1:decide ((nl:Int)=(np:Int)) with
  | false=>
    rw[Bool.not_false,ifK_t]
    exact⟨false,⟨H1,n+1,rfl,by omega,hk⟩,⟨fun h=>(by cases h),fun h=>absurd (by omega) (of_decide_eq_false c1)⟩⟩
  | true=>
    have e:nl=np:=by have:=of_decide_eq_true c1; omega
    subst e
    rw[Bool.not_true,ifK_f,← hS]
    obtain⟨r,⟨H',n',e1,e2,e3⟩,e4⟩:=isLayout_loop l KK good h2.1 n x y z w KK 0 H1 (n+1) (by omega) hb (hg0.keep hk (by omega)) (hw.keep hk (by omega)) (by omega) (by have:=good.np8; unfold KK; omega)
    exact⟨r,⟨H',n',e1,by omega,hk.trans e3 (by omega)⟩,e4.trans ⟨fun h=>⟨rfl,fun p hp=>h p (Nat.zero_le _) hp⟩,fun h p _ hp=>h.2 p hp⟩⟩
theorem call58 (l:Nat) (a b:Value) (H:Hp) (n:Nat):(cal (l+1)).call 58 [a,b] H n=C58_0 (cal l) KK a b H n:=by kernel_rfl
theorem isLayout_call (l:Nat) {np nj nk nl:Nat} {ps js ks ls:List Int} (good:Good np nj nk ps js ks) {H:Hp} {n:Nat} {v w:Value} (hg:GroveI H n v np nj nk ps js ks) (hw:ListR H n w nl ls) :
    ∃(r:Bool) (H':Hp) (n':Nat),(r=true↔nl=np∧laidOk js ks ls nj np nk)∧(∀ k:Value→Hp→Nat→Option ρ,callFK P (cal (l+5)) 58 [v,w] H n k=k (.bool r) H' n')∧n≤n'∧Keep n H H':=by
  obtain⟨r,H',n',⟨b,rfl,hb⟩,e1,e2,e3⟩:=callFK_spec (ρ:=ρ) (P:=P) (cal:=cal (l+5)) (f:=58) (args:=[v,w]) (H:=H) (n:=n)
    (Pre:=fun H n=>GroveI H n v np nj nk ps js ks∧ListR H n w nl ls) (Q:=fun r=>∃ b:Bool,r=.bool b∧(b=true↔nl=np∧laidOk js ks ls nj np nk))
    (fun H n h=>by
      obtain⟨r,h1,h2⟩:=isLayout_spec l good h.1 h.2
      exact⟨.bool r,by rw[call58]; exact h1,r,rfl,h2⟩) (fun r ⟨b,e,_⟩ _=>by subst e; rfl) ⟨hg,hw⟩ (fun hp=>by
        simp only[pureL,Bool.and_eq_true] at hp
        exact⟨hg.nil hp.1,hw.nil hp.2.1⟩)
  exact⟨b,H',n',hb,e1,e2,e3⟩
theorem placed_spec (l:Nat) {np nj nk nl:Nat} {ps js ks ls:List Int} {H:Hp} {n:Nat} {v w:Value} (hg:GroveI H n v np nj nk ps js ks) (hw:ListR H n w nl ls) :
    Ret (C25_0 (cal (l+5)) KK v w H n) n H (.int .i64 (placedN np nj nk nl ps js ks ls)):=by
  have hg0:=hg
  obtain⟨x,y,z,rfl,h1,h2,h3⟩:=hg.eq
  unfold C25_0 B25_0
  rw[boxK_eq]
  simp only[cellsV,ptr]
  have hk:Keep n H (H.set n (some (.cells [x,y,z] 26 false none))):=(Keep.refl n H).set (Nat.le_refl _) _
  have hb:CellsAt (H.set n (some (.cells [x,y,z] 26 false none))) n 0 [x,y,z]:=CellsAt.new
  generalize H.set n (some (.cells [x,y,z] 26 false none))=H1 at hk hb ⊢
  have ld:∀ H2,CellsAt H2 n 0 [x,y,z]→loadV P H2 26 ⟨n,0,none⟩=some (.agg ⟨[x,y,z]⟩):=fun H2 h=>load26 h h1.hole.1 h2.hole.1 h3.hole.1
  have hg1:GroveI H1 (n+1) (.agg ⟨[x,y,z]⟩) np nj nk ps js ks:=hg0.keep hk (by omega)
  obtain⟨H2,n2,e1,e2,e3⟩:=lawfault_call (ρ:=Value × Hp × Nat) (l+1) hg1
  have kk:Keep n H H2:=hk.trans e3 (by omega)
  rw[addrV_eq,bindO_some,ld H1 hb,bindO_some,e1,binK_some bin_neq]
  unfold placedN
  by_cases he:faultN np nj nk ps js ks=0
  · have d0:decide (faultN np nj nk ps js ks=0)=true:=decide_eq_true he
    have good:=good_of he
    obtain⟨r,H3,n3,f1,f2,f3,f4⟩:=isLayout_call (ρ:=Value × Hp × Nat) l good (hg1.keep e3 e2) (hw.keep kk (show n≤n2 by omega))
    rw[d0,Bool.not_true,ifK_f,bindO_some,ld H2 (hb.keep e3 (by omega)),bindO_some,f2,if_neg (fun h=>h he)]
    cases r with
    | true=>
      rw[not_t,bindO_some,ifK_f,if_pos (f1.1 rfl)]
      exact⟨H3,n3,rfl,by omega,kk.trans f4 (by omega)⟩
    | false=>
      rw[not_f,bindO_some,ifK_t,if_neg (fun h=>absurd (f1.2 h) (by simp))]
      exact⟨H3,n3,rfl,by omega,kk.trans f4 (by omega)⟩
  · have d0:decide (faultN np nj nk ps js ks=0)=false:=decide_eq_false he
    rw[d0,Bool.not_false,ifK_t,if_pos he]
    exact⟨H2,n2,rfl,by omega,kk⟩
theorem call25 (l:Nat) (a b:Value) (H:Hp) (n:Nat):(cal (l+1)).call 25 [a,b] H n=C25_0 (cal l) KK a b H n:=by kernel_rfl
theorem placedN_call (l:Nat) {np nj nk nl:Nat} {ps js ks ls:List Int} {H:Hp} {n:Nat} {v w:Value} (hg:GroveI H n v np nj nk ps js ks) (hw:ListR H n w nl ls) :
    ∃ H' n',(∀ k:Value→Hp→Nat→Option ρ,callFK P (cal (l+6)) 25 [v,w] H n k=k (.int .i64 (placedN np nj nk nl ps js ks ls)) H' n')∧n≤n'∧Keep n H H':=by
  obtain⟨r,H',n',rfl,e1,e2,e3⟩:=callFK_spec (ρ:=ρ) (P:=P) (cal:=cal (l+6)) (f:=25) (args:=[v,w]) (H:=H) (n:=n)
    (Pre:=fun H n=>GroveI H n v np nj nk ps js ks∧ListR H n w nl ls) (Q:=fun r=>r=.int .i64 (placedN np nj nk nl ps js ks ls))
    (fun H n h=>⟨_,by rw[call25]; exact placed_spec l h.1 h.2,rfl⟩) (fun r e _=>by subst e; rfl) ⟨hg,hw⟩ (fun hp=>by
        simp only[pureL,Bool.and_eq_true] at hp
        exact⟨hg.nil hp.1,hw.nil hp.2.1⟩)
  exact⟨H',n',e1,e2,e3⟩
end Go.Proofs.Ytmpnblcfpdnlmaa.spec
end
section
namespace Go.Ev
open Go
variable {P:Program} {t:TypeId} {x y:Operand} {a b:Int} {ρ:Type}
theorem bin_rem (hb:b≠0):binV P .rem t x y (.int .i64 a) (.int .i64 b)=some (.int .i64 (a.tmod b)):=by
  refine bin_int (by simp [binOp,Op.intDiv,hb]) rfl ?_
  rintro m n rfl rfl
  exact .inr rfl
theorem rem_small {a n:Nat} (h:n≠0):((a:Int).tmod (n:Int))=((a % n:Nat):Int):=by
  rw[Int.tmod_eq_emod_of_nonneg (by omega)]
  rfl
end Go.Ev
end
section
namespace Go.Proofs.Ytmpnblcfpdnlmaa.spec
open Go Go.Ev Go.Proofs.Ytmpnblcfpdnlmaa.nestFits Go.Proofs.Ytmpnblcfpdnlmaa.G
set_option maxRecDepth 100000
variable {ρ:Type}
theorem conv53 {a:Int} (ha:I64 a):pureSem P (.int .u8 a) (convert 5 3 (.int .u8 a))=some (.int .i64 a):=by
  have h:semPure P (convert 5 3 (.int .u8 a))=some (.int .i64 (IntKind.i64.wrap a)):=by kernel_rfl
  unfold pureSem
  rw[h,wrap_i64 ha]
  rfl
theorem list_at (c:Cal) (k:Nat) {H:Hp} {n len:Nat} {v:Value} {xs:List Int} (h:ListR H n v len xs) (h0:len≠0) (hlen:len≤1000) :
    ∃ H' n',C23_0 c k v H n=some (.slice (some ⟨n+1,0,none⟩) len capV,H',n')∧n+1<n'∧Keep n H H'∧H'.get (n+1)=some (.cells (ints xs) 3 false (some 1)):=by
  unfold C23_0 B23_0 rowK
  rw[row44_0,bindO_some]
  unfold newK
  dsimp only
  have hk:Keep n H (H.set n (some (.cells [] 3 false none))):=(Keep.refl n H).set (Nat.le_refl _) _
  have hg:(H.set n (some (.cells [] 3 false none))).get n=some (.cells [] 3 false none):=by rw[Tr.get_set,if_pos rfl]
  have h1:=h.keep hk (show n≤n+1 by omega)
  generalize H.set n (some (.cells [] 3 false none))=H1 at hk hg h1 ⊢
  have hold:loadN H1 ⟨n,0,none⟩ (0 * 1)=some []:=loadN_all (L:=[]) (cells_at hg) rfl rfl
  have hbig:bigOk (0+len) 1 8=true:=by unfold bigOk; simp; omega
  have hb1:Nat.beq (cellsV (.int .i64 0)).length 1=true:=rfl
  have c0:Nat.blt 0 capV=true:=by decide +kernel
  have ha:appendV P (bare H1 (n+1)) 44 44 (.slice (some ⟨n,0,none⟩) 0 0) v=some (.slice (some ⟨n+1,0,none⟩) len capV,bare (H1.set (n+1) (some (.cells (ints xs) 3 false (some 1)))) (n+1+1)):=by
    unfold appendV
    have hs:srcCells (bare H1 (n+1)).H 1 v=some (ints xs,len):=h1.src
    have hold':loadN (bare H1 (n+1)).H ⟨n,0,none⟩ (0 * 1)=some []:=hold
    simp only[sl44,sz3,by3,zero3,hs,hb1,hold',hbig]
    unfold appendTo
    have c1:Nat.ble len 0=false:=by
      cases len with
      | zero=>exact absurd rfl h0
      | succ m=>rfl
    simp only[c0,c1,growV,bare,pushB,List.nil_append,Nat.zero_add]
  unfold stK
  dsimp only
  rw[ha,bindO_some]
  dsimp only [bare]
  exact⟨_,_,rfl,by omega,hk.set (by omega) _,by rw[Tr.get_set,if_pos rfl]⟩
theorem store3 (H:Hp) (b o:Nat) (a:Int):storeP P 3 (.pointer (some ⟨b,o,none⟩)) (.int .i64 a) H=storeN H ⟨b,o,none⟩ [.int .i64 a]:=by kernel_rfl
theorem eq29 (p q:Operand) (E:Int):binV P .eql 29 p q (.int .i64 E) (.int .i64 0)=some (.bool (decide (E=0))):=bin_eql
theorem ready_spec (l:Nat) {np nj nk nl:Nat} {ps js ks ls:List Int} {H:Hp} {n:Nat} {v w:Value} (hg:GroveI H n v np nj nk ps js ks) (hw:ListR H n w nl ls) :
    ∃ r,Ret (C55_0 (cal (l+6)) KK v w H n) n H (.bool r)∧(r=true↔thin np nj nk nl∧placedN np nj nk nl ps js ks ls=0):=by
  have hg0:=hg
  obtain⟨x,y,z,rfl,h1,h2,h3⟩:=hg.eq
  unfold C55_0 B55_0
  rw[boxK_eq]
  simp only[cellsV,ptr]
  have hk:Keep n H (H.set n (some (.cells [x,y,z] 26 false none))):=(Keep.refl n H).set (Nat.le_refl _) _
  have hb:CellsAt (H.set n (some (.cells [x,y,z] 26 false none))) n 0 [x,y,z]:=CellsAt.new
  generalize H.set n (some (.cells [x,y,z] 26 false none))=H1 at hk hb ⊢
  have ld:∀ H2,CellsAt H2 n 0 [x,y,z]→loadV P H2 26 ⟨n,0,none⟩=some (.agg ⟨[x,y,z]⟩):=fun H2 h=>load26 h h1.hole.1 h2.hole.1 h3.hole.1
  have hg1:GroveI H1 (n+1) (.agg ⟨[x,y,z]⟩) np nj nk ps js ks:=hg0.keep hk (by omega)
  have hw1:=hw.keep hk (show n≤n+1 by omega)
  obtain⟨t,H2,n2,t1,t2,t3,t4⟩:=thin_call (ρ:=Value × Hp × Nat) (l+5) hg1 hw1.len_eq
  rw[addrV_eq,bindO_some,ld H1 hb,bindO_some,t2]
  cases t with
  | false=>
    simp only[guardK_ft,pickV_f,bindO_some]
    exact⟨false,⟨H2,n2,rfl,by omega,hk.trans t4 (by omega)⟩,⟨fun h=>(by cases h),fun h=>absurd (t1.2 h.1) (by simp)⟩⟩
  | true=>
    have hb2:=hb.keep t4 (by omega)
    obtain⟨H3,n3,e1,e2,e3⟩:=placedN_call (ρ:=Value × Hp × Nat) l (hg1.keep t4 t3) (hw1.keep t4 t3)
    simp only[guardK_tt,bindO_some,ld H2 hb2,e1,binK_some (eq29 _ _ _),pickV_t]
    refine⟨_,⟨H3,n3,rfl,by omega,(hk.trans t4 (by omega)).trans e3 (by omega)⟩,?_⟩
    rw[decide_eq_true_iff]
    exact⟨fun h=>⟨t1.1 rfl,h⟩,fun h=>h.2⟩
theorem call55 (l:Nat) (a b:Value) (H:Hp) (n:Nat):(cal (l+1)).call 55 [a,b] H n=C55_0 (cal l) KK a b H n:=by kernel_rfl
theorem ready_call (l:Nat) {np nj nk nl:Nat} {ps js ks ls:List Int} {H:Hp} {n:Nat} {v w:Value} (hg:GroveI H n v np nj nk ps js ks) (hw:ListR H n w nl ls) :
    ∃(r:Bool) (H':Hp) (n':Nat),(r=true↔thin np nj nk nl∧placedN np nj nk nl ps js ks ls=0)∧(∀ k:Value→Hp→Nat→Option ρ,callFK P (cal (l+7)) 55 [v,w] H n k=k (.bool r) H' n')∧n≤n'∧Keep n H H':=by
  obtain⟨r,H',n',⟨b,rfl,hb⟩,e1,e2,e3⟩:=callFK_spec (ρ:=ρ) (P:=P) (cal:=cal (l+7)) (f:=55) (args:=[v,w]) (H:=H) (n:=n)
    (Pre:=fun H n=>GroveI H n v np nj nk ps js ks∧ListR H n w nl ls) (Q:=fun r=>∃ b:Bool,r=.bool b∧(b=true↔thin np nj nk nl∧placedN np nj nk nl ps js ks ls=0))
    (fun H n h=>by
      obtain⟨r,h1,h2⟩:=ready_spec l h.1 h.2
      exact⟨.bool r,by rw[call55]; exact h1,r,rfl,h2⟩) (fun r ⟨b,e,_⟩ _=>by subst e; rfl) ⟨hg,hw⟩ (fun hp=>by
        simp only[pureL,Bool.and_eq_true] at hp
        exact⟨hg.nil hp.1,hw.nil hp.2.1⟩)
  exact⟨b,H',n',hb,e1,e2,e3⟩
end Go.Proofs.Ytmpnblcfpdnlmaa.spec
end
section
namespace Go.Proofs.Ytmpnblcfpdnlmaa.spec
open Go Go.Ev Go.Proofs.Ytmpnblcfpdnlmaa.nestFits Go.Proofs.Ytmpnblcfpdnlmaa.G
set_option maxRecDepth 100000
variable {ρ:Type}
def RightL (js ks ps L:List Int) (nj np:Nat):Prop:=∀ q,q<np→¬ bsum js ks L nj np 8 0 q<ps.getD (q * 2) 0∧¬ ps.getD (q * 2+1) 0<bsum js ks L nj np 8 1 q
theorem right_iff {js ks ps L X:List Int} {nj np:Nat} (hX:RowIs X js ks L nj np 8) (hnp:np≤8):RightX X ps np↔RightL js ks ps L nj np:=by
  unfold RightX RightL missB overB
  constructor
  · intro h q hq
    obtain⟨a,b⟩:=hX.2 q (by omega)
    obtain⟨c,d⟩:=h q hq
    rw[← a,← b]
    exact⟨of_decide_eq_false c,of_decide_eq_false d⟩
  · intro h q hq
    obtain⟨a,b⟩:=hX.2 q (by omega)
    obtain⟨c,d⟩:=h q hq
    rw[← a] at c
    rw[← b] at d
    exact⟨decide_eq_false c,decide_eq_false d⟩
theorem at121 (b:Nat) {i:Nat} (hi:i<8):indexAddrV P 120 (.pointer (some ⟨b,0,none⟩)) (.int .i64 i)=some (.pointer (some ⟨b,0+i * 1,none⟩)):=by
  unfold indexAddrV
  have:idxIn (.int .i64 (i:Int)) 8=some i:=by
    show idxIn (.int .i64 (.ofNat i)) 8=some i
    simp [idxIn,hi]
  simp only[und121,this,sz3]
  rfl
end Go.Proofs.Ytmpnblcfpdnlmaa.spec
end
section
namespace Go.Proofs.Ytmpnblcfpdnlmaa.spec
open Go Go.Ev Go.Proofs.Ytmpnblcfpdnlmaa.nestFits Go.Proofs.Ytmpnblcfpdnlmaa.G
set_option maxRecDepth 100000
variable {ρ:Type}
theorem ext_nonneg {y:Int} {L:List Int} (hL:Bounded L) (hf:total L 0≤y) {e:Nat} (he:e<2) (q:Nat):0≤ext y L e q:=by
  unfold ext
  match e,he with
  | 0,_=>
    have:=(hL (q * 2+0)).1
    unfold lim
    simp only
    omega
  | 1,_=>
    have:=(hL (q * 2+1)).1
    have:=(hL (q * 2+0)).1
    unfold lim
    simp only[Nat.sub_self]
    omega
theorem getD_set_same {L:List Int} {p:Nat} {a:Int} (h:p<L.length):(L.set p a).getD p 0=a:=by
  rw[List.getD_eq_getElem?_getD,List.getElem?_set,if_pos rfl,if_pos h]
  rfl
theorem getD_set_ne {L:List Int} {p q:Nat} {a:Int} (h:q≠p):(L.set p a).getD q 0=L.getD q 0:=by
  rw[List.getD_eq_getElem?_getD,List.getElem?_set,if_neg (by omega),← List.getD_eq_getElem?_getD]
theorem at45 (b k c:Nat) {i:Nat} (hi:i<k):indexAddrV P 45 (.slice (some ⟨b,0,none⟩) k c) (.int .i64 i)=some (.pointer (some ⟨b,0+i * 2,none⟩)):=by
  unfold indexAddrV
  simp only[und45,idx_lt hi,sz53]
  rfl
end Go.Proofs.Ytmpnblcfpdnlmaa.spec
end
section
namespace Go.Proofs.Ytmpnblcfpdnlmaa.spec
open Go Go.Ev Go.Proofs.Ytmpnblcfpdnlmaa.nestFits Go.Proofs.Ytmpnblcfpdnlmaa.G
set_option maxRecDepth 100000
def firstN {α:Type} (F:Nat→Option α) (N:Nat):Nat→Option α
  | 0=>none
  | m+1=>match F (N-(m+1)) with
    | some r=>some r
    | none=>firstN F N m
theorem firstN_step {α:Type} {F:Nat→Option α} {N i:Nat} (h:i<N):firstN F N (N-i)=match F i with
    | some r=>some r
    | none=>firstN F N (N-(i+1)):=by
  have e:N-i=(N-(i+1))+1:=by omega
  have e2:N-((N-(i+1))+1)=i:=by omega
  rw[e,firstN,e2]
theorem firstN_some {α:Type} {F:Nat→Option α} {N:Nat}:∀ {m:Nat} {r:α},m≤N→firstN F N m=some r→∃ k,N-m≤k∧k<N∧F k=some r∧∀ j,N-m≤j→j<k→F j=none
  | 0,r,_,h=>by cases h
  | m+1,r,hm,h=>by
    unfold firstN at h
    cases c:F (N-(m+1)) with
    | some r'=>
      rw[c] at h
      cases h
      exact⟨N-(m+1),Nat.le_refl _,by omega,c,fun j h1 h2=>absurd h1 (by omega)⟩
    | none=>
      rw[c] at h
      obtain⟨k,h1,h2,h3,h4⟩:=firstN_some (by omega) h
      refine⟨k,by omega,h2,h3,fun j q1 q2=>?_⟩
      by_cases e:j=N-(m+1)
      · rw[e]; exact c
      · exact h4 j (by omega) q2
theorem firstN_none {α:Type} {F:Nat→Option α} {N:Nat}:∀ {m:Nat},m≤N→firstN F N m=none→∀ k,N-m≤k→k<N→F k=none
  | 0,_,_,k,h1,h2=>by omega
  | m+1,hm,h,k,h1,h2=>by
    unfold firstN at h
    cases c:F (N-(m+1)) with
    | some r'=>rw[c] at h; cases h
    | none=>
      rw[c] at h
      by_cases e:k=N-(m+1)
      · rw[e]; exact c
      · exact firstN_none (by omega) h k (by omega) h2
def findL (R Hd:List Int→Bool) (tk:Nat→Nat→Bool) (np nk:Nat):Nat→List Int→Nat→Option (List Int)
  | 0,L,left=>if Hd L=false∨0<left then none else if R L=true then some L else none
  | d+1,L,left=>if Hd L=false∨d+1<left then none else if left=0 then(if R L=true then some L else none) else
      match findL R Hd tk np nk d L left with
      | some r=>some r
      | none=>firstN (fun kd=>if tk (np-(d+1)) kd=true then findL R Hd tk np nk d (L.set (np-(d+1)) (kd:Int)) (left-1) else none) nk nk
def cntL (L:List Int):Nat→Nat→Nat
  | _,0=>0
  | p,d+1=>(if L.getD p 0=-1 then 0 else 1)+cntL L (p+1) d
theorem cntL_le {L:List Int}:∀ {p d:Nat},cntL L p d≤d
  | p,0=>Nat.le_refl _
  | p,d+1=>by
    have:=cntL_le (L:=L) (p:=p+1) (d:=d)
    simp only[cntL]
    split <;> omega
theorem cntL_zero {L:List Int}:∀ {p d:Nat},cntL L p d=0→∀ q,p≤q→q<p+d→L.getD q 0=-1
  | p,0,_,q,h1,h2=>by omega
  | p,d+1,h,q,h1,h2=>by
    simp only[cntL] at h
    by_cases c:L.getD p 0=-1
    · by_cases e:q=p
      · rw[e]; exact c
      · rw[if_pos c] at h
        exact cntL_zero (p:=p+1) (d:=d) (by omega) q (by omega) (by omega)
    · rw[if_neg c] at h; omega
structure GoesOn (tk:Nat→Nat→Bool) (nk:Nat) (L:List Int) (p d left:Nat) (M:List Int):Prop where
  len:M.length=8
  before:∀ q,q<p→M.getD q 0=L.getD q 0
  kinds:∀ q,p≤q→q<p+d→M.getD q 0=-1∨∃ kd:Nat,kd<nk∧tk q kd=true∧M.getD q 0=kd
  after:∀ q,p+d≤q→q<8→M.getD q 0=-1
  cnt:cntL M p d=left
def lexLt (L M:List Int) (p np:Nat):Prop:=∃ q,p≤q∧q<np∧L.getD q 0<M.getD q 0∧∀ k,p≤k→k<q→L.getD k 0=M.getD k 0
theorem list_ext8 {L M:List Int} (hL:L.length=8) (hM:M.length=8) (h:∀ q,q<8→L.getD q 0=M.getD q 0):L=M:=by
  apply List.ext_getElem?
  intro k
  by_cases hk:k<8
  · rw[getD_some (by omega),getD_some (by omega),h k hk]
  · rw[List.getElem?_eq_none (by omega),List.getElem?_eq_none (by omega)]
def Open (L:List Int) (p:Nat):Prop:=L.length=8∧∀ q,p≤q→q<8→L.getD q 0=-1
theorem GoesOn.none {tk:Nat→Nat→Bool} {nk:Nat} {L M:List Int} {p d:Nat} (h:GoesOn tk nk L p d 0 M) (hL:Open L p):M=L:=by
  refine list_ext8 h.len hL.1 fun q hq=>?_
  by_cases c:q<p
  · exact h.before q c
  · rw[hL.2 q (by omega) hq]
    by_cases e:q<p+d
    · exact cntL_zero h.cnt q (by omega) e
    · exact h.after q (by omega) hq
theorem GoesOn.skip {tk:Nat→Nat→Bool} {nk:Nat} {L M:List Int} {p d left:Nat} (h:GoesOn tk nk L p (d+1) left M) (hp:M.getD p 0=-1) (hL:Open L p) (hp8:p<8):GoesOn tk nk L (p+1) d left M:=by
  refine⟨h.len,fun q hq=>?_,fun q h1 h2=>h.kinds q (by omega) (by omega),fun q h1 h2=>h.after q (by omega) h2,?_⟩
  · by_cases e:q=p
    · rw[e,hp,hL.2 p (Nat.le_refl _) hp8]
    · exact h.before q (by omega)
  · have:=h.cnt
    simp only[cntL] at this
    rw[if_pos hp] at this
    omega
theorem GoesOn.put {tk:Nat→Nat→Bool} {nk kd:Nat} {L M:List Int} {p d left:Nat} (h:GoesOn tk nk L p (d+1) left M) (hp:M.getD p 0=kd) (hL:Open L p) (hp8:p<8):GoesOn tk nk (L.set p (kd:Int)) (p+1) d (left-1) M:=by
  refine⟨h.len,fun q hq=>?_,fun q h1 h2=>h.kinds q (by omega) (by omega),fun q h1 h2=>h.after q (by omega) h2,?_⟩
  · by_cases e:q=p
    · rw[e,hp,getD_set_same (by rw[hL.1]; exact hp8)]
    · rw[getD_set_ne e]; exact h.before q (by omega)
  · have:=h.cnt
    simp only[cntL] at this
    rw[if_neg (by omega)] at this
    omega
theorem GoesOn.of_skip {tk:Nat→Nat→Bool} {nk:Nat} {L M:List Int} {p d left:Nat} (h:GoesOn tk nk L (p+1) d left M) (hL:Open L p) (hp8:p<8):GoesOn tk nk L p (d+1) left M∧M.getD p 0=-1:=by
  have hp:M.getD p 0=-1:=by rw[h.before p (by omega),hL.2 p (Nat.le_refl _) hp8]
  refine⟨⟨h.len,fun q hq=>h.before q (by omega),fun q h1 h2=>?_,fun q h1 h2=>h.after q (by omega) h2,?_⟩,hp⟩
  · by_cases e:q=p
    · rw[e]; exact .inl hp
    · exact h.kinds q (by omega) (by omega)
  · simp only[cntL]
    rw[if_pos hp,h.cnt]
    omega
theorem GoesOn.of_put {tk:Nat→Nat→Bool} {nk kd:Nat} {L M:List Int} {p d left:Nat} (h:GoesOn tk nk (L.set p (kd:Int)) (p+1) d (left-1) M) (hL:Open L p) (hp8:p<8) (hk:kd<nk) (ht:tk p kd=true) (hl:left≠0):GoesOn tk nk L p (d+1) left M∧M.getD p 0=kd:=by
  have hp:M.getD p 0=kd:=by rw[h.before p (by omega),getD_set_same (by rw[hL.1]; exact hp8)]
  refine⟨⟨h.len,fun q hq=>by rw[h.before q (by omega),getD_set_ne (by omega)],fun q h1 h2=>?_,fun q h1 h2=>h.after q (by omega) h2,?_⟩,hp⟩
  · by_cases e:q=p
    · rw[e]; exact .inr ⟨kd,hk,ht,hp⟩
    · exact h.kinds q (by omega) (by omega)
  · simp only[cntL]
    rw[if_neg (by omega),h.cnt]
    omega
theorem Open.skip {L:List Int} {p:Nat} (h:Open L p):Open L (p+1):=⟨h.1,fun q h1 h2=>h.2 q (by omega) h2⟩
theorem Open.put {L:List Int} {p:Nat} {a:Int} (h:Open L p):Open (L.set p a) (p+1):=⟨by simp [h.1],fun q h1 h2=>by rw[getD_set_ne (by omega)]; exact h.2 q (by omega) h2⟩
theorem findL_spec {R Hd:List Int→Bool} {tk:Nat→Nat→Bool} {np nk:Nat} (hnp:np≤8) (prune:∀ L M p d left,Open L p→p+d=np→GoesOn tk nk L p d left M→R M=true→Hd L=true):∀(d:Nat) (L:List Int) (left p:Nat),p+d=np→Open L p →
    (∀ r,findL R Hd tk np nk d L left=some r→GoesOn tk nk L p d left r∧R r=true∧∀ M,GoesOn tk nk L p d left M→R M=true→r=M∨lexLt r M p np) ∧
    (findL R Hd tk np nk d L left=none→∀ M,GoesOn tk nk L p d left M→R M=true→False):=by
  have stop:∀(d:Nat) (L:List Int) (p:Nat),p+d=np→Open L p →
      (∀ r,(if R L=true then some L else none)=some r→GoesOn tk nk L p d 0 r∧R r=true∧∀ M,GoesOn tk nk L p d 0 M→R M=true→r=M∨lexLt r M p np) ∧
      ((if R L=true then some L else none)=none→∀ M,GoesOn tk nk L p d 0 M→R M=true→False):=by
    intro d L p hpd hL
    constructor
    · intro r h
      by_cases c:R L=true
      · rw[if_pos c] at h
        cases h
        refine⟨⟨hL.1,fun _ _=>rfl,fun q h1 h2=>.inl (hL.2 q h1 (by omega)),fun q h1 h2=>hL.2 q (by omega) h2,?_⟩,c,fun M hM _=>.inl (hM.none hL).symm⟩
        have:∀ d p,p+d=np→Open L p→cntL L p d=0:=by
          intro d
          induction d with
          | zero=>intro p _ _; rfl
          | succ d ih=>
            intro p h1 h2
            simp only[cntL]
            rw[if_pos (h2.2 p (Nat.le_refl _) (by omega)),ih (p+1) (by omega) h2.skip]
        exact this d p hpd hL
      · rw[if_neg c] at h; cases h
    · intro h M hM hR
      rw[hM.none hL] at hR
      rw[if_pos hR] at h
      cases h
  intro d
  induction d with
  | zero=>
    intro L left p hpd hL
    unfold findL
    by_cases c:Hd L=false∨0<left
    · rw[if_pos c]
      refine⟨fun r h=>(by cases h),fun _ M hM hR=>?_⟩
      rcases c with c | c
      · rw[prune L M p 0 left hL hpd hM hR] at c; cases c
      · have:=hM.cnt
        simp only[cntL] at this
        omega
    · rw[if_neg c]
      have:left=0:=by
        have:=fun h=>c (.inr h)
        omega
      subst this
      exact stop 0 L p hpd hL
  | succ d ih=>
    intro L left p hpd hL
    have hp8:p<8:=by omega
    have ep:np-(d+1)=p:=by omega
    unfold findL
    rw[ep]
    by_cases c:Hd L=false∨d+1<left
    · rw[if_pos c]
      refine⟨fun r h=>(by cases h),fun _ M hM hR=>?_⟩
      rcases c with c | c
      · rw[prune L M p (d+1) left hL hpd hM hR] at c; cases c
      · have:=hM.cnt
        have:=cntL_le (L:=M) (p:=p) (d:=d+1)
        omega
    · rw[if_neg c]
      by_cases c0:left=0
      · subst c0
        rw[if_pos rfl]
        exact stop (d+1) L p hpd hL
      · rw[if_neg c0]
        obtain⟨i1,i2⟩:=ih L left (p+1) (by omega) hL.skip
        have split:∀ M,GoesOn tk nk L p (d+1) left M→M.getD p 0=-1∨∃ kd:Nat,kd<nk∧tk p kd=true∧M.getD p 0=kd:=fun M hM=>hM.kinds p (Nat.le_refl _) (by omega)
        cases e:findL R Hd tk np nk d L left with
        | some r0=>
          refine⟨fun r h=>?_,fun h=>(by cases h)⟩
          cases h
          obtain⟨a1,a2,a3⟩:=i1 r0 e
          obtain⟨b1,b2⟩:=a1.of_skip hL hp8
          refine⟨b1,a2,fun M hM hR=>?_⟩
          rcases split M hM with h | ⟨kd,h1,h2,h3⟩
          · rcases a3 M (hM.skip h hL hp8) hR with z | ⟨q,z1,z2,z3,z4⟩
            · exact .inl z
            · refine .inr ⟨q,by omega,z2,z3,fun k k1 k2=>?_⟩
              by_cases ek:k=p
              · rw[ek,b2,h]
              · exact z4 k (by omega) k2
          · exact .inr ⟨p,Nat.le_refl _,by omega,by rw[b2,h3]; omega,fun k k1 k2=>absurd k1 (by omega)⟩
        | none=>
          dsimp only
          have none1:=i2 e
          constructor
          · intro r h
            obtain⟨kd,k1,k2,k3,k4⟩:=firstN_some (Nat.le_refl _) h
            rw[Nat.sub_self] at k1 k4
            by_cases ht:tk p kd=true
            · rw[if_pos ht] at k3
              obtain⟨a1,a2,a3⟩:=(ih (L.set p (kd:Int)) (left-1) (p+1) (by omega) hL.put).1 r k3
              obtain⟨b1,b2⟩:=a1.of_put hL hp8 k2 ht c0
              refine⟨b1,a2,fun M hM hR=>?_⟩
              rcases split M hM with h | ⟨kd',h1,h2,h3⟩
              · exact absurd (none1 M (hM.skip h hL hp8) hR) id
              · rcases Nat.lt_trichotomy kd' kd with z | z | z
                · have:=k4 kd' (Nat.zero_le _) z
                  rw[if_pos h2] at this
                  exact absurd ((ih (L.set p (kd':Int)) (left-1) (p+1) (by omega) hL.put).2 this M (hM.put h3 hL hp8) hR) id
                · subst z
                  rcases a3 M (hM.put h3 hL hp8) hR with z | ⟨q,z1,z2,z3,z4⟩
                  · exact .inl z
                  · refine .inr ⟨q,by omega,z2,z3,fun k q1 q2=>?_⟩
                    by_cases ek:k=p
                    · rw[ek,b2,h3]
                    · exact z4 k (by omega) q2
                · exact .inr ⟨p,Nat.le_refl _,by omega,by rw[b2,h3]; omega,fun k q1 q2=>absurd q1 (by omega)⟩
            · rw[if_neg ht] at k3; cases k3
          · intro h M hM hR
            have hn:=firstN_none (Nat.le_refl _) h
            rcases split M hM with h' | ⟨kd,h1,h2,h3⟩
            · exact none1 M (hM.skip h' hL hp8) hR
            · have:=hn kd (by omega) h1
              rw[if_pos h2] at this
              exact(ih (L.set p (kd:Int)) (left-1) (p+1) (by omega) hL.put).2 this M (hM.put h3 hL hp8) hR
end Go.Proofs.Ytmpnblcfpdnlmaa.spec
end
section
namespace Go.Proofs.Ytmpnblcfpdnlmaa.spec
open Go Go.Ev Go.Proofs.Ytmpnblcfpdnlmaa.nestFits Go.Proofs.Ytmpnblcfpdnlmaa.G
set_option maxRecDepth 100000
variable {ρ:Type}
end Go.Proofs.Ytmpnblcfpdnlmaa.spec
end
section
namespace Go.Proofs.Ytmpnblcfpdnlmaa.spec
open Go Go.Ev Go.Proofs.Ytmpnblcfpdnlmaa.nestFits Go.Proofs.Ytmpnblcfpdnlmaa.G
set_option maxRecDepth 100000
variable {ρ:Type}
end Go.Proofs.Ytmpnblcfpdnlmaa.spec
end
section
namespace Go.Proofs.Ytmpnblcfpdnlmaa.spec
open Go Go.Ev Go.Proofs.Ytmpnblcfpdnlmaa.nestFits Go.Proofs.Ytmpnblcfpdnlmaa.G
set_option maxRecDepth 100000
variable {ρ:Type}
theorem bound_load {H:Hp} {g np nj p kd:Nat} {f:Nat→Value} {js ks:List Int} (hf:CellsF H g 859 116 f) (hn:NestAt f js ks nj np p kd) (hp:p<8) (hkd:kd<3) :
    ∃ B,BoundsTo (ks.getD (kd * 5) 0) (shP js ks nj np p kd) B 8∧loadV P H 110 ⟨g,0+67+p * 99+kd * 33+17,none⟩=some (.agg ⟨ints B⟩):=by
  obtain⟨B,hB,hj⟩:=hn
  refine⟨B,hB,?_⟩
  rw[hf.load_agg agg111 sz111 (by omega)]
  have e:((List.range 16).map fun j=>f (0+67+p * 99+kd * 33+17+j))=ints B:=by
    apply List.ext_getElem?
    intro j
    by_cases h:j<16
    · rw[List.getElem?_map,List.getElem?_range h,ints_get (getD_some (by rw[hB.1]; omega))]
      simp only[Option.map_some]
      rw[show 0+67+p * 99+kd * 33+17+j=67+p * 99+kd * 33+(17+j) by omega,hj (17+j) (by omega)]
      congr 2
      unfold nestL
      rw[List.getD_eq_getElem?_getD,List.getD_eq_getElem?_getD,show 17+j=(16+j)+1 by omega,List.getElem?_cons_succ,List.getElem?_append_right (by rw[shP_len]; omega),shP_len,show 16+j-16=j by omega,← List.getD_eq_getElem?_getD]
    · rw[List.getElem?_eq_none (by simp; omega),List.getElem?_eq_none (by rw[ints_length,hB.1]; omega)]
  rw[e]
theorem sumTo_put {f g:Nat→Int} {p:Nat} {a:Int} (h:∀ k,k≠p→g k=f k) (hp:g p=f p+a):∀ i,sumTo g i=sumTo f i+if p<i then a else 0
  | 0=>by simp [sumTo]
  | i+1=>by
    have ih:=sumTo_put h hp i
    simp only[sumTo]
    rw[ih]
    by_cases c:i=p
    · subst c
      rw[if_neg (by omega),if_pos (by omega),hp]
      omega
    · rw[h i c]
      by_cases d:p<i
      · rw[if_pos d,if_pos (by omega)]; omega
      · rw[if_neg d,if_neg (by omega)]; omega
theorem bsum_put {js ks L:List Int} {nj np p kd:Nat} (hL:L.length=8) (hp:p<8) (h1:L.getD p 0=-1) (e q:Nat) :
    bsum js ks (L.set p (kd:Int)) nj np 8 e q=bsum js ks L nj np 8 e q+ext (ks.getD (kd * 5) 0) (shP js ks nj np p kd) e q:=by
  have:=sumTo_put (f:=fun p=>if L.getD p 0=-1 then 0 else ext (ks.getD ((L.getD p 0).toNat * 5) 0) (shP js ks nj np p (L.getD p 0).toNat) e q) (g:=fun k=>if(L.set p (kd:Int)).getD k 0=-1 then 0 else ext (ks.getD (((L.set p (kd:Int)).getD k 0).toNat * 5) 0) (shP js ks nj np k ((L.set p (kd:Int)).getD k 0).toNat) e q) (p:=p) (a:=ext (ks.getD (kd * 5) 0) (shP js ks nj np p kd) e q)
    (fun k hk=>by simp only[getD_set_ne hk]) (by
      simp only[getD_set_same (show p<L.length by omega)]
      rw[if_pos h1,if_neg (by omega),Int.toNat_natCast]
      omega) 8
  rw[if_pos hp] at this
  exact this
theorem row_put {js ks L X B Z:List Int} {nj np p kd:Nat} (hL:L.length=8) (hp:p<8) (h1:L.getD p 0=-1) (hX:RowIs X js ks L nj np 8) (hB:BoundsTo (ks.getD (kd * 5) 0) (shP js ks nj np p kd) B 8) (hZ:PlusTo X B Z 8):RowIs Z js ks (L.set p (kd:Int)) nj np 8:=by
  refine⟨hZ.len,fun q hq=>?_⟩
  obtain⟨a1,a2⟩:=hZ.below q hq
  obtain⟨b1,b2⟩:=hX.2 q hq
  obtain⟨c1,c2⟩:=hB.2 q hq
  rw[a1,a2,b1,b2,c1,c2,bsum_put hL hp h1,bsum_put hL hp h1]
  exact⟨rfl,rfl⟩
theorem kinds_put {L:List Int} {np nk p kd:Nat} (hK:KindsIn L np nk) (hL:L.length=8) (hp:p<np) (hkd:kd<nk):KindsIn (L.set p (kd:Int)) np nk:=by
  intro i hi
  by_cases e:i=p
  · subst e
    rw[getD_set_same (by omega)]
    exact .inr ⟨hp,kd,hkd,rfl⟩
  · rw[getD_set_ne e]
    exact hK i hi
open Classical in
noncomputable def holdsD (js ks ps:List Int) (nj np:Nat) (L:List Int):Bool:=decide (∀ q,q<np→¬ ps.getD (q * 2+1) 0<bsum js ks L nj np 8 1 q)
open Classical in
noncomputable def rightD (js ks ps:List Int) (nj np:Nat) (L:List Int):Bool:=decide (RightL js ks ps L nj np)
open Classical in
theorem holdsD_iff {js ks ps L:List Int} {nj np:Nat}:holdsD js ks ps nj np L=true↔∀ q,q<np→¬ ps.getD (q * 2+1) 0<bsum js ks L nj np 8 1 q:=by unfold holdsD; exact decide_eq_true_iff
open Classical in
theorem rightD_iff {js ks ps L:List Int} {nj np:Nat}:rightD js ks ps nj np L=true↔RightL js ks ps L nj np:=by unfold rightD; exact decide_eq_true_iff
theorem holds_iff {js ks ps L X:List Int} {nj np:Nat} (hX:RowIs X js ks L nj np 8) (hnp:np≤8):(∀ p,p<np→overB X ps p=false)↔holdsD js ks ps nj np L=true:=by
  rw[holdsD_iff]
  unfold overB
  constructor
  · intro h q hq
    rw[← (hX.2 q (by omega)).2]
    exact of_decide_eq_false (h q hq)
  · intro h q hq
    have:=h q hq
    rw[← (hX.2 q (by omega)).2] at this
    exact decide_eq_false this
theorem prune_ok {js ks ps:List Int} {nj np nk:Nat} (hnp:np≤8) (hks:KindsOk ks nk):∀(L M:List Int) (p d left:Nat),Open L p→p+d=np→GoesOn (fitD js ks nj np) nk L p d left M→rightD js ks ps nj np M=true→holdsD js ks ps nj np L=true:=by
  intro L M p d left hL hpd hM hR
  rw[holdsD_iff]
  intro q hq
  have:=(rightD_iff.1 hR q hq).2
  have hle:bsum js ks L nj np 8 1 q≤bsum js ks M nj np 8 1 q:=by
    unfold bsum
    refine sumTo_le fun k hk=>?_
    by_cases c:k<p
    · rw[hM.before k c]
      exact Int.le_refl _
    · rw[hL.2 k (by omega) hk,if_pos rfl]
      by_cases e:k<p+d
      · rcases hM.kinds k (by omega) e with z | ⟨kd,h1,h2,h3⟩
        · rw[if_pos z]; exact Int.le_refl _
        · rw[h3,if_neg (by omega),Int.toNat_natCast]
          exact ext_nonneg (shP_bounded hks h1 hnp (by omega)) (of_decide_eq_true h2).1 (by omega) q
      · rw[hM.after k (by omega) hk,if_pos rfl]; exact Int.le_refl _
  omega
end Go.Proofs.Ytmpnblcfpdnlmaa.spec
end
section
namespace Go.Proofs.Ytmpnblcfpdnlmaa.spec
open Go Go.Ev Go.Proofs.Ytmpnblcfpdnlmaa.nestFits Go.Proofs.Ytmpnblcfpdnlmaa.G
set_option maxRecDepth 100000
variable {ρ:Type}
theorem agg175:isAggT P 174=some false:=by kernel_rfl
theorem agg176:isAggT P 175=some false:=by kernel_rfl
def placeV (sb yb pb:Nat):Value:=.func (.func 118) ⟨[]⟩ ⟨[.pointer (some ⟨sb,0,none⟩),.pointer (some ⟨yb,0,none⟩),.pointer (some ⟨pb,0,none⟩)]⟩
structure Around (Inv:Hp→Nat→Prop) (base sb yb pb g np:Nat) (f:Nat→Value) (x yv:Value) (ps:List Int):Prop where
  facts:∀ H n,Inv H n→base≤n∧H.get sb=some (.cells [.pointer (some ⟨g,0,none⟩)] 104 false none)∧H.get yb=some (.cells [yv] 174 false none)∧H.get pb=some (.cells [placeV sb yb pb] 175 false none)∧CellsF H g 859 116 f∧SliceR H base 2 x np ps
  same:∀ H n H' n',Inv H n→base≤n'→(∀ b,b<base→H'.get b=H.get b)→Inv H' n'
  low:sb<base∧yb<base∧pb<base∧g<base
  holes:noHole yv=true∧noHoles yv=true
def PlaceOut (Inv:Hp→Nat→Prop) (Fin:List Int→Hp→Nat→Prop) (base:Nat) (r:Res) (o:Option (List Int)) (H:Hp) (t n:Nat):Prop:=∃ H' n',n≤n'∧(∀ b,base≤b→b<t→H'.get b=H.get b)∧match o with
  | some M=>r=some (.bool false,H',n')∧Fin M H' n'
  | none=>r=some (.bool true,H',n')∧Inv H' n'
theorem PlaceOut.from {Inv:Hp→Nat→Prop} {Fin:List Int→Hp→Nat→Prop} {base t s n m:Nat} {r:Res} {o:Option (List Int)} {H H1:Hp} (h:PlaceOut Inv Fin base r o H1 s m) (hn:n≤m) (ht:t≤s) (hk:∀ b,base≤b→b<t→H1.get b=H.get b):PlaceOut Inv Fin base r o H t n:=by
  obtain⟨H',n',h1,h2,h3⟩:=h
  exact⟨H',n',by omega,fun b hb hbn=>(h2 b hb (by omega)).trans (hk b hb hbn),h3⟩
theorem load_func {H:Hp} {b:Nat} {v:Value} {e t:TypeId} (h:H.get b=some (.cells [v] e false none)) (ht:isAggT P t=some false) (h1:noHole v=true) (h2:noHoles v=true):loadV P H t ⟨b,0,none⟩=some v:=
  loadV_scalar (o:=0) (k:=0) (cells_at h) ht rfl h1 h2
theorem call118 (l:Nat) (a b c d e f g:Value) (H:Hp) (n:Nat):(cal (l+1)).call 118 [a,b,c,d,e,f,g] H n=C118_0 (cal l) KK a b c d e f g H n:=by kernel_rfl
theorem place_value (l:Nat) (a b c d:Value) (sb yb pb:Nat) (H:Hp) (n:Nat) (k:Value→Hp→Nat→Option ρ):callVK P (cal (l+1)) (placeV sb yb pb) [a,b,c,d] H n k=bindO (C118_0 (cal l) KK a b c d (.pointer (some ⟨sb,0,none⟩)) (.pointer (some ⟨yb,0,none⟩)) (.pointer (some ⟨pb,0,none⟩)) H n) fun r=>k r.1 r.2.1 r.2.2:=by
  unfold placeV
  rw[callVK_f]
  show callFK P (cal (l+1)) 118 [a,b,c,d,.pointer (some ⟨sb,0,none⟩),.pointer (some ⟨yb,0,none⟩),.pointer (some ⟨pb,0,none⟩)] H n k=_
  unfold callFK
  have:(flatF P 118 && pureL [a,b,c,d,.pointer (some ⟨sb,0,none⟩),.pointer (some ⟨yb,0,none⟩),.pointer (some ⟨pb,0,none⟩)])=false:=by simp [pureL,pureV]
  rw[this,call118]
theorem kinds_loop (l k:Nat) {Inv:Hp→Nat→Prop} {Fin:List Int→Hp→Nat→Prop} {base t sb yb pb g np nj nk p d left bL bX:Nat} {f:Nat→Value} {x y z yv:Value} {ps js ks L X:List Int} (ar:Around Inv base sb yb pb g np f x yv ps) (hs:SiteF f x y z js nj) (hz:lenV P 33 z=some (.int .i64 nk)) (hn:∀ p kd,p<np→kd<nk→NestAt f js ks nj np p kd) (hks:KindsOk ks nk) (hnp:np≤8) (hnk:nk≤3)
    (hp:p<np) (hL:Open L p) (hK:KindsIn L np nk) (hX:RowIs X js ks L nj np 8) (hleft:1≤left) (hl8:left≤8) (hbt:base≤t) (htL:t≤bL) (htX:t≤bX) (hne:bL≠bX)
    (hrec:∀(kd:Nat) (Z:List Int) (H:Hp) (n:Nat),kd<nk→fitD js ks nj np p kd=true→RowIs Z js ks (L.set p (kd:Int)) nj np 8→Inv H n →
      PlaceOut Inv Fin base (C118_0 (cal (l+5+d)) KK (.agg ⟨ints (L.set p (kd:Int))⟩) (.agg ⟨ints Z⟩) (.int .i64 ((p+1:Nat):Int)) (.int .i64 ((left-1:Nat):Int)) (.pointer (some ⟨sb,0,none⟩)) (.pointer (some ⟨yb,0,none⟩)) (.pointer (some ⟨pb,0,none⟩)) H n) (findL (rightD js ks ps nj np) (holdsD js ks ps nj np) (fitD js ks nj np) np nk d (L.set p (kd:Int)) (left-1)) H n n) :
    ∀(m i:Nat) (W:List Int) (H:Hp) (n:Nat),Inv H n→bL<n→bX<n→W.length=8→(∀ a,W.set p a=L.set p a)→H.get bL=some (.cells (ints W) 120 false none)→H.get bX=some (.cells (ints X) 110 false none)→i≤nk→nk-i≤m →
    PlaceOut Inv Fin base (S118_1 (cal (l+5+(d+1))) k m (.int .i64 p) (.int .i64 left) (.pointer (some ⟨sb,0,none⟩)) (.pointer (some ⟨pb,0,none⟩)) (.pointer (some ⟨bL,0,none⟩)) (.pointer (some ⟨bX,0,none⟩)) (.int .i64 nk) (.int .i64 i) H n)
      (firstN (fun kd=>if fitD js ks nj np p kd=true then findL (rightD js ks ps nj np) (holdsD js ks ps nj np) (fitD js ks nj np) np nk d (L.set p (kd:Int)) (left-1) else none) nk (nk-i)) H t n:=by
  obtain⟨lo1,lo2,lo3,lo4⟩:=ar.low
  generalize hF:(fun kd=>if fitD js ks nj np p kd=true then findL (rightD js ks ps nj np) (holdsD js ks ps nj np) (fitD js ks nj np) np nk d (L.set p (kd:Int)) (left-1) else none)=F
  have lXi:(ints X).length=16:=by rw[ints_length,hX.1]
  have hL8:=hL.1
  have hp1:L.getD p 0=-1:=hL.2 p (Nat.le_refl _) (by omega)
  have body:∀(b1:Value→Value→Value→Value→Value→Value→Value→Value→Hp→Nat→Res) (m i:Nat) (W:List Int) (H:Hp) (n:Nat),Inv H n→bL<n→bX<n→W.length=8→(∀ a,W.set p a=L.set p a)→H.get bL=some (.cells (ints W) 120 false none)→H.get bX=some (.cells (ints X) 110 false none)→i≤nk →
      (∀(W:List Int) (H:Hp) (n:Nat),Inv H n→bL<n→bX<n→W.length=8→(∀ a,W.set p a=L.set p a)→H.get bL=some (.cells (ints W) 120 false none)→H.get bX=some (.cells (ints X) 110 false none)→i<nk→PlaceOut Inv Fin base (b1 (.int .i64 p) (.int .i64 left) (.pointer (some ⟨sb,0,none⟩)) (.pointer (some ⟨pb,0,none⟩)) (.pointer (some ⟨bL,0,none⟩)) (.pointer (some ⟨bX,0,none⟩)) (.int .i64 nk) (.int .i64 ((i+1:Nat):Int)) H n) (firstN F nk (nk-(i+1))) H t n) →
      PlaceOut Inv Fin base (C118_1 (cal (l+5+(d+1))) k m b1 (.int .i64 p) (.int .i64 left) (.pointer (some ⟨sb,0,none⟩)) (.pointer (some ⟨pb,0,none⟩)) (.pointer (some ⟨bL,0,none⟩)) (.pointer (some ⟨bX,0,none⟩)) (.int .i64 nk) (.int .i64 i) H n) (firstN F nk (nk-i)) H t n:=by
    intro b1 m i W H n hI hbLn hbXn hW8 hW hgL hgX hi ih
    obtain⟨f1,f2,f3,f4,f5,f6⟩:=ar.facts H n hI
    unfold C118_1 B118_1
    rw[binK_some bin_lss,ifK_d]
    by_cases hlt:i<nk
    · have hI1:I64 ((i:Int)+1):=by unfold I64; omega
      have hcast:((i:Int)+1)=((i+1:Nat):Int):=by omega
      have next:∀(W:List Int) (H':Hp) (n':Nat),F i=none→Inv H' n'→bL<n'→bX<n'→W.length=8→(∀ a,W.set p a=L.set p a)→H'.get bL=some (.cells (ints W) 120 false none)→H'.get bX=some (.cells (ints X) 110 false none) →
          PlaceOut Inv Fin base (C118_2 (cal (l+5+(d+1))) k m b1 (.int .i64 p) (.int .i64 left) (.pointer (some ⟨sb,0,none⟩)) (.pointer (some ⟨pb,0,none⟩)) (.pointer (some ⟨bL,0,none⟩)) (.pointer (some ⟨bX,0,none⟩)) (.int .i64 nk) (.int .i64 i) H' n') (firstN F nk (nk-i)) H' t n':=by
        intro W H' n' hFi hI' h1 h2 h3 h4 h5 h6
        rw[firstN_step hlt,hFi]
        unfold C118_2 B118_2
        rw[binK_some (bin_add hI1),hcast]
        exact ih W H' n' hI' h1 h2 h3 h4 h5 h6 hlt
      have lsb:=load_func f2 agg105 rfl rfl
      obtain⟨r,hr,hc⟩:=takes_call (ρ:=Value × Hp × Nat) (l+1+(d+1)) (n:=n) f5 hs hz hn hks hnp hnk hp (i:Int)
      have hr':r=true↔fitD js ks nj np p i=true:=by
        rw[hr]
        unfold takesP
        rw[Int.toNat_natCast]
        exact⟨fun h=>h.2.2,fun h=>⟨by omega,by omega,h⟩⟩
      rw[show l+1+(d+1)+4=l+5+(d+1) by omega] at hc
      rw[if_pos (by omega),addrV_eq,bindO_some,lsb,bindO_some,hc]
      cases r with
      | false=>
        have hFi:F i=none:=by rw[← hF]; exact if_neg (fun h=>absurd (hr'.2 h) (by simp))
        rw[not_f,bindO_some,ifK_t]
        exact next W H n hFi hI hbLn hbXn hW8 hW hgL hgX
      | true=>
        have hfit:=hr'.1 rfl
        have hFi:F i=findL (rightD js ks ps nj np) (holdsD js ks ps nj np) (fitD js ks nj np) np nk d (L.set p (i:Int)) (left-1):=by rw[← hF]; exact if_pos hfit
        have hst:storeP P 3 (.pointer (some ⟨bL,0+p * 1,none⟩)) (.int .i64 i) H=some (H.set bL (some (.cells (ints (L.set p (i:Int))) 120 false none))):=by
          rw[store3,show 0+p * 1=p by omega,store_one hgL (by omega),hW]
        rw[not_t,bindO_some,ifK_f,at121 _ (by omega),bindO_some,hst,bindO_some]
        have g1:(H.set bL (some (.cells (ints (L.set p (i:Int))) 120 false none))).get bL=some (.cells (ints (L.set p (i:Int))) 120 false none):=by rw[Tr.get_set,if_pos rfl]
        have g2:∀ b,b≠bL→(H.set bL (some (.cells (ints (L.set p (i:Int))) 120 false none))).get b=H.get b:=fun b hb=>by rw[Tr.get_set,if_neg hb]
        generalize H.set bL (some (.cells (ints (L.set p (i:Int))) 120 false none))=H2 at g1 g2 ⊢
        have lens:(ints (L.set p (i:Int))).length=8:=by rw[ints_length]; simp [hL8]
        have l1:=load_func ((g2 pb (by omega)).trans f4) agg176 rfl rfl
        have l2:=load_all g1 agg121 sz121 lens
        have l3:=load_all ((g2 bX (Ne.symm hne)).trans hgX) agg111 sz111 lXi
        have l4:=load_func ((g2 sb (by omega)).trans f2) agg105 rfl rfl
        have hf2:CellsF H2 g 859 116 f:=by
          obtain⟨c,a1,a2,a3⟩:=f5
          exact⟨c,(g2 g (by omega)).trans a1,a2,a3⟩
        obtain⟨B,hB,l5⟩:=bound_load hf2 (hn p i hp hlt) (by omega) (by omega)
        have hI2:I64 ((p:Int)+1):=by unfold I64; omega
        have hI3:I64 ((left:Int)-1):=by unfold I64; omega
        have hc2:((p:Int)+1)=((p+1:Nat):Int):=by omega
        have hc3:((left:Int)-1)=((left-1:Nat):Int):=by omega
        have mX:Mild X:=row_mild hX.1 fun q hq=>by
          obtain⟨a,b⟩:=hX.2 q hq
          rw[a,b]; exact⟨bsum_mild hks hnp hK (by omega) (by omega),bsum_mild hks hnp hK (by omega) (by omega)⟩
        have hsb:=shP_bounded (js:=js) (nj:=nj) hks hlt hnp hp
        have mB:Mild B:=row_mild hB.1 fun q hq=>by
          obtain⟨y1,_,_⟩:=hks i hlt
          obtain⟨a,b⟩:=hB.2 q hq
          have e0:=ext_mild hsb y1 (e:=0) (q:=q) (by omega)
          have e1:=ext_mild hsb y1 (e:=1) (q:=q) (by omega)
          rw[a,b]; omega
        obtain⟨Z,hZ,hplus⟩:=plus_call (ρ:=Value × Hp × Nat) (l+4+(d+1)) hX.1 hB.1 mX mB
        rw[show l+4+(d+1)+1=l+5+(d+1) by omega] at hplus
        have hRow:=row_put hL8 (show p<8 by omega) hp1 hX hB hZ
        obtain⟨H3,s3,c3⟩:=effK_still (P:=P) (ρ:=Value × Hp × Nat) (ex:=[.l 120 ⟨bL,0,none⟩,.l 175 ⟨pb,0,none⟩]) (H:=H2) (n:=n) (v:=.agg ⟨ints Z⟩)
          (op:=fun H n k=>callFK P (cal (l+5+(d+1))) 103 [.agg ⟨ints X⟩,.agg ⟨ints B⟩] H n fun v H n=>k v H n)
          ⟨fun q hq=>.inl (by
            simp only[List.mem_cons,List.not_mem_nil,or_false] at hq
            rcases hq with rfl | rfl
            · exact⟨_,_,rfl,.inl ⟨_,_,_,_,g1⟩⟩
            · exact⟨_,_,rfl,.inl ⟨_,_,_,_,(g2 pb (by omega)).trans f4⟩⟩),fun t a id c e h1 h2=>by simp at h2⟩ (fun H k=>hplus H _ _)
        have hInv3:Inv H3 n:=ar.same H n H3 n hI f1 fun b hb=>by rw[s3,g2 b (by omega)]
        have keep3:∀ b,b≠bL→H3.get b=H.get b:=fun b hb=>by rw[s3,g2 b hb]
        have hr3:=hrec i Z H3 n hlt hfit hRow hInv3
        have epl:=place_value (ρ:=Value × Hp × Nat) (l+5+d) (.agg ⟨ints (L.set p (i:Int))⟩) (.agg ⟨ints Z⟩) (.int .i64 ((p+1:Nat):Int)) (.int .i64 ((left-1:Nat):Int)) sb yb pb
        rw[show l+5+d+1=l+5+(d+1) by omega] at epl
        rw[addrV_eq,bindO_some,l1,bindO_some,addrV_eq,bindO_some,l2,bindO_some,addrV_eq,bindO_some,l3,bindO_some,bindO_some,l4,bindO_some,nil_ptr,bindO_some,fa117_2,bindO_some,at115 _ _ (by omega),bindO_some,at114 _ _ (by omega),bindO_some,fa113_2,bindO_some,addrV_eq,bindO_some,l5,bindO_some,
          binK_some (bin_add hI2),binK_some (bin_sub hI3),c3,hc2,hc3,epl]
        obtain⟨H4,n4,q1,q2,q3⟩:=hr3
        rw[firstN_step hlt,hFi]
        cases hfd:findL (rightD js ks ps nj np) (holdsD js ks ps nj np) (fitD js ks nj np) np nk d (L.set p (i:Int)) (left-1) with
        | some M=>
          rw[hfd] at q3
          obtain⟨q3,q4⟩:=q3
          rw[q3,bindO_some]
          dsimp only
          rw[not_f,bindO_some,ifK_t]
          exact⟨H4,n4,q1,fun b hb hbt=>by rw[q2 b hb (by omega),keep3 b (by omega)],rfl,q4⟩
        | none=>
          rw[hfd] at q3 hFi
          obtain⟨q3,q4⟩:=q3
          rw[q3,bindO_some]
          dsimp only
          rw[not_t,bindO_some,ifK_f]
          have:=next (L.set p (i:Int)) H4 n4 hFi q4 (by omega) (by omega) (by simp [hL8]) (fun a=>by rw[List.set_set]) (by rw[q2 bL (by omega) hbLn,s3]; exact g1) (by rw[q2 bX (by omega) hbXn,keep3 bX (Ne.symm hne)]; exact hgX)
          rw[firstN_step hlt,hFi] at this
          exact this.from q1 (Nat.le_refl _) fun b hb hbt=>by rw[q2 b hb (by omega),keep3 b (by omega)]
    · rw[if_neg (by omega)]
      have:nk-i=0:=by omega
      rw[this]
      exact⟨H,n,Nat.le_refl _,fun _ _ _=>rfl,rfl,hI⟩
  intro m
  induction m with
  | zero=>
    intro i W H n h1 h2 h3 h4 h5 h6 h7 h8 h9
    exact body _ 0 i W H n h1 h2 h3 h4 h5 h6 h7 h8 (fun _ _ _ _ _ _ _ _ _ _ h=>by omega)
  | succ m ih=>
    intro i W H n h1 h2 h3 h4 h5 h6 h7 h8 h9
    exact body _ (m+1) i W H n h1 h2 h3 h4 h5 h6 h7 h8 (fun W H n q1 q2 q3 q4 q5 q6 q7 q8=>ih (i+1) W H n q1 q2 q3 q4 q5 q6 q7 (by omega) (by omega))
end Go.Proofs.Ytmpnblcfpdnlmaa.spec
end
section
namespace Go.Proofs.Ytmpnblcfpdnlmaa.spec
open Go Go.Ev Go.Proofs.Ytmpnblcfpdnlmaa.nestFits Go.Proofs.Ytmpnblcfpdnlmaa.G
set_option maxRecDepth 100000
variable {ρ:Type}
theorem findL_stop {R Hd:List Int→Bool} {tk:Nat→Nat→Bool} {np nk d left:Nat} {L:List Int} (h:Hd L=false∨d<left):findL R Hd tk np nk d L left=none:=by
  cases d with
  | zero=>unfold findL; rw[if_pos h]
  | succ d=>unfold findL; rw[if_pos h]
theorem findL_last {R Hd:List Int→Bool} {tk:Nat→Nat→Bool} {np nk d:Nat} {L:List Int} (h:Hd L=true):findL R Hd tk np nk d L 0=if R L=true then some L else none:=by
  have no:∀ d,¬ (Hd L=false∨d<0):=fun d h'=>by
    rcases h' with z | z
    · rw[h] at z; cases z
    · omega
  cases d with
  | zero=>unfold findL; rw[if_neg (no 0)]
  | succ d=>unfold findL; rw[if_neg (no (d+1)),if_pos rfl]
theorem findL_step {R Hd:List Int→Bool} {tk:Nat→Nat→Bool} {np nk d left:Nat} {L:List Int} (h:Hd L=true) (h1:left≤d+1) (h2:left≠0):findL R Hd tk np nk (d+1) L left=match findL R Hd tk np nk d L left with
    | some r=>some r
    | none=>firstN (fun kd=>if tk (np-(d+1)) kd=true then findL R Hd tk np nk d (L.set (np-(d+1)) (kd:Int)) (left-1) else none) nk nk:=by
  have no:¬ (Hd L=false∨d+1<left):=fun h'=>by
    rcases h' with z | z
    · rw[h] at z; cases z
    · omega
  rw[findL,if_neg no,if_neg h2]
  all_goals (cases findL R Hd tk np nk d L left <;> rfl)
def Yields (Inv:Hp→Nat→Prop) (Fin:List Int→Hp→Nat→Prop) (base np nj:Nat) (js ks ps:List Int) (yv:Value):Prop:=∀(lv:Nat) (L X:List Int) (H:Hp) (n:Nat),Inv H n→L.length=8→RowIs X js ks L nj np 8→∃ H' n',n≤n'∧(∀ b,base≤b→b<n→H'.get b=H.get b) ∧
  ((rightD js ks ps nj np L=true∧(∀ k:Value→Hp→Nat→Res,callVK P (cal (lv+5)) yv [.agg ⟨ints L⟩,.agg ⟨ints X⟩] H n k=k (.bool false) H' n')∧Fin L H' n') ∨
   (rightD js ks ps nj np L=false∧(∀ k:Value→Hp→Nat→Res,callVK P (cal (lv+5)) yv [.agg ⟨ints L⟩,.agg ⟨ints X⟩] H n k=k (.bool true) H' n')∧Inv H' n'))
theorem place_spec (l:Nat) {Inv:Hp→Nat→Prop} {Fin:List Int→Hp→Nat→Prop} {base sb yb pb g np nj nk:Nat} {f:Nat→Value} {x y z yv:Value} {ps js ks:List Int} (ar:Around Inv base sb yb pb g np f x yv ps) (hs:SiteF f x y z js nj) (hz:lenV P 33 z=some (.int .i64 nk)) (hn:∀ p kd,p<np→kd<nk→NestAt f js ks nj np p kd) (hks:KindsOk ks nk) (hnp:np≤8) (hnk:nk≤3) (hY:Yields Inv Fin base np nj js ks ps yv) :
    ∀(d:Nat) (L X:List Int) (left p:Nat) (H:Hp) (n:Nat),p+d=np→Open L p→KindsIn L np nk→RowIs X js ks L nj np 8→left≤8→Inv H n →
    PlaceOut Inv Fin base (C118_0 (cal (l+5+d)) KK (.agg ⟨ints L⟩) (.agg ⟨ints X⟩) (.int .i64 p) (.int .i64 left) (.pointer (some ⟨sb,0,none⟩)) (.pointer (some ⟨yb,0,none⟩)) (.pointer (some ⟨pb,0,none⟩)) H n) (findL (rightD js ks ps nj np) (holdsD js ks ps nj np) (fitD js ks nj np) np nk d L left) H n n:=by
  obtain⟨lo1,lo2,lo3,lo4⟩:=ar.low
  intro d
  induction d with
  | zero=>
    intro L X left p H n hpd hL hK hX hl8 hI
    obtain⟨f1,f2,f3,f4,f5,f6⟩:=ar.facts H n hI
    have lLi:(ints L).length=8:=by rw[ints_length,hL.1]
    have lXi:(ints X).length=16:=by rw[ints_length,hX.1]
    unfold C118_0 B118_0
    generalize hS:S118_1 (cal (l+5+(0))) KK KK=S1
    rw[boxK_eq,boxK_eq]
    simp only[cellsV,ptr]
    have b1:((H.set n (some (.cells (ints L) 120 false none))).set (n+1) (some (.cells (ints X) 110 false none))).get n=some (.cells (ints L) 120 false none):=by rw[Tr.get_set,if_neg (by omega),Tr.get_set,if_pos rfl]
    have b2:((H.set n (some (.cells (ints L) 120 false none))).set (n+1) (some (.cells (ints X) 110 false none))).get (n+1)=some (.cells (ints X) 110 false none):=by rw[Tr.get_set,if_pos rfl]
    have b3:∀ b,b<n→((H.set n (some (.cells (ints L) 120 false none))).set (n+1) (some (.cells (ints X) 110 false none))).get b=H.get b:=fun b hb=>by rw[Tr.get_set,if_neg (by omega),Tr.get_set,if_neg (by omega)]
    generalize (H.set n (some (.cells (ints L) 120 false none))).set (n+1) (some (.cells (ints X) 110 false none))=H2 at b1 b2 b3 ⊢
    have hI2:Inv H2 (n+1+1):=ar.same H n H2 (n+1+1) hI (by omega) fun b hb=>b3 b (by omega)
    obtain⟨_,g2,g3,g4,g5,g6⟩:=ar.facts H2 _ hI2
    obtain⟨r,H3,n3,r0,r1,r2,r3⟩:=holds_call (ρ:=Value × Hp × Nat) (l+3+(0)) (show g<n+1+1 by omega) g5 hs (g6.up (show base≤n+1+1 by omega)) hnp hX.1
    rw[show l+3+(0)+2=l+5+(0) by omega] at r1
    have hr:r=true↔holdsD js ks ps nj np L=true:=r0.trans (holds_iff hX hnp)
    have hI3:Inv H3 n3:=ar.same H2 _ H3 n3 hI2 (by omega) fun b hb=>r3 b (by omega)
    have k3:∀ b,base≤b→b<n→H3.get b=H.get b:=fun b _ hb=>by rw[r3 b (by omega),b3 b hb]
    rw[addrV_eq,bindO_some,load_func g2 agg105 rfl rfl,bindO_some,addrV_eq,bindO_some,load_all b2 agg111 sz111 lXi,bindO_some,r1]
    cases r with
    | false=>
      have hh:holdsD js ks ps nj np L=false:=by
        cases c:holdsD js ks ps nj np L with
        | false=>rfl
        | true=>exact absurd (hr.2 c) (by simp)
      rw[findL_stop (.inl hh),not_f,bindO_some]
      simp only[guardK_tf,guardK_u,pickV_t,bindO_some,ifK_t]
      exact⟨H3,n3,by omega,k3,rfl,hI3⟩
    | true=>
      have hh:=hr.1 rfl
      obtain⟨_,q2,q3,q4,q5,q6⟩:=ar.facts H3 _ hI3
      have lx:loadV P H3 31 ⟨g,0+0+0,none⟩=some x:=by
        have:=q5.load (P:=P) (k:=0) agg31 (by omega)
        rw[hs.x] at this; exact this
      have hlx:lenV P 31 x=some (.int .i64 np):=q6.len_eq und31
      have hIs:I64 ((np:Int)-(p:Int)):=by unfold I64; omega
      rw[not_t,bindO_some]
      simp only[guardK_ff,addrV_eq,bindO_some,load_func q2 agg105 rfl rfl,nil_ptr,fa117_0,fa35_0,lx,hlx,binK_some (bin_sub hIs),binK_some bin_gtr,pickV_f]
      cases hc:decide (((np:Int)-(p:Int))<(left:Int)) with
      | true=>
        have:=of_decide_eq_true hc
        rw[findL_stop (.inr (by omega)),ifK_t]
        exact⟨H3,n3,by omega,k3,rfl,hI3⟩
      | false=>
        have hle:=of_decide_eq_false hc
        have l1:=load_all ((r3 n (by omega)).trans b1) agg121 sz121 lLi
        have l2:=load_all ((r3 (n+1) (by omega)).trans b2) agg111 sz111 lXi
        rw[ifK_f,binK_some bin_eql]
        cases hz0:decide ((left:Int)=0) with
        | true=>
          have:left=0:=by have:=of_decide_eq_true hz0; omega
          subst this
          obtain⟨H4,n4,y1,y2,y3⟩:=hY (l+(0)) L X H3 n3 hI3 hL.1 hX
          rw[show l+(0)+5=l+5+(0) by omega] at y3
          rw[ifK_t,load_func q3 agg175 ar.holes.1 ar.holes.2,bindO_some,l1,bindO_some,l2,bindO_some,findL_last hh]
          have ky:∀ b,base≤b→b<n→H4.get b=H.get b:=fun b hb hbn=>by rw[y2 b hb (by omega),k3 b hb hbn]
          rcases y3 with⟨z1,z2,z3⟩ | ⟨z1,z2,z3⟩
          · rw[if_pos z1,z2]
            exact⟨H4,n4,by omega,ky,rfl,z3⟩
          · rw[if_neg (by rw[z1]; simp),z2]
            exact⟨H4,n4,by omega,ky,rfl,z3⟩
        | false=>
          have hl0:left≠0:=by have:=of_decide_eq_false hz0; omega
          exact absurd hle (by omega)
  | succ d ih=>
    intro L X left p H n hpd hL hK hX hl8 hI
    obtain⟨f1,f2,f3,f4,f5,f6⟩:=ar.facts H n hI
    have lLi:(ints L).length=8:=by rw[ints_length,hL.1]
    have lXi:(ints X).length=16:=by rw[ints_length,hX.1]
    unfold C118_0 B118_0
    generalize hS:S118_1 (cal (l+5+(d+1))) KK KK=S1
    rw[boxK_eq,boxK_eq]
    simp only[cellsV,ptr]
    have b1:((H.set n (some (.cells (ints L) 120 false none))).set (n+1) (some (.cells (ints X) 110 false none))).get n=some (.cells (ints L) 120 false none):=by rw[Tr.get_set,if_neg (by omega),Tr.get_set,if_pos rfl]
    have b2:((H.set n (some (.cells (ints L) 120 false none))).set (n+1) (some (.cells (ints X) 110 false none))).get (n+1)=some (.cells (ints X) 110 false none):=by rw[Tr.get_set,if_pos rfl]
    have b3:∀ b,b<n→((H.set n (some (.cells (ints L) 120 false none))).set (n+1) (some (.cells (ints X) 110 false none))).get b=H.get b:=fun b hb=>by rw[Tr.get_set,if_neg (by omega),Tr.get_set,if_neg (by omega)]
    generalize (H.set n (some (.cells (ints L) 120 false none))).set (n+1) (some (.cells (ints X) 110 false none))=H2 at b1 b2 b3 ⊢
    have hI2:Inv H2 (n+1+1):=ar.same H n H2 (n+1+1) hI (by omega) fun b hb=>b3 b (by omega)
    obtain⟨_,g2,g3,g4,g5,g6⟩:=ar.facts H2 _ hI2
    obtain⟨r,H3,n3,r0,r1,r2,r3⟩:=holds_call (ρ:=Value × Hp × Nat) (l+3+(d+1)) (show g<n+1+1 by omega) g5 hs (g6.up (show base≤n+1+1 by omega)) hnp hX.1
    rw[show l+3+(d+1)+2=l+5+(d+1) by omega] at r1
    have hr:r=true↔holdsD js ks ps nj np L=true:=r0.trans (holds_iff hX hnp)
    have hI3:Inv H3 n3:=ar.same H2 _ H3 n3 hI2 (by omega) fun b hb=>r3 b (by omega)
    have k3:∀ b,base≤b→b<n→H3.get b=H.get b:=fun b _ hb=>by rw[r3 b (by omega),b3 b hb]
    rw[addrV_eq,bindO_some,load_func g2 agg105 rfl rfl,bindO_some,addrV_eq,bindO_some,load_all b2 agg111 sz111 lXi,bindO_some,r1]
    cases r with
    | false=>
      have hh:holdsD js ks ps nj np L=false:=by
        cases c:holdsD js ks ps nj np L with
        | false=>rfl
        | true=>exact absurd (hr.2 c) (by simp)
      rw[findL_stop (.inl hh),not_f,bindO_some]
      simp only[guardK_tf,guardK_u,pickV_t,bindO_some,ifK_t]
      exact⟨H3,n3,by omega,k3,rfl,hI3⟩
    | true=>
      have hh:=hr.1 rfl
      obtain⟨_,q2,q3,q4,q5,q6⟩:=ar.facts H3 _ hI3
      have lx:loadV P H3 31 ⟨g,0+0+0,none⟩=some x:=by
        have:=q5.load (P:=P) (k:=0) agg31 (by omega)
        rw[hs.x] at this; exact this
      have hlx:lenV P 31 x=some (.int .i64 np):=q6.len_eq und31
      have hIs:I64 ((np:Int)-(p:Int)):=by unfold I64; omega
      rw[not_t,bindO_some]
      simp only[guardK_ff,addrV_eq,bindO_some,load_func q2 agg105 rfl rfl,nil_ptr,fa117_0,fa35_0,lx,hlx,binK_some (bin_sub hIs),binK_some bin_gtr,pickV_f]
      cases hc:decide (((np:Int)-(p:Int))<(left:Int)) with
      | true=>
        have:=of_decide_eq_true hc
        rw[findL_stop (.inr (by omega)),ifK_t]
        exact⟨H3,n3,by omega,k3,rfl,hI3⟩
      | false=>
        have hle:=of_decide_eq_false hc
        have l1:=load_all ((r3 n (by omega)).trans b1) agg121 sz121 lLi
        have l2:=load_all ((r3 (n+1) (by omega)).trans b2) agg111 sz111 lXi
        rw[ifK_f,binK_some bin_eql]
        cases hz0:decide ((left:Int)=0) with
        | true=>
          have:left=0:=by have:=of_decide_eq_true hz0; omega
          subst this
          obtain⟨H4,n4,y1,y2,y3⟩:=hY (l+(d+1)) L X H3 n3 hI3 hL.1 hX
          rw[show l+(d+1)+5=l+5+(d+1) by omega] at y3
          rw[ifK_t,load_func q3 agg175 ar.holes.1 ar.holes.2,bindO_some,l1,bindO_some,l2,bindO_some,findL_last hh]
          have ky:∀ b,base≤b→b<n→H4.get b=H.get b:=fun b hb hbn=>by rw[y2 b hb (by omega),k3 b hb hbn]
          rcases y3 with⟨z1,z2,z3⟩ | ⟨z1,z2,z3⟩
          · rw[if_pos z1,z2]
            exact⟨H4,n4,by omega,ky,rfl,z3⟩
          · rw[if_neg (by rw[z1]; simp),z2]
            exact⟨H4,n4,by omega,ky,rfl,z3⟩
        | false=>
          have hl0:left≠0:=by have:=of_decide_eq_false hz0; omega
          have hI1:I64 ((p:Int)+1):=by unfold I64; omega
          have hc1:((p:Int)+1)=((p+1:Nat):Int):=by omega
          have ep:np-(d+1)=p:=by omega
          have epl:=place_value (ρ:=Value × Hp × Nat) (l+5+d) (.agg ⟨ints L⟩) (.agg ⟨ints X⟩) (.int .i64 ((p+1:Nat):Int)) (.int .i64 left) sb yb pb
          rw[show l+5+d+1=l+5+(d+1) by omega] at epl
          obtain⟨H4,n4,y1,y2,y3⟩:=ih L X left (p+1) H3 n3 (by omega) hL.skip hK hX hl8 hI3
          rw[ifK_f,load_func q4 agg176 rfl rfl,bindO_some,l1,bindO_some,l2,bindO_some,binK_some (bin_add hI1),hc1,epl,findL_step hh (by omega) hl0,ep]
          have ky:∀ b,base≤b→b<n3→H4.get b=H3.get b:=fun b hb hbn=>y2 b hb hbn
          cases hfd:findL (rightD js ks ps nj np) (holdsD js ks ps nj np) (fitD js ks nj np) np nk d L left with
          | some M=>
            rw[hfd] at y3
            obtain⟨y3,y4⟩:=y3
            rw[y3,bindO_some]
            dsimp only
            rw[not_f,bindO_some,ifK_t]
            exact⟨H4,n4,by omega,fun b hb hbn=>by rw[ky b hb (by omega),k3 b hb hbn],rfl,y4⟩
          | none=>
            rw[hfd] at y3
            obtain⟨y3,y4⟩:=y3
            obtain⟨_,w2,w3,w4,w5,w6⟩:=ar.facts H4 _ y4
            have lz:loadV P H4 33 ⟨g,0+0+2,none⟩=some z:=by
              have:=w5.load (P:=P) (k:=2) agg33 (by omega)
              rw[hs.z] at this; exact this
            rw[y3,bindO_some]
            dsimp only
            rw[not_t,bindO_some,ifK_f,load_func w2 agg105 rfl rfl,bindO_some,nil_ptr,bindO_some,fa117_0,bindO_some,fa35_2,bindO_some,addrV_eq,bindO_some,lz,bindO_some,hz,bindO_some,← hS]
            have:=kinds_loop l KK (t:=n) (bL:=n) (bX:=n+1) ar hs hz hn hks hnp hnk (show p<np by omega) hL hK hX (by omega) hl8 f1 (by omega) (by omega) (by omega)
              (fun kd Z H n hkd hfit hZ hI=>ih (L.set p (kd:Int)) Z (left-1) (p+1) H n (by omega) hL.put (kinds_put hK hL.1 (by omega) hkd) hZ (by omega) hI)
              KK 0 L H4 n4 y4 (by omega) (by omega) hL.1 (fun a=>rfl) (by rw[ky n (by omega) (by omega),r3 n (by omega)]; exact b1) (by rw[ky (n+1) (by omega) (by omega),r3 (n+1) (by omega)]; exact b2) (Nat.zero_le _) (by unfold KK; omega)
            rw[Nat.sub_zero] at this
            exact this.from (by omega) (Nat.le_refl _) fun b hb hbn=>by rw[ky b hb (by omega),k3 b hb hbn]
end Go.Proofs.Ytmpnblcfpdnlmaa.spec
end
section
namespace Go.Proofs.Ytmpnblcfpdnlmaa.spec
open Go Go.Ev Go.Proofs.Ytmpnblcfpdnlmaa.nestFits Go.Proofs.Ytmpnblcfpdnlmaa.G
set_option maxRecDepth 100000
variable {ρ:Type}
noncomputable def code81:Code:=codeOf 81
noncomputable def results81:List ResultVar:=resOf 81
noncomputable def loop81:Code:=cL (cR (cL (cR (cR (cL (cR code81))))))
noncomputable def tail81:Code:=cR (cR (cR (cL (cR code81))))
noncomputable def body81:Code:=cL loop81
noncomputable def rang81:Code:=cR (cR (cL (cL (cR (cR body81)))))
noncomputable def asg81:Code:=asgOf (cL rang81)
noncomputable def bod81:Code:=bodOf (cL rang81)
noncomputable def KE (c:Cal) (k:Nat):KC (Value × Hp × Nat):=codeE P c (codeF P c k) none 81 tail81 .leaf (doneK P results81) X0 (doneK P results81)
noncomputable def LP (c:Cal) (k m:Nat):KC (Value × Hp × Nat):=codeF P c m .leaf none 81 loop81 (KE c k) (upX 0 (KE c k) X0) (doneK P results81)
noncomputable def KN (c:Cal) (k m:Nat):KC (Value × Hp × Nat):=codeE P c (codeF P c m) none 81 (cR (cR (cR body81))) .leaf (fun T H n D=>LP c k m T H n D) (upX 0 (KE c k) X0) (doneK P results81)
def upd (o:Nat→Value) (i:Nat) (v:Value):Nat→Value:=fun j=>match Nat.beq j i with
  | true=>v
  | false=>o j
noncomputable def TA (o:Nat→Value) (v1 v2 v4 v5 v16 v17:Value):Tm:=((((((((((((((((Tr.nil:Tm).set 0 (some (o 0))).set 1 (some v1)).set 2 (some v2)).set 3 (some (o 3))).set 4 (some v4)).set 5 (some v5)).set 9 (some (o 9))).set 10 (some (o 10))).set 11 (some (o 11))).set 12 (some (o 12))).set 13 (some (o 13))).set 14 (some (o 14))).set 15 (some (o 15))).set 16 (some v16)).set 17 (some v17))
noncomputable def TB (o:Nat→Value) (v1 v2 v4 v5 v16 v17:Value):Tm:=((((((((((((((((((((((Tr.nil:Tm).set 0 (some (o 0))).set 1 (some v1)).set 2 (some v2)).set 3 (some (o 3))).set 4 (some v4)).set 5 (some v5)).set 9 (some (o 9))).set 10 (some (o 10))).set 11 (some (o 11))).set 12 (some (o 12))).set 13 (some (o 13))).set 14 (some (o 14))).set 15 (some (o 15))).set 16 (some v16)).set 17 (some v17)).set 18 (some (o 18))).set 19 (some (o 19))).set 6 (some (o 6))).set 20 (some (o 20))).set 21 (some (o 21))).set 22 (some (o 22)))
noncomputable def TC (o:Nat→Value) (v1 v2 v4 v5 v16 v17:Value):Tm:=(((((((((((((((((((((((Tr.nil:Tm).set 0 (some (o 0))).set 1 (some v1)).set 2 (some v2)).set 3 (some (o 3))).set 4 (some v4)).set 5 (some v5)).set 9 (some (o 9))).set 10 (some (o 10))).set 11 (some (o 11))).set 12 (some (o 12))).set 13 (some (o 13))).set 14 (some (o 14))).set 15 (some (o 15))).set 16 (some v16)).set 17 (some v17)).set 18 (some (o 18))).set 19 (some (o 19))).set 6 (some (o 6))).set 20 (some (o 20))).set 21 (some (o 21))).set 22 (some (o 22))).set 29 (some (o 29)))
def o81 (v0 v9 v10 v11 v12 v13 v14 v15:Value):Nat→Value:=upd (upd (upd (upd (upd (upd (upd (upd (upd (fun _=>.nilIface) 0 v0) 3 (.bool false)) 9 v9) 10 v10) 11 v11) 12 v12) 13 v13) 14 v14) 15 v15
theorem pre81 (c:Cal) (k:Nat) (v0:Value) (H:Hp) (n:Nat):bodyE P c A (k+1) 81 [v0] H n =
    (boxK 104 v0 H n fun v1 H n=>allocK P 120 H n fun v2 H n=>callFK P c 101 [] H n fun v9 H n=>allocK P 120 H n fun v4 H n=>allocK P 4 H n fun v5 H n=>bindO (storeP P 120 v4 v9 H) fun H=>bindO (storeP P 4 v5 (.bool false) H) fun H=>
      bindO (addrV v1) fun a=>bindO (loadV P H 104 a) fun v10=>bindO (nilV v10) fun v11=>bindO (fieldAddrV P 116 v11 0) fun v12=>bindO (fieldAddrV P 35 v12 0) fun v13=>bindO (addrV v13) fun a=>bindO (loadV P H 31 a) fun v14=>bindO (lenV P 31 v14) fun v15=>
      binK P .add 3 (.tmp 15) (.const (.int .i64 1)) v15 (.int .i64 1) fun v16=>LP c k (k+1) (TA (o81 v0 v9 v10 v11 v12 v13 v14 v15) v1 v2 v4 v5 v16 (.int .i64 0)) H n []):=by
  rw[body_eq (fn:=Go.Proofs.Try.f81) (c:=code81) (rs:=results81) (by kernel_rfl) (by kernel_rfl) (by kernel_rfl) (by kernel_rfl)]
  kernel_rfl
theorem loop81_A (c:Cal) (k m:Nat) (o:Nat→Value) (v1 v2 v4 v5 v16 v17:Value) (H:Hp) (n:Nat) (D:List Nat):LP c k (m+1) (TA o v1 v2 v4 v5 v16 v17) H n D =
    (binK P .lss 3 (.tmp 17) (.tmp 16) v17 v16 fun v18=>ifK v18
      (bindO (addrV v1) fun a=>bindO (loadV P H 104 a) fun v20=>callFK P c 110 [v20,v17] H n fun v22 H n=>
          rangeK P c none 81 v22 #[23,24] asg81 bod81 (KN c k m) (upX 2 (KN c k m) (upX 1 (KN c k m) (upX 0 (KE c k) X0))) (doneK P results81) (TB (upd (upd (upd (upd (upd (upd o 18 v18) 19 v17) 6 v17) 20 v20) 21 v17) 22 v22) v1 v2 v4 v5 v16 v17) H n D)
      (KE c k ((TA o v1 v2 v4 v5 v16 v17).set 18 (some v18)) H n D)):=by
  kernel_rfl
theorem loop81_C (c:Cal) (k m:Nat) (o:Nat→Value) (v1 v2 v4 v5 v16 v17:Value) (H:Hp) (n:Nat) (D:List Nat):LP c k (m+1) (TC o v1 v2 v4 v5 v16 v17) H n D =
    (binK P .lss 3 (.tmp 17) (.tmp 16) v17 v16 fun v18=>ifK v18
      (bindO (addrV v1) fun a=>bindO (loadV P H 104 a) fun v20=>callFK P c 110 [v20,v17] H n fun v22 H n=>
          rangeK P c none 81 v22 #[23,24] asg81 bod81 (KN c k m) (upX 2 (KN c k m) (upX 1 (KN c k m) (upX 0 (KE c k) X0))) (doneK P results81) (TC (upd (upd (upd (upd (upd (upd o 18 v18) 19 v17) 6 v17) 20 v20) 21 v17) 22 v22) v1 v2 v4 v5 v16 v17) H n D)
      (KE c k ((TC o v1 v2 v4 v5 v16 v17).set 18 (some v18)) H n D)):=by
  kernel_rfl
theorem next81_B (c:Cal) (k m:Nat) (o:Nat→Value) (v1 v2 v4 v5 v16 v17:Value) (H:Hp) (n:Nat) (D:List Nat):KN c k m (TB o v1 v2 v4 v5 v16 v17) H n D =
    (binK P .add 3 (.tmp 17) (.const (.int .i64 1)) v17 (.int .i64 1) fun v29=>LP c k m (TC (upd o 29 v29) v1 v2 v4 v5 v16 v29) H n D):=by
  kernel_rfl
theorem post81_B (c:Cal) (k:Nat) (o:Nat→Value) (v1 v2 v4 v5 v16 v17:Value) (H:Hp) (n:Nat) (D:List Nat):KE c k (TB o v1 v2 v4 v5 v16 v17) H n D =
    (bindO (addrV v4) fun a=>bindO (loadV P H 120 a) fun v30=>bindO (addrV v5) fun a5=>bindO (loadV P H 4 a5) fun v31=>effK P [.l 4 a5] H n (fun H n k=>bindO (storeP P 120 v2 v30 H) fun H=>k undef H n) fun _ H n=>
      getK (takeD H D) fun H=>bindO (resV P (((Tr.nil:Tm).set 3 (some v31)).set 2 (some v2)) H results81) fun vs=>some (oneV vs,H,n)):=by
  kernel_rfl
theorem asg81_B (l lp:Nat) (o:Nat→Value) (v1 v2 v4 v5 v16 v17 p q:Value) (H:Hp) (n:Nat) :
    (cal (l+1)).body lp 81 asg81 { T:=((TB o v1 v2 v4 v5 v16 v17).set 23 (some p)).set 24 (some q),H,n,D:=[] } =
      (allocK P 120 H n fun v7 H n=>bindO (storeP P 120 v7 p H) fun H=>allocK P 110 H n fun v8 H n=>bindO (storeP P 110 v8 q H) fun H=>some (.norm,{ T:=((((TB o v1 v2 v4 v5 v16 v17).set 23 (some p)).set 24 (some q)).set 7 (some v7)).set 8 (some v8),H,n,D:=[] })):=by kernel_rfl
theorem bod81_B (l lp:Nat) (o:Nat→Value) (v1 v2 v4 v5 v16 v17 p q v7 v8:Value) (H:Hp) (n:Nat) :
    (cal (l+1)).body lp 81 bod81 { T:=((((TB o v1 v2 v4 v5 v16 v17).set 23 (some p)).set 24 (some q)).set 7 (some v7)).set 8 (some v8),H,n,D:=[] } =
      (bindO (addrV v1) fun a=>bindO (loadV P H 104 a) fun v25=>bindO (addrV v8) fun a=>bindO (loadV P H 110 a) fun v26=>callFK P (cal l) 83 [v25,v26] H n fun v27 H n=>ifK v27
        (bindO (addrV v7) fun a=>bindO (loadV P H 120 a) fun v28=>bindO (storeP P 120 v4 v28 H) fun H=>bindO (storeP P 4 v5 (.bool true) H) fun H=>
          some (.exit 0,{ T:=((((((((TB o v1 v2 v4 v5 v16 v17).set 23 (some p)).set 24 (some q)).set 7 (some v7)).set 8 (some v8)).set 25 (some v25)).set 26 (some v26)).set 27 (some v27)).set 28 (some v28),H,n,D:=[] }))
        (some (.norm,{ T:=(((((((TB o v1 v2 v4 v5 v16 v17).set 23 (some p)).set 24 (some q)).set 7 (some v7)).set 8 (some v8)).set 25 (some v25)).set 26 (some v26)).set 27 (some v27),H,n,D:=[] }))):=by kernel_rfl
theorem next81_C (c:Cal) (k m:Nat) (o:Nat→Value) (v1 v2 v4 v5 v16 v17:Value) (H:Hp) (n:Nat) (D:List Nat):KN c k m (TC o v1 v2 v4 v5 v16 v17) H n D =
    (binK P .add 3 (.tmp 17) (.const (.int .i64 1)) v17 (.int .i64 1) fun v29=>LP c k m (TC (upd o 29 v29) v1 v2 v4 v5 v16 v29) H n D):=by
  kernel_rfl
theorem post81_C (c:Cal) (k:Nat) (o:Nat→Value) (v1 v2 v4 v5 v16 v17:Value) (H:Hp) (n:Nat) (D:List Nat):KE c k (TC o v1 v2 v4 v5 v16 v17) H n D =
    (bindO (addrV v4) fun a=>bindO (loadV P H 120 a) fun v30=>bindO (addrV v5) fun a5=>bindO (loadV P H 4 a5) fun v31=>effK P [.l 4 a5] H n (fun H n k=>bindO (storeP P 120 v2 v30 H) fun H=>k undef H n) fun _ H n=>
      getK (takeD H D) fun H=>bindO (resV P (((Tr.nil:Tm).set 3 (some v31)).set 2 (some v2)) H results81) fun vs=>some (oneV vs,H,n)):=by
  kernel_rfl
theorem asg81_C (l lp:Nat) (o:Nat→Value) (v1 v2 v4 v5 v16 v17 p q:Value) (H:Hp) (n:Nat) :
    (cal (l+1)).body lp 81 asg81 { T:=((TC o v1 v2 v4 v5 v16 v17).set 23 (some p)).set 24 (some q),H,n,D:=[] } =
      (allocK P 120 H n fun v7 H n=>bindO (storeP P 120 v7 p H) fun H=>allocK P 110 H n fun v8 H n=>bindO (storeP P 110 v8 q H) fun H=>some (.norm,{ T:=((((TC o v1 v2 v4 v5 v16 v17).set 23 (some p)).set 24 (some q)).set 7 (some v7)).set 8 (some v8),H,n,D:=[] })):=by kernel_rfl
theorem bod81_C (l lp:Nat) (o:Nat→Value) (v1 v2 v4 v5 v16 v17 p q v7 v8:Value) (H:Hp) (n:Nat) :
    (cal (l+1)).body lp 81 bod81 { T:=((((TC o v1 v2 v4 v5 v16 v17).set 23 (some p)).set 24 (some q)).set 7 (some v7)).set 8 (some v8),H,n,D:=[] } =
      (bindO (addrV v1) fun a=>bindO (loadV P H 104 a) fun v25=>bindO (addrV v8) fun a=>bindO (loadV P H 110 a) fun v26=>callFK P (cal l) 83 [v25,v26] H n fun v27 H n=>ifK v27
        (bindO (addrV v7) fun a=>bindO (loadV P H 120 a) fun v28=>bindO (storeP P 120 v4 v28 H) fun H=>bindO (storeP P 4 v5 (.bool true) H) fun H=>
          some (.exit 0,{ T:=((((((((TC o v1 v2 v4 v5 v16 v17).set 23 (some p)).set 24 (some q)).set 7 (some v7)).set 8 (some v8)).set 25 (some v25)).set 26 (some v26)).set 27 (some v27)).set 28 (some v28),H,n,D:=[] }))
        (some (.norm,{ T:=(((((((TC o v1 v2 v4 v5 v16 v17).set 23 (some p)).set 24 (some q)).set 7 (some v7)).set 8 (some v8)).set 25 (some v25)).set 26 (some v26)).set 27 (some v27),H,n,D:=[] }))):=by kernel_rfl
theorem set18_C (o:Nat→Value) (v1 v2 v4 v5 v16 v17 v18:Value):(TC o v1 v2 v4 v5 v16 v17).set 18 (some v18)=TC (upd o 18 v18) v1 v2 v4 v5 v16 v17:=by kernel_rfl
theorem call81 (l:Nat) (a:Value) (H:Hp) (n:Nat):(cal (l+1)).call 81 [a] H n=bodyE P (cal l) A (KK+1) 81 [a] H n:=by kernel_rfl
theorem ntm81:ntm P 81=32:=by kernel_rfl
theorem results81_eq:results81=[.cell 2 120,.tmp 3]:=by kernel_rfl
end Go.Proofs.Ytmpnblcfpdnlmaa.spec
end
section
namespace Go.Proofs.Ytmpnblcfpdnlmaa.spec
open Go Go.Ev Go.Proofs.Ytmpnblcfpdnlmaa.nestFits Go.Proofs.Ytmpnblcfpdnlmaa.G
set_option maxRecDepth 100000
variable {ρ:Type}
theorem agg4':isAggT P 4=some false:=by kernel_rfl
theorem sz4':szT P 4=some 1:=by kernel_rfl
theorem zero4':zeroT P 4=some (.bool false):=by kernel_rfl
def IsT81 (T:Tm) (b1 b2 b4 b5:Nat) (v16 v17:Value):Prop:=(∃ o,T=TB o (.pointer (some ⟨b1,0,none⟩)) (.pointer (some ⟨b2,0,none⟩)) (.pointer (some ⟨b4,0,none⟩)) (.pointer (some ⟨b5,0,none⟩)) v16 v17)∨∃ o,T=TC o (.pointer (some ⟨b1,0,none⟩)) (.pointer (some ⟨b2,0,none⟩)) (.pointer (some ⟨b4,0,none⟩)) (.pointer (some ⟨b5,0,none⟩)) v16 v17
theorem asg_of (l lp:Nat) {T:Tm} {b1 b2 b4 b5:Nat} {v16 v17:Value} (hT:IsT81 T b1 b2 b4 b5 v16 v17) (p q:Value) (H:Hp) (n:Nat) :
    (cal (l+1)).body lp 81 asg81 { T:=(T.set 23 (some p)).set 24 (some q),H,n,D:=[] } =
      (allocK P 120 H n fun v7 H n=>bindO (storeP P 120 v7 p H) fun H=>allocK P 110 H n fun v8 H n=>bindO (storeP P 110 v8 q H) fun H=>some (.norm,{ T:=(((T.set 23 (some p)).set 24 (some q)).set 7 (some v7)).set 8 (some v8),H,n,D:=[] })):=by
  rcases hT with⟨o,rfl⟩ | ⟨o,rfl⟩
  · exact asg81_B ..
  · exact asg81_C ..
theorem bod_of (l lp:Nat) {T:Tm} {b1 b2 b4 b5:Nat} {v16 v17:Value} (hT:IsT81 T b1 b2 b4 b5 v16 v17) (p q v7 v8:Value) (H:Hp) (n:Nat):∃ U V:Value→Value→Value→Value→Tm,
    (cal (l+1)).body lp 81 bod81 { T:=(((T.set 23 (some p)).set 24 (some q)).set 7 (some v7)).set 8 (some v8),H,n,D:=[] } =
      (bindO (addrV (.pointer (some ⟨b1,0,none⟩))) fun a=>bindO (loadV P H 104 a) fun v25=>bindO (addrV v8) fun a=>bindO (loadV P H 110 a) fun v26=>callFK P (cal l) 83 [v25,v26] H n fun v27 H n=>ifK v27
        (bindO (addrV v7) fun a=>bindO (loadV P H 120 a) fun v28=>bindO (storeP P 120 (.pointer (some ⟨b4,0,none⟩)) v28 H) fun H=>bindO (storeP P 4 (.pointer (some ⟨b5,0,none⟩)) (.bool true) H) fun H=>
          some (.exit 0,{ T:=U v25 v26 v27 v28,H,n,D:=[] }))
        (some (.norm,{ T:=V v25 v26 v27 v27,H,n,D:=[] }))):=by
  rcases hT with⟨o,rfl⟩ | ⟨o,rfl⟩
  · exact⟨fun v25 v26 v27 v28=>_,fun v25 v26 v27 _=>_,bod81_B ..⟩
  · exact⟨fun v25 v26 v27 v28=>_,fun v25 v26 v27 _=>_,bod81_C ..⟩
theorem yield81 (l:Nat) {T:Tm} {H:Hp} {n lb b1 b2 b4 b5 g d np nj:Nat} {f:Nat→Value} {x y z v16 v17:Value} {ps js ks L X:List Int} (hT:IsT81 T b1 b2 b4 b5 v16 v17)
    (hl:H.get lb=some (.loop .ready none 81 T (ntm P 81) #[23,24] asg81 bod81 d)) (h1:H.get b1=some (.cells [.pointer (some ⟨g,0,none⟩)] 104 false none)) (h4:∃ w,H.get b4=some (.cells w 120 false none)∧w.length=8) (h5:∃ w,H.get b5=some (.cells [w] 4 false none))
    (hf:CellsF H g 859 116 f) (hs:SiteF f x y z js nj) (hx:SliceR H n 2 x np ps) (hnp:np≤8) (hL:L.length=8) (hX:RowIs X js ks L nj np 8)
    (hlb:lb<n) (hb1:b1<n) (hb4:b4<n) (hb5:b5<n) (hg:g<n) (e1:b1≠lb) (e4:b4≠lb) (e5:b5≠lb) (eg:g≠lb) (e45:b4≠b5) (hxl:∀ H':Hp,(∀ b,b≠lb→H'.get b=H.get b)→SliceR H' n 2 x np ps) :
    ∃ H' n',n≤n'∧(∀ b,b<n→b≠lb→b≠b4→b≠b5→H'.get b=H.get b) ∧
      ((rightD js ks ps nj np L=true∧(∀ k:Value→Hp→Nat→Option ρ,callVK P (cal (l+5)) (.func (.yield lb) #[] #[]) [.agg ⟨ints L⟩,.agg ⟨ints X⟩] H n k=k (.bool false) H' n')∧H'.get b4=some (.cells (ints L) 120 false none)∧H'.get b5=some (.cells [.bool true] 4 false none)∧H'.get lb=some (.loop .done (some (.exit 0)) 81 T (ntm P 81) #[23,24] asg81 bod81 d)) ∨
       (rightD js ks ps nj np L=false∧(∀ k:Value→Hp→Nat→Option ρ,callVK P (cal (l+5)) (.func (.yield lb) #[] #[]) [.agg ⟨ints L⟩,.agg ⟨ints X⟩] H n k=k (.bool true) H' n')∧H'.get b4=H.get b4∧H'.get b5=H.get b5∧H'.get lb=H.get lb)):=by
  have lLi:(ints L).length=8:=by rw[ints_length,hL]
  have lXi:(ints X).length=16:=by rw[ints_length,hX.1]
  have hpar:paramsT T (ntm P 81) (#[23,24]:Array Tmp).toList [.agg ⟨ints L⟩,.agg ⟨ints X⟩]=some ((T.set 23 (some (.agg ⟨ints L⟩))).set 24 (some (.agg ⟨ints X⟩))):=by
    rw[ntm81]; rfl
  obtain⟨H1,k1,k2,k3⟩:=spill (P:=P) (ρ:=Ex × St) (H:=H) (n:=n) (L:=ints L) zero121 rfl sz121 lLi (ints_leaf _)
  obtain⟨H2,k4,k5,k6⟩:=spill (P:=P) (ρ:=Ex × St) (H:=H1) (n:=n+1) (L:=ints X) zero111 rfl sz111 lXi (ints_leaf _)
  have kk:Keep n H H2:=k1.trans k4 (by omega)
  have hasg:(cal (l+5)).body lb 81 asg81 { T:=(T.set 23 (some (.agg ⟨ints L⟩))).set 24 (some (.agg ⟨ints X⟩)),H,n,D:=[] }=some (.norm,{ T:=(((T.set 23 (some (.agg ⟨ints L⟩))).set 24 (some (.agg ⟨ints X⟩))).set 7 (some (.pointer (some ⟨n,0,none⟩)))).set 8 (some (.pointer (some ⟨n+1,0,none⟩))),H:=H2,n:=n+1+1,D:=[] }):=by
    rw[asg_of (l+4) lb hT,k3,k6]
  have hl2:=(kk lb hlb).trans hl
  have hrdy:isReady H2 lb=true:=by unfold isReady; rw[hl2]
  have hpen:pendingOf H2 lb=none:=by unfold pendingOf; rw[hl2]
  have hbusy:setLoop H2 lb .busy none=some (H2.set lb (some (.loop .busy none 81 T (ntm P 81) #[23,24] asg81 bod81 d))):=by unfold setLoop; rw[hl2]
  have ho:∀ b,b≠lb→(H2.set lb (some (.loop .busy none 81 T (ntm P 81) #[23,24] asg81 bod81 d))).get b=H2.get b:=fun b hb=>by rw[Tr.get_set,if_neg hb]
  have gl:(H2.set lb (some (.loop .busy none 81 T (ntm P 81) #[23,24] asg81 bod81 d))).get lb=some (.loop .busy none 81 T (ntm P 81) #[23,24] asg81 bod81 d):=by rw[Tr.get_set,if_pos rfl]
  have hx3:SliceR (H2.set lb (some (.loop .busy none 81 T (ntm P 81) #[23,24] asg81 bod81 d))) (n+1+1) 2 x np ps:=by
    have:=(hxl (H.set lb (some (.loop .busy none 81 T (ntm P 81) #[23,24] asg81 bod81 d))) fun b hb=>by rw[Tr.get_set,if_neg hb])
    refine(this.keep (m:=n) (fun b hb=>?_) (Nat.le_refl _)).up (by omega)
    rw[Tr.get_set,Tr.get_set]
    split
    · rfl
    · exact kk b hb
  generalize H2.set lb (some (.loop .busy none 81 T (ntm P 81) #[23,24] asg81 bod81 d))=H3 at hbusy ho gl hx3
  have low:∀ b,b<n→b≠lb→H3.get b=H.get b:=fun b hb hne=>(ho b hne).trans (kk b hb)
  have g7:H3.get n=some (.cells (ints L) 120 false none):=by rw[ho n (by omega),k4 n (by omega)]; exact k2
  have g8:H3.get (n+1)=some (.cells (ints X) 110 false none):=by rw[ho _ (by omega)]; exact k5
  have hf3:CellsF H3 g 859 116 f:=by
    obtain⟨c,a1,a2,a3⟩:=hf
    exact⟨c,(low g hg eg).trans a1,a2,a3⟩
  obtain⟨r,H4,n4,r0,r1,r2,r3⟩:=right_call (ρ:=Ex × St) l (show g<n+1+1 by omega) hf3 hs hx3 hnp hX.1
  have hr:r=true↔rightD js ks ps nj np L=true:=by rw[r0,right_iff hX hnp,rightD_iff]
  have o4:∀ b,b<n→b≠lb→H4.get b=H.get b:=fun b hb hne=>(r3 b (by omega)).trans (low b hb hne)
  have gl4:H4.get lb=some (.loop .busy none 81 T (ntm P 81) #[23,24] asg81 bod81 d):=(r3 lb (by omega)).trans gl
  have l1:loadV P H3 104 ⟨b1,0,none⟩=some (.pointer (some ⟨g,0,none⟩)):=load_func ((low b1 hb1 e1).trans h1) agg105 rfl rfl
  obtain⟨U,V,hbd⟩:=bod_of (l+4) lb hT (.agg ⟨ints L⟩) (.agg ⟨ints X⟩) (.pointer (some ⟨n,0,none⟩)) (.pointer (some ⟨n+1,0,none⟩)) H3 (n+1+1)
  rw[addrV_eq,bindO_some,l1,bindO_some,addrV_eq,bindO_some,load_all g8 agg111 sz111 lXi,bindO_some,r1] at hbd
  have out:∀(j:Bool) (H':Hp) (n':Nat),(∀ k:Value→Hp→Nat→Option ρ,yieldF (fun | some l'=>(cal (l+5)).body l' | none=>fun _ _ _=>none) P lb [.agg ⟨ints L⟩,.agg ⟨ints X⟩] (bare H n)=some (.bool j,{ bare H n with H:=H',n:=n' })→callVK P (cal (l+5)) (.func (.yield lb) #[] #[]) [.agg ⟨ints L⟩,.agg ⟨ints X⟩] H n k=k (.bool j) H' n'):=by
    intro j H' n' k hy
    show stK (yieldF (fun | some l'=>(cal (l+5)).body l' | none=>fun _ _ _=>none) P lb [.agg ⟨ints L⟩,.agg ⟨ints X⟩] (bare H n)) k=_
    rw[hy]
    rfl
  have hb:Nat.beq (ntm P 81) (ntm P 81)=true:=Nat.beq_refl _
  cases r with
  | false=>
    have hRf:rightD js ks ps nj np L=false:=by
      cases c:rightD js ks ps nj np L with
      | false=>rfl
      | true=>exact absurd (hr.2 c) (by simp)
    rw[ifK_f] at hbd
    have hend:setLoop H4 lb .ready none=some (H4.set lb (some (.loop .ready none 81 T (ntm P 81) #[23,24] asg81 bod81 d))):=by unfold setLoop; rw[gl4]
    refine⟨H4.set lb (some (.loop .ready none 81 T (ntm P 81) #[23,24] asg81 bod81 d)),n4,by omega,fun b hbn h1 _ _=>by rw[Tr.get_set,if_neg h1]; exact o4 b hbn h1,.inr ⟨hRf,fun k=>out true _ _ k ?_,by rw[Tr.get_set,if_neg e4]; exact o4 b4 hb4 e4,by rw[Tr.get_set,if_neg e5]; exact o4 b5 hb5 e5,by rw[Tr.get_set,if_pos rfl,hl]⟩⟩
    unfold yieldF
    have hx:exCode .norm=some none:=rfl
    simp only[bare,hl,hb,hpar,hasg,hrdy,hpen,hbusy,hbd,hx,Option.isNone_none,if_true,hend]
  | true=>
    obtain⟨w4,w41,w42⟩:=h4
    obtain⟨w5,w51⟩:=h5
    have g4:=(o4 b4 hb4 e4).trans w41
    have hst:=storeN_all (vs:=ints L) g4 (by rw[lLi,w42]) (ints_leaf _)
    have g5:(H4.set b4 (some (.cells (ints L) 120 false none))).get b5=some (.cells [w5] 4 false none):=by rw[Tr.get_set,if_neg (Ne.symm e45)]; exact(o4 b5 hb5 e5).trans w51
    have hst5:=storeN_all (vs:=[.bool true]) g5 rfl rfl
    have l7:=load_all ((r3 n (by omega)).trans g7) agg121 sz121 lLi
    rw[ifK_t,addrV_eq,bindO_some,l7,bindO_some,storeP_agg sz121 lLi,hst,bindO_some,storeP_leaf sz4' rfl,hst5,bindO_some] at hbd
    have q1:((H4.set b4 (some (.cells (ints L) 120 false none))).set b5 (some (.cells [.bool true] 4 false none))).get b4=some (.cells (ints L) 120 false none):=by rw[Tr.get_set,if_neg e45,Tr.get_set,if_pos rfl]
    have q2:((H4.set b4 (some (.cells (ints L) 120 false none))).set b5 (some (.cells [.bool true] 4 false none))).get b5=some (.cells [.bool true] 4 false none):=by rw[Tr.get_set,if_pos rfl]
    have q3:∀ b,b≠b4→b≠b5→((H4.set b4 (some (.cells (ints L) 120 false none))).set b5 (some (.cells [.bool true] 4 false none))).get b=H4.get b:=fun b h1 h2=>by rw[Tr.get_set,if_neg h2,Tr.get_set,if_neg h1]
    generalize (H4.set b4 (some (.cells (ints L) 120 false none))).set b5 (some (.cells [.bool true] 4 false none))=H5 at hbd q1 q2 q3
    have hend:setLoop H5 lb .done (some (.exit 0))=some (H5.set lb (some (.loop .done (some (.exit 0)) 81 T (ntm P 81) #[23,24] asg81 bod81 d))):=by unfold setLoop; rw[q3 lb (Ne.symm e4) (Ne.symm e5),gl4]
    refine⟨H5.set lb (some (.loop .done (some (.exit 0)) 81 T (ntm P 81) #[23,24] asg81 bod81 d)),n4,by omega,fun b hbn h1 h2 h3=>by rw[Tr.get_set,if_neg h1,q3 b h2 h3]; exact o4 b hbn h1,.inl ⟨hr.1 rfl,fun k=>out false _ _ k ?_,by rw[Tr.get_set,if_neg e4]; exact q1,by rw[Tr.get_set,if_neg e5]; exact q2,by rw[Tr.get_set,if_pos rfl]⟩⟩
    unfold yieldF
    have hx:exCode (.exit 0)=some (some (.exit 0)):=rfl
    have hn:(some (Code.exit 0)).isNone=false:=rfl
    have hff:¬ (false=true):=by simp
    simp only[bare,hl,hb,hpar,hasg,hrdy,hpen,hbusy,hbd,hx,hn,if_neg hff,hend]
end Go.Proofs.Ytmpnblcfpdnlmaa.spec
end
section
namespace Go.Proofs.Ytmpnblcfpdnlmaa.spec
open Go Go.Ev Go.Proofs.Ytmpnblcfpdnlmaa.nestFits Go.Proofs.Ytmpnblcfpdnlmaa.G
set_option maxRecDepth 100000
variable {ρ:Type}
end Go.Proofs.Ytmpnblcfpdnlmaa.spec
end
section
namespace Go.Proofs.Ytmpnblcfpdnlmaa.spec
open Go Go.Ev Go.Proofs.Ytmpnblcfpdnlmaa.nestFits Go.Proofs.Ytmpnblcfpdnlmaa.G
set_option maxRecDepth 100000
variable {ρ:Type}
def RowAt (H:Hp) (base n:Nat) (v:Value) (xs:List Int):Prop:=(v=.slice none 0 0∧xs=[])∨∃ b cap,v=.slice (some ⟨b,0,none⟩) xs.length cap∧base≤b∧b<n∧H.get b=some (.cells (ints xs) 3 false (some 1))
theorem eq44 (p q:Operand) (b o l c:Nat):binV P .eql 44 p q (.slice (some ⟨b,o,none⟩) l c) (.slice none 0 0)=some (.bool false):=by kernel_rfl
theorem flat76:flatF P 76=false:=by kernel_rfl
theorem call76 (l:Nat) (a:Value) (H:Hp) (n:Nat):(cal (l+1)).call 76 [a] H n=C76_0 (cal l) KK a H n:=by kernel_rfl
theorem clone76_at (l:Nat) {H:Hp} {n len:Nat} {v:Value} {xs:List Int} (h:ListR H n v len xs) (h0:len≠0) (hlen:len≤1000) :
    ∃ H' n',(∀ k:Value→Hp→Nat→Option ρ,callFK P (cal (l+1)) 76 [v] H n k=k (.slice (some ⟨n+1,0,none⟩) len capV) H' n')∧n+1<n'∧Keep n H H'∧H'.get (n+1)=some (.cells (ints xs) 3 false (some 1)):=by
  obtain⟨H',n',e,h1,h2,h3⟩:=list_at (cal l) KK h h0 hlen
  have e':C76_0 (cal l) KK v H n=C23_0 (cal l) KK v H n:=by
    rcases h.2.2 with⟨_,z⟩ | ⟨b,o,cap,rfl,_⟩
    · exact absurd z h0
    · unfold C76_0 B76_0 C23_0 B23_0
      rw[binK_some (eq44 ..),ifK_f]
  refine⟨H',n',fun k=>?_,h1,h2,h3⟩
  unfold callFK
  rw[flat76,call76,e',e]
  rfl
theorem ints_take_list {H:Hp} {b n k:Nat} {xs:List Int} {e:TypeId} {vec:Option Nat} (h:H.get b=some (.cells (ints xs) e false vec)) (hb:b<n) (hk:k≤xs.length) (hx:∀ x ∈ xs,I64 x) {cap:Nat}:ListR H n (.slice (some ⟨b,0,none⟩) k cap) k (xs.take k):=by
  refine⟨by simp; omega,fun x hx'=>hx x (List.mem_of_mem_take hx'),.inr ⟨b,0,cap,rfl,hb,_,ints xs,h,rfl,fun q v hv=>?_⟩⟩
  have:(ints (xs.take k))[q]?=if q<k then(ints xs)[q]? else none:=by
    unfold ints
    rw[List.map_take,List.getElem?_take]
  rw[this] at hv
  split at hv
  · rw[Nat.zero_add]; exact hv
  · cases hv
end Go.Proofs.Ytmpnblcfpdnlmaa.spec
end
section
namespace Go.Proofs.Ytmpnblcfpdnlmaa.spec
open Go Go.Ev Go.Proofs.Ytmpnblcfpdnlmaa.nestFits Go.Proofs.Ytmpnblcfpdnlmaa.G
set_option maxRecDepth 100000
variable {ρ:Type}
theorem zero176:zeroT P 175=some .nilFunc:=by kernel_rfl
theorem sz176:szT P 175=some 1:=by kernel_rfl
theorem build111':buildP P 110 []=some (.agg ⟨ints (List.replicate 16 0)⟩):=by kernel_rfl
def noL:List Int:=List.replicate 8 (-1)
theorem noL_get {q:Nat} (h:q<8):noL.getD q 0=-1:=by
  rw[List.getD_eq_getElem?_getD,noL,List.getElem?_replicate,if_pos h]; rfl
theorem noL_open:Open noL 0:=⟨rfl,fun _ _ h=>noL_get h⟩
theorem noL_kinds (np nk:Nat):KindsIn noL np nk:=fun _ hi=>.inl (noL_get hi)
theorem noL_row (js ks:List Int) (nj np:Nat):RowIs (List.replicate 16 0) js ks noL nj np 8:=by
  refine⟨rfl,fun q hq=>?_⟩
  have z:∀ k,(List.replicate 16 (0:Int)).getD k 0=0:=fun k=>by
    rw[List.getD_eq_getElem?_getD,List.getElem?_replicate]; split <;> rfl
  have s:∀ e,bsum js ks noL nj np 8 e q=0:=fun e=>by
    unfold bsum
    have:∀ i,i≤8→sumTo (fun p=>if noL.getD p 0=-1 then 0 else ext (ks.getD ((noL.getD p 0).toNat * 5) 0) (shP js ks nj np p (noL.getD p 0).toNat) e q) i=0:=by
      intro i
      induction i with
      | zero=>intro _; rfl
      | succ i ih=>
        intro hi
        simp only[sumTo]
        rw[ih (by omega),if_pos (noL_get (by omega))]
        rfl
    exact this 8 (Nat.le_refl _)
  rw[z,z,s,s]
  exact⟨rfl,rfl⟩
def LayOut (H:Hp) (n lb b4 b5:Nat) (T:Tm) (d:Nat) (o:Option (List Int)) (H':Hp):Prop:=match o with
  | some M=>(∀ b,b<n→b≠lb→b≠b4→b≠b5→H'.get b=H.get b)∧H'.get b4=some (.cells (ints M) 120 false none)∧H'.get b5=some (.cells [.bool true] 4 false none)∧H'.get lb=some (.loop .done (some (.exit 0)) 81 T (ntm P 81) #[23,24] asg81 bod81 d)
  | none=>∀ b,b<n→H'.get b=H.get b
theorem layouts_spec (l:Nat) {T:Tm} {H:Hp} {n lb b1 b2 b4 b5 sb nb g d np nj nk nests m0:Nat} {f:Nat→Value} {x y z v16 v17:Value} {ps js ks:List Int} (hT:IsT81 T b1 b2 b4 b5 v16 v17)
    (hl:H.get lb=some (.loop .ready none 81 T (ntm P 81) #[23,24] asg81 bod81 d)) (h1:H.get b1=some (.cells [.pointer (some ⟨g,0,none⟩)] 104 false none)) (h4:∃ w,H.get b4=some (.cells w 120 false none)∧w.length=8) (h5:∃ w,H.get b5=some (.cells [w] 4 false none))
    (hsb:H.get sb=some (.cells [.pointer (some ⟨g,0,none⟩)] 104 false none)) (hnb:H.get nb=some (.cells [.int .i64 nests] 3 false none))
    (hf:CellsF H g 859 116 f) (hs:SiteF f x y z js nj) (hz:lenV P 33 z=some (.int .i64 nk)) (hn:∀ p kd,p<np→kd<nk→NestAt f js ks nj np p kd) (hks:KindsOk ks nk) (hx:SliceR H m0 2 x np ps) (hnp:np≤8) (hnk:nk≤3) (hnests:nests≤8)
    (hm0:m0≤lb) (hlb:lb<n) (hb1:b1<n) (hb4:b4<n) (hb5:b5<n) (hsbn:sb<n) (hnbn:nb<n) (hg:g<n) (e1:b1≠lb) (e4:b4≠lb) (e5:b5≠lb) (eg:g≠lb) (e45:b4≠b5) :
    ∃ H' n',n≤n'∧C117_0 (cal (l+5+np+1)) KK (.func (.yield lb) #[] #[]) (.pointer (some ⟨sb,0,none⟩)) (.pointer (some ⟨nb,0,none⟩)) H n=some (.tuple ⟨[]⟩,H',n') ∧
      LayOut H n lb b4 b5 T d (findL (rightD js ks ps nj np) (holdsD js ks ps nj np) (fitD js ks nj np) np nk np noL nests) H':=by
  unfold C117_0 B117_0
  rw[boxK_eq,allocK_eq zero176]
  simp only[cellsV,ptr]
  have g0:((H.set n (some (.cells [.func (.yield lb) #[] #[]] 174 false none))).set (n+1) (some (.cells [.nilFunc] 175 false none))).get (n+1)=some (.cells [.nilFunc] 175 false none):=by rw[Tr.get_set,if_pos rfl]
  have hst:=storeN_all (vs:=[placeV sb n (n+1)]) g0 rfl rfl
  have hst':storeP P 175 (.pointer (some ⟨n+1,0,none⟩)) (.func (.func 118) ⟨[]⟩ ⟨[.pointer (some ⟨sb,0,none⟩),.pointer (some ⟨n,0,none⟩),.pointer (some ⟨n+1,0,none⟩)]⟩) ((H.set n (some (.cells [.func (.yield lb) #[] #[]] 174 false none))).set (n+1) (some (.cells [.nilFunc] 175 false none)))=_:=(storeP_leaf sz176 rfl).trans hst
  rw[hst',bindO_some]
  have q1:(((H.set n (some (.cells [.func (.yield lb) #[] #[]] 174 false none))).set (n+1) (some (.cells [.nilFunc] 175 false none))).set (n+1) (some (.cells [placeV sb n (n+1)] 175 false none))).get n=some (.cells [.func (.yield lb) #[] #[]] 174 false none):=by rw[Tr.get_set,if_neg (by omega),Tr.get_set,if_neg (by omega),Tr.get_set,if_pos rfl]
  have q2:(((H.set n (some (.cells [.func (.yield lb) #[] #[]] 174 false none))).set (n+1) (some (.cells [.nilFunc] 175 false none))).set (n+1) (some (.cells [placeV sb n (n+1)] 175 false none))).get (n+1)=some (.cells [placeV sb n (n+1)] 175 false none):=by rw[Tr.get_set,if_pos rfl]
  have q3:Keep n H (((H.set n (some (.cells [.func (.yield lb) #[] #[]] 174 false none))).set (n+1) (some (.cells [.nilFunc] 175 false none))).set (n+1) (some (.cells [placeV sb n (n+1)] 175 false none))):=(((Keep.refl n H).set (Nat.le_refl _) _).set (by omega) _).set (by omega) _
  generalize ((H.set n (some (.cells [.func (.yield lb) #[] #[]] 174 false none))).set (n+1) (some (.cells [.nilFunc] 175 false none))).set (n+1) (some (.cells [placeV sb n (n+1)] 175 false none))=H2 at q1 q2 q3 ⊢
  have l1:=load_func q2 agg176 rfl rfl
  have l2:loadV P H2 3 ⟨nb,0,none⟩=some (.int .i64 nests):=loadV_int (o:=0) (k:=0) (cells_at ((q3 nb hnbn).trans hnb)) agg3 rfl
  rw[addrV_eq,bindO_some,l1,bindO_some,build111',bindO_some,addrV_eq,bindO_some,l2,bindO_some]
  obtain⟨H3,s3,c3⟩:=effK_still (P:=P) (ρ:=Value × Hp × Nat) (ex:=[.l 3 ⟨nb,0,none⟩,.l 175 ⟨n+1,0,none⟩]) (H:=H2) (n:=n+1+1) (v:=.agg ⟨ints noL⟩)
    (op:=fun H n k=>callFK P (cal (l+5+np+1)) 101 [] H n fun v H n=>k v H n)
    ⟨fun q hq=>.inl (by
      simp only[List.mem_cons,List.not_mem_nil,or_false] at hq
      rcases hq with rfl | rfl
      · exact⟨_,_,rfl,.inl ⟨_,_,_,_,(q3 nb hnbn).trans hnb⟩⟩
      · exact⟨_,_,rfl,.inl ⟨_,_,_,_,q2⟩⟩),fun t a id c e h1 h2=>by simp at h2⟩ (fun H k=>bare_call (l+5+np) H _ _)
  rw[c3]
  have low:∀ b,b<n→H3.get b=H.get b:=fun b hb=>by rw[s3,q3 b hb]
  have ar:Around (fun H' n'=>n+2≤n'∧∀ b,b<n+2→H'.get b=H3.get b) (n+2) sb n (n+1) g np f x (.func (.yield lb) #[] #[]) ps:=by
    refine⟨fun H' n' ⟨hn',hk'⟩=>⟨hn',by rw[hk' _ (by omega),low _ hsbn]; exact hsb,by rw[hk' _ (by omega),s3]; exact q1,by rw[hk' _ (by omega),s3]; exact q2,?_,?_⟩,fun H1 n1 H' n' ⟨_,hk1⟩ hn' hk'=>⟨hn',fun b hb=>(hk' b hb).trans (hk1 b hb)⟩,⟨by omega,by omega,by omega,by omega⟩,rfl,rfl⟩
    · obtain⟨c,a1,a2,a3⟩:=hf
      exact⟨c,by rw[hk' g (by omega),low g hg]; exact a1,a2,a3⟩
    · exact(hx.keep (m:=m0) (fun b hb=>by rw[hk' b (by omega),low b (by omega)]) (Nat.le_refl _)).up (by omega)
  have hY:Yields (fun H' n'=>n+2≤n'∧∀ b,b<n+2→H'.get b=H3.get b) (fun M H' n'=>LayOut H n lb b4 b5 T d (some M) H') (n+2) np nj js ks ps (.func (.yield lb) #[] #[]):=by
    intro lv L X Hc nc ⟨hnc,hkc⟩ hL hX
    have lowc:∀ b,b<n→Hc.get b=H.get b:=fun b hb=>(hkc b (by omega)).trans (low b hb)
    obtain⟨H',n',r1,r2,r3⟩:=yield81 (ρ:=Value × Hp × Nat) lv (H:=Hc) (n:=nc) (lb:=lb) (g:=g) (d:=d) (x:=x) (y:=y) (z:=z) (f:=f) (js:=js) (ks:=ks) (ps:=ps) (L:=L) (X:=X) (np:=np) (nj:=nj) hT ((lowc lb hlb).trans hl) ((lowc b1 hb1).trans h1)
      (by obtain⟨w,w1,w2⟩:=h4; exact⟨w,(lowc b4 hb4).trans w1,w2⟩) (by obtain⟨w,w1⟩:=h5; exact⟨w,(lowc b5 hb5).trans w1⟩)
      (by
        obtain⟨c,a1,a2,a3⟩:=hf
        exact⟨c,by rw[lowc g hg]; exact a1,a2,a3⟩) hs ((hx.keep (m:=m0) (fun b hb=>lowc b (by omega)) (Nat.le_refl _)).up (by omega)) hnp hL hX (by omega) (by omega) (by omega) (by omega) (by omega) e1 e4 e5 eg e45
      (fun H' hk=>(hx.keep (m:=m0) (fun b hb=>by rw[hk b (by omega),lowc b (by omega)]) (Nat.le_refl _)).up (by omega))
    refine⟨H',n',r1,fun b hb hbn=>r2 b hbn (by omega) (by omega) (by omega),?_⟩
    rcases r3 with⟨z1,z2,z3,z4,z5⟩ | ⟨z1,z2,z3,z4,z5⟩
    · exact .inl ⟨z1,z2,fun b hb i1 i2 i3=>by rw[r2 b (by omega) i1 i2 i3,lowc b hb],z3,z4,z5⟩
    · refine .inr ⟨z1,z2,by omega,fun b hb=>?_⟩
      by_cases i1:b=lb
      · rw[i1,z5,hkc lb (by omega)]
      · by_cases i2:b=b4
        · rw[i2,z3,hkc b4 (by omega)]
        · by_cases i3:b=b5
          · rw[i3,z4,hkc b5 (by omega)]
          · rw[r2 b (by omega) i1 i2 i3,hkc b hb]
  have hp:=place_spec l ar hs hz hn hks hnp hnk hY np noL (List.replicate 16 0) nests 0 H3 (n+1+1) (by omega) noL_open (noL_kinds np nk) (noL_row ..) hnests ⟨by omega,fun _ _=>rfl⟩
  have epl:=place_value (ρ:=Value × Hp × Nat) (l+5+np) (.agg ⟨ints noL⟩) (.agg ⟨ints (List.replicate 16 0)⟩) (.int .i64 ((0:Nat):Int)) (.int .i64 nests) sb n (n+1)
  have ez:(Value.int IntKind.i64 0)=.int .i64 ((0:Nat):Int):=rfl
  rw[ez,epl]
  obtain⟨H4,n4,y1,_,y3⟩:=hp
  refine⟨H4,n4,by omega,?_,?_⟩
  · cases hfd:findL (rightD js ks ps nj np) (holdsD js ks ps nj np) (fitD js ks nj np) np nk np noL nests with
    | some M=>rw[hfd] at y3; rw[y3.1]; rfl
    | none=>rw[hfd] at y3; rw[y3.1]; rfl
  · cases hfd:findL (rightD js ks ps nj np) (holdsD js ks ps nj np) (fitD js ks nj np) np nk np noL nests with
    | some M=>rw[hfd] at y3; exact y3.2
    | none=>
      rw[hfd] at y3
      exact fun b hb=>by rw[y3.2.2 b (by omega),low b hb]
end Go.Proofs.Ytmpnblcfpdnlmaa.spec
end
