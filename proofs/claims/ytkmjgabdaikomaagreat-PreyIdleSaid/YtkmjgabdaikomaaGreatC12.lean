/- PreyIdleSaid: if nothing is ever picked, a moth may be on each pad that can be reached from Start by at most as many joins as there are weeks, and on no other one, for all valid fields that are handed in and at most 10 weeks. -/
import Derived.Test.YtkmjgabdaikomaaGreatC11
set_option linter.unusedVariables false
section
open Go Go.Ev
set_option maxRecDepth 100000
namespace Go.Proofs.YtkmjgabdaikomaaGreat.L
noncomputable def isI (z:Int):Option D→Bool
  | some (.v (.int .i64 y))=>decide (y=z)
  | _=>false
theorem isI_eq {z:Int} {o:Option D} (h:isI z o=true):o=some (dI z):=by
  unfold isI at h
  split at h
  · rw[of_decide_eq_true h]
  · cases h
theorem conv_all:(List.range 256).all (fun n:Nat=>isI n (semD P (.v (.int .u8 (n:Int))) (convert 5 3)))=true:=by kernel_rfl
theorem rem_all:(List.range 256).all (fun n:Nat=>isI ((n % 11:Nat):Int) (binD P BinOp.rem 3 (Operand.tmp 24) (Operand.const (Value.int IntKind.i64 11)) (.v (.int .i64 (n:Int))) (.v (.int .i64 11))))=true:=by kernel_rfl
theorem conv_u8 {n:Nat} (h:n<256):semD P (.v (.int .u8 (n:Int))) (convert 5 3)=some (dI (n:Int)):=isI_eq (List.all_eq_true.1 conv_all n (by simpa using h))
theorem rem_11 {n:Nat} (h:n<256):binD P BinOp.rem 3 (Operand.tmp 24) (Operand.const (Value.int IntKind.i64 11)) (dI (n:Int)) (D.v (Value.int IntKind.i64 11))=some (dI ((n % 11:Nat):Int)):=isI_eq (List.all_eq_true.1 rem_all n (by simpa using h))
theorem itF_len {f:Fld} (hs:f.start.length<1000) (hn:f.g.pads.length<1000):∀ n,(R f n).length<1000
  | 0=>hs
  | n+1=>by
    unfold R
    rw[itF_succ]
    exact Nat.lt_of_le_of_lt (after_len 0 _) hn
theorem l46u {l k m:Nat}:S46_1 (K l) k (m+1) (.v (.slice none 0 0)) (dI 0)=some (dB true):=by
  rw[r46_1]
  unfold C46_1 B46_1 C46_2 B46_2
  rfl
theorem u46 {l:Nat} (hl:1≤l):pcD P (K l) 46 [.v (.slice none 0 0)]=some (dB true):=by
  obtain⟨l,rfl⟩:=lev hl
  refine pcD_b ?_
  rw[c46]
  unfold C46_0 B46_0
  exact l46u (l:=l) (k:=19999) (m:=19998)
theorem thin_nil {f:Fld}:∃ b,pcD P (K 39) 13 [dF f,.v (.slice none 0 0)]=some (dB b)∧(b=true→fSmall f):=by
  have e:=u46 (l:=38) (by omega)
  refine⟨decide (f.g.pads.length≤11∧f.g.joins.length≤19∧f.g.kinds.length≤6∧f.start.length≤11) && (decide (f.eats.length≤11) && true),pcD_b ?_,fun q=>?_⟩
  · rw [show (39 : Nat) = 38 + 1 from rfl, c13]
    unfold C13_0 B13_0
    rw[aggD_agg,bindO_some,cut53,bindO_some,getD3,bindO_some,s45 (l:=38) (by omega),bindO_some,getD4,bindO_some,elsD_sl,bindO_some,lenD_eq,binD_leq,bindO_some,e,bindO_some,ifU_c,ifU_c]
    have:decide (((f.eats.map dI).length:Int)≤11)=decide (f.eats.length≤11):=by simp; norm_cast
    rw[this]
    cases decide (f.eats.length≤11) <;> cases decide (f.g.pads.length≤11∧f.g.joins.length≤19∧f.g.kinds.length≤6∧f.start.length≤11) <;> rfl
  · simp only [Bool.and_eq_true, decide_eq_true_eq] at q
    obtain⟨⟨q1,q2,q3,q4⟩,q5,_⟩:=q
    exact⟨⟨by omega,by omega,by omega⟩,by omega,by omega⟩
theorem idle_law {f:Fld} {n:Nat} (hn:n<256):K 40 12 [dF f,.v (.int .u8 (n:Int))]=some (dB true):=by
  rw[show(40:Nat)=39+1 from rfl,c12]
  unfold C12_0 B12_0
  obtain⟨b,eb,hb⟩:=thin_nil (f:=f)
  rw[aggD_agg,bindO_some,cut5,bindO_some,eb,bindO_some,semD_not,bindO_some,ifU_c]
  have awk:∀ u:D,C12_1 (K 39) 19999 u (dB true) (fC f)=some (dB true):=by
    intro u
    unfold C12_1 B12_1
    rw[ifU_t,sAwake]
    rfl
  cases b with
  | false=>
    simp only[Bool.not_false,if_true]
    exact awk _
  | true=>
    have hs:=hb rfl
    obtain⟨⟨s1,s2,s3⟩,s4,s5⟩:=hs
    have hs:fSmall f:=⟨⟨s1,s2,s3⟩,s4,s5⟩
    simp only[Bool.not_true,Bool.false_eq_true,if_false,bindO_some]
    rw[s19 (l:=39) (by omega) hs,bindO_some,binD_neq,bindO_some]
    by_cases h0:fErr f=0
    · have hz : (!decide (fErr f = 0)) = false := by simp [h0]
      rw[hz]
      obtain⟨h8,_⟩:=ok_of h0
      unfold C12_1 B12_1
      have hw:n % 11<11:=Nat.mod_lt _ (by omega)
      have hc:(Nat.ble (n % 11) (n % 11) && Nat.blt (n % 11) 1048576)=true:=by simp; omega
      have hrep:D.sl (List.replicate (n % 11) (D.v (Value.slice none 0 0)))=dUU (List.replicate (n % 11) ()):=by unfold dUU; rw[List.map_replicate]
      rw[ifU_f,conv_u8 hn,bindO_some,rem_11 hn,bindO_some,cut5,bindO_some,natD_nat,bindO_some,bindO_some,hc,chkK_t,s16 (l:=39) (by omega) hs,bindO_some,hrep,u17 (l:=39) (by omega) hs h0 (by simp; omega),bindO_some]
      have t0:∀ d:D,tupD (.tup [d,dI 0]) 0=some d:=fun _=>rfl
      have t1:∀ d:D,tupD (.tup [d,dI 0]) 1=some (dI 0):=fun _=>rfl
      have hz':(!decide ((0:Int)=0))=false:=rfl
      have hl:=may_len (f:=f) (List.replicate (n % 11) ()) f.start
      rw[List.length_replicate] at hl
      have hnn:(!decide (((n % 11+1:Nat):Int)=((n % 11+1:Nat):Int)))=false:=by simp
      rw[t0,bindO_some,t1,bindO_some,binD_neq,bindO_some,hz',ifU_f,elsD_sl,bindO_some,binD_succ (by omega),bindO_some,lenD_eq,List.length_map,hl,binD_neq,bindO_some,hnn]
      unfold C12_2 B12_2
      rw[ifU_f]
      have hg:=may_get (f:=f) (List.replicate (n % 11) ()) f.start
      rw[List.length_replicate] at hg
      have e3:=l12_3 (l:=39) (k:=19999) (by omega) (u5:=dI ((n % 11:Nat):Int)) (u6:=dLL (mayL f f.start ((List.replicate (n % 11) ()).map fun _=>[]))) (f:=f) (by omega) 8 0 19999 (List.replicate 8 0) (by omega) (by omega) (by simp)
      refine Eq.trans e3 ?_
      have hok:farOk (initF f 0 8 (List.replicate 8 0)):=by
        have hl:(initF f 0 8 (List.replicate 8 0)).length=8:=by rw[initF_len]; simp
        refine⟨hl,fun i=>?_⟩
        by_cases h:i<8
        · rw [initF_get 8 0 _ i (by omega) (by simp), if_pos (by omega)]
          split <;> omega
        · rw [List.getD_eq_getElem?_getD, List.getElem?_eq_none (by omega)]
          simp
      have e5:=l12_5 (l:=39) (k:=19999) (by omega) (u5:=dI ((n % 11:Nat):Int)) (u6:=dLL (mayL f f.start ((List.replicate (n % 11) ()).map fun _=>[]))) (c0:=.sl (f.g.pads.map dPad)) (c3:=[.sl (f.g.kinds.map dKd),dL f.start,dL f.eats]) (js:=f.g.joins) (by omega) (jOk_of h0) 8 0 19999 _ (by omega) (by omega) hok
      refine Eq.trans e5 ?_
      have hs':Snd f (rnds f.g.joins 8 (initF f 0 8 (List.replicate 8 0)))∨True:=.inr trivial
      have hlen:(rnds f.g.joins 8 (initF f 0 8 (List.replicate 8 0))).length=8:=by
        have:∀(r:Nat) (far:List Int),farOk far→farOk (rnds f.g.joins r far):=by
          intro r
          induction r with
          | zero=>intro far h; exact h
          | succ r ih=>intro far h; exact ih _ (fold_ok h (jOk_of h0))
        exact(this 8 _ hok).1
      exact l12_7 (k:=19999) h8 hg (itF_len (by omega) (by omega) _) hlen f.g.pads.length 0 19999 (by omega) (by omega) (fun p _ hp=>far_ok h0 (by simp) (by omega) (by omega))
    · have hz : (!decide (fErr f = 0)) = true := by simp [h0]
      rw[hz]
      exact awk _
theorem idle_els (pads:List (Int × (Int × Unit))) (joins:List (Int × (Int × Unit))) (kinds:List (Int × ((Int × (Int × Unit)) × ((Int × (Int × Unit)) × Unit)))) (start eats:List Int) (n:Int) :
    elsL preyIdle.Ts (((pads,joins,kinds,()),start,eats,()),n,())=[dF ⟨⟨List.map toPad pads,List.map toJoin joins,List.map toKd kinds⟩,start,eats⟩,.v (.int .u8 n)]:=by
  have h1:List.map dPad (List.map toPad pads)=List.map (fun y=>D.agg [dI y.1,dI y.2.1]) pads:=by rw[List.map_map]; rfl
  have h2:List.map dJoin (List.map toJoin joins)=List.map (fun y=>D.agg [dI y.1,dI y.2.1]) joins:=by rw[List.map_map]; rfl
  have h3:List.map dKd (List.map toKd kinds)=List.map (fun y=>D.agg [dI y.1,dI y.2.1.1,dI y.2.1.2.1,dI y.2.2.1.1,dI y.2.2.1.2.1]) kinds:=by rw[List.map_map]; rfl
  unfold dF fC
  simp only
  rw[h1,h2,h3]
  rfl
theorem man12:man (39+1) 12=none:=rfl
theorem u8_of {x:Int} (h:(Lit.int .u8 x).wf=true):0≤x∧x≤255:=by
  simp only[Lit.wf,Bool.and_eq_true,IntKind.min,IntKind.max,IntKind.signed,IntKind.bits] at h
  simp at h
  omega
theorem idle_says:preyIdle.Law:=by
  unfold preyIdle.Law Says
  intro xs hx
  refine⟨39,man12,?_⟩
  have:=idle_els xs.1.1.1 xs.1.1.2.1 xs.1.1.2.2.1 xs.1.2.1 xs.1.2.2.1 xs.2.1
  refine(congrArg (fun z=>pcR P LA 20000 man (39+1) 12 z) this).trans ?_
  have hn:=u8_of hx.2.1
  have en:xs.2.1=((Int.toNat xs.2.1:Nat):Int):=(Int.toNat_of_nonneg hn.1).symm
  have hlt:Int.toNat xs.2.1<256:=by
    have:=hn.2
    omega
  rw[en]
  exact idle_law hlt
end Go.Proofs.YtkmjgabdaikomaaGreat.L
end
section
open Go Go.Ev
namespace Go.Proofs.YtkmjgabdaikomaaGreat.L
theorem idleProved:Rows.PreyIdleSaid:=preyIdle.said tab_ok manOk idle_says
end Go.Proofs.YtkmjgabdaikomaaGreat.L
end
