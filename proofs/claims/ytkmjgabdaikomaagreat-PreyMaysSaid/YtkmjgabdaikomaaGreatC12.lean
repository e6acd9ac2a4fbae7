/- PreyMaysSaid: whether a field is valid, and on which pads a moth may be with any plan, is as the document says, or the error is, for all that is handed in. -/
import Derived.Test.YtkmjgabdaikomaaGreatC11
set_option linter.unusedVariables false
section
open Go Go.Ev
set_option maxRecDepth 100000
namespace Go.Proofs.YtkmjgabdaikomaaGreat.L
theorem l32 {l k:Nat} {n:Int}:∀(suf pre:List Int) (m:Nat),suf.length<m→pre.length+suf.length<big →
    S32_1 (K l) k m (dL (pre++suf)) (dI n) (dI pre.length)=some (dB (suf.any fun x=>decide (x=n)))
  | [],pre,0,hm,_=>by simp at hm
  | [],pre,m+1,_,_=>by
    rw[r32_1]
    unfold C32_1 B32_1
    simp only[bindO_some,elsD_sl,ifU_f,lenD_eq,List.append_nil,lss_end2]
    rfl
  | x::suf,pre,0,hm,_=>by simp at hm
  | x::suf,pre,m+1,hm,hb=>by
    rw[r32_1]
    unfold C32_1 B32_1
    simp only[List.length_cons] at hm hb
    have ih:=l32 (l:=l) (k:=k) (n:=n) suf (pre++[x]) m (by omega) (by simp; omega)
    simp only[List.append_assoc,List.cons_append,List.nil_append] at ih
    simp only[bindO_some,elsD_sl,chkK_t,leafD_v,if_true,binD_eql,lenD_eq,at_map,lss_mid2,ifU_c,succ_pre (a:=x) (sbig (show pre.length<big by omega))]
    rw[ih]
    by_cases h:x=n <;> simp [h]
def hasL (l:List Int) (n:Int):Bool:=l.any fun x=>decide (x=n)
theorem s32 {l:Nat} (hl:1≤l) {xs:List Int} {n:Int} (hx:xs.length<1000):pcD P (K l) 32 [dL xs,dI n]=some (dB (hasL xs n)):=by
  obtain⟨l,rfl⟩:=lev hl
  refine pcD_b ?_
  rw[c32]
  unfold C32_0 B32_0
  exact l32 (l:=l) (k:=19999) (n:=n) xs [] 19999 (by omega) (by show 0+_<big; unfold big; omega)
def joinB (a b:Int) (j:Join):Bool:=(decide (j.a=a) && decide (j.b=b)) || (decide (j.a=b) && decide (j.b=a))
theorem l64 {l k:Nat} {ps:List Pad} {ks:List Kd} {a b:Int}:∀(suf pre:List Join) (m:Nat),suf.length<m→pre.length+suf.length<big →
    S64_1 (K l) k m (dI a) (dI b) (dI pre.length) (gC ⟨ps,pre++suf,ks⟩)=some (dB (suf.any (joinB a b)))
  | [],pre,0,hm,_=>by simp at hm
  | [],pre,m+1,_,_=>by
    rw[r64_1]
    unfold C64_1 B64_1
    simp only[bindO_some,elsD_sl,ifU_f,lenD_eq,List.append_nil,getD1,lss_end2]
    rfl
  | x::suf,pre,0,hm,_=>by simp at hm
  | x::suf,pre,m+1,hm,hb=>by
    rw[r64_1]
    unfold C64_1 B64_1 C64_2 B64_2
    simp only[List.length_cons] at hm hb
    have ih:=l64 (l:=l) (k:=k) (ps:=ps) (ks:=ks) (a:=a) (b:=b) suf (pre++[x]) m (by omega) (by simp; omega)
    simp only[List.append_assoc,List.cons_append,List.nil_append] at ih
    simp only[bindO_some,elsD_sl,aggD_agg,chkK_t,if_true,binD_eql,beq_refl,lenD_eq,getD0,getD1,cut2,spl2,len2,at_map,lss_mid2,ifU_c,succ_pre (a:=x) (sbig (show pre.length<big by omega))]
    rw[ih]
    unfold joinB
    by_cases h1:x.a=a <;> by_cases h2:x.b=b <;> by_cases h3:x.a=b <;> by_cases h4:x.b=a <;> simp [h1,h2,h3,h4] <;> simp_all
theorem s64 {l:Nat} (hl:1≤l) {g:Grove} {a b:Int} (hg:g.joins.length<1000):pcD P (K l) 64 [dG g,dI a,dI b]=some (dB (g.joins.any (joinB a b))):=by
  obtain⟨l,rfl⟩:=lev hl
  refine pcD_b ?_
  rw[c64]
  unfold C64_0 B64_0
  rw[aggD_agg,bindO_some]
  exact l64 (l:=l) (k:=19999) (ps:=g.pads) (ks:=g.kinds) (a:=a) (b:=b) g.joins [] 19999 (by omega) (by show 0+_<big; unfold big; omega)
def goesB (f:Fld) (p q:Int):Bool:=decide (p=q) || f.g.joins.any (joinB p q)
theorem s34 {l:Nat} (hl:2≤l) {f:Fld} {a b:Int} (hg:f.g.joins.length<1000):pcD P (K l) 34 [dF f,dI a,dI b]=some (dB (goesB f a b)):=by
  obtain⟨l,rfl⟩:=lev hl
  refine pcD_b ?_
  rw[c34]
  unfold C34_0 B34_0
  rw[aggD_agg,bindO_some,binD_eql,bindO_some,ifU_dec,cut53,bindO_some,s64 (by omega) hg,bindO_some]
  unfold goesB
  by_cases h:a=b <;> simp [h]
theorem l56_2 {l k m1:Nat} (hl:2≤l) {f:Fld} (hg:f.g.joins.length<1000) {b1:D→D→D→List D→List D→Option D} {week:List Int} (hw:week.length<1000) {p:Nat} (hp:p<1000) {acc:List D} (ha:acc.length<1000):∀(suf pre:List Int) (can:Bool) (m:Nat),suf.length<m→pre.length+suf.length<big →
    S56_2 (K l) k m1 b1 m (dL (pre++suf)) (dL week) (dI (p:Nat)) (dB can) (dI pre.length) (fC f) acc =
      b1 (dL (pre++suf)) (dL week) (dI ((p+1:Nat):Int)) (fC f) (if(can || suf.any fun q=>goesB f q p) && !hasL week p then acc++[dI (p:Nat)] else acc)
  | [],pre,can,0,hm,_=>by simp at hm
  | [],pre,can,m+1,_,_=>by
    rw[r56_2]
    unfold C56_2 B56_2 C56_4 B56_4 C56_5 B56_5
    simp only[bindO_some,elsD_sl,chkK_t,leafD_v,semD_not,lenD_eq,List.append_nil,cut5,lss_end2,s32 (l:=l) (by omega) hw,ifU_c,binD_succ (k:=p) (by omega)]
    rw[appD_lt (by simp; omega),bindO_some]
    cases can <;> cases hasL week p <;> simp
  | x::suf,pre,can,0,hm,_=>by simp at hm
  | x::suf,pre,can,m+1,hm,hb=>by
    rw[r56_2]
    unfold C56_2 B56_2 C56_3 B56_3
    simp only[List.length_cons] at hm hb
    have ih:=fun can=>l56_2 (k:=k) (m1:=m1) hl (f:=f) hg (b1:=b1) hw hp ha suf (pre++[x]) can m (by omega) (by simp; omega)
    simp only[List.append_assoc,List.cons_append,List.nil_append] at ih
    simp only[bindO_some,elsD_sl,chkK_t,leafD_v,if_true,lenD_eq,cut5,at_map,lss_mid2,s34 hl hg,ifU_c,succ_pre (a:=x) (sbig (show pre.length<big by omega))]
    have iht:S56_2 (K l) k m1 b1 m (dL (pre++x::suf)) (dL week) (dI (p:Nat)) (.v (.bool true)) (dI ((pre++[x]).length:Nat)) (fC f) acc=_:=ih true
    rw[iht,ih]
    cases can <;> cases h:goesB f x p <;> simp [h]
def afterL (f:Fld) (bef week:List Int) (i r:Nat):List Int:=((List.range' i r).filter (fun p:Nat=>(bef.any fun q=>goesB f q p) && !hasL week p)).map (fun p:Nat=>(p:Int))
theorem l56_1 {l k:Nat} (hl:2≤l) {f:Fld} (hg:f.g.joins.length<1000) (hn:f.g.pads.length<1000) {bef week:List Int} (hw:week.length<1000) (hb:bef.length<1000):∀(r i m:Nat) (acc:List Int),i+r=f.g.pads.length→r+1000<m→acc.length≤i →
    S56_1 (K l) k m (dL bef) (dL week) (dI (i:Nat)) (fC f) (acc.map dI)=some (dL (acc++afterL f bef week i r))
  | 0,i,0,acc,_,hm,_=>by simp at hm
  | 0,i,m+1,acc,hi,_,_=>by
    rw[r56_1]
    unfold C56_1 B56_1
    rw[getD0,bindO_some,elsD_sl,bindO_some,lenD_eq,binD_lss,bindO_some,ifU_dec,if_neg (by simp; omega)]
    simp [afterL]
  | r+1,i,0,acc,_,hm,_=>by simp at hm
  | r+1,i,m+1,acc,hi,hm,ha=>by
    rw[r56_1]
    unfold C56_1 B56_1
    rw[getD0,bindO_some,elsD_sl,bindO_some,lenD_eq,binD_lss,bindO_some,ifU_dec,if_pos (by simp; omega)]
    have e:=l56_2 (k:=k) (m1:=m+1) hl (f:=f) hg (b1:=S56_1 (K l) k m) hw (p:=i) (by omega) (acc:=acc.map dI) (by simp; omega) bef [] false (m+1) (by omega) (by show 0+_<big; unfold big; omega)
    simp only[List.nil_append,List.length_nil] at e
    refine e.trans ?_
    have i1:=l56_1 (k:=k) hl hg hn hw hb r (i+1) m (acc++[(i:Int)]) (by omega) (by omega) (by simp; omega)
    have i2:=l56_1 (k:=k) hl hg hn hw hb r (i+1) m acc (by omega) (by omega) (by omega)
    simp only[List.map_append,List.map_cons,List.map_nil] at i1
    simp only[Bool.false_or]
    unfold afterL at i1 i2 ⊢
    rw[List.range'_succ,List.filter_cons]
    cases h:((bef.any fun q=>goesB f q i) && !hasL week i)
    · simpa [h] using i2
    · simpa [h] using i1
theorem s56 {l:Nat} (hl:3≤l) {f:Fld} (hg:f.g.joins.length<1000) (hn:f.g.pads.length<1000) {bef week:List Int} (hw:week.length<1000) (hb:bef.length<1000):pcD P (K l) 56 [dF f,dL bef,dL week]=some (dL (afterL f bef week 0 f.g.pads.length)):=by
  obtain⟨l,rfl⟩:=lev hl
  refine pcD_n ?_ (by kernel_rfl)
  rw[c56]
  unfold C56_0 B56_0
  rw[aggD_agg,bindO_some]
  exact l56_1 (l:=l+2) (k:=19999) (by omega) hg hn hw hb f.g.pads.length 0 19999 [] (by omega) (by omega) (by simp)
def mayL (f:Fld):List Int→List (List Int)→List (List Int)
  | b,[]=>[b]
  | b,w::ws=>b::mayL f (afterL f b w 0 f.g.pads.length) ws
theorem after_len {f:Fld} {b w:List Int} (i r:Nat):(afterL f b w i r).length≤r:=by
  unfold afterL
  rw[List.length_map]
  exact Nat.le_trans (List.length_filter_le _ _) (by simp)
theorem l22 {l k:Nat} (hl:3≤l) {f:Fld} (hg:f.g.joins.length<1000) (hn:f.g.pads.length<1000):∀(suf pre don:List (List Int)) (s:List Int) (m:Nat),suf.length<m→pre.length+suf.length<500000→don.length=pre.length→s.length<1000→(∀ x ∈ suf,x.length<1000) →
    S22_1 (K l) k m (dLL (pre++suf)) (dI pre.length) (fC f) ((don++[s]).map dL)=some (dLL (don++mayL f s suf))
  | [],pre,don,s,0,hm,_,_,_,_=>by simp at hm
  | [],pre,don,s,m+1,_,_,_,_,_=>by
    rw[r22_1]
    unfold C22_1 B22_1
    simp only[bindO_some,elsD_sl,ifU_f,lenD_eq,List.append_nil,cut5,lss_end2]
    rfl
  | x::suf,pre,don,s,0,hm,_,_,_,_=>by simp at hm
  | x::suf,pre,don,s,m+1,hm,hb,hd,hs,hx=>by
    rw[r22_1]
    unfold C22_1 B22_1
    simp only[List.length_cons] at hm hb
    have hal:=after_len (f:=f) (b:=s) (w:=x) 0 f.g.pads.length
    have ih:=l22 (k:=k) hl (f:=f) hg hn suf (pre++[x]) (don++[s]) (afterL f s x 0 f.g.pads.length) m (by omega) (by simp; omega) (by simp [hd]) (by omega) (fun y hy=>hx y (by simp [hy]))
    simp only[List.append_assoc,List.cons_append,List.nil_append] at ih
    have g:(don++[s])[pre.length]?=some s:=by rw[← hd]; simp
    simp only[bindO_some,elsD_sl,chkK_t,leafD_sl,ifU_t,lenD_eq,cut5,at_map,lss_mid2]
    rw[at_get g,leafD_sl,chkK_t,s56 hl hg hn (hx x (by simp)) hs,bindO_some,leafD_sl,chkK_t,appD_lt (by simp; omega),bindO_some,succ_pre (a:=x) (sbig (by unfold big; omega)),bindO_some]
    have e:(don++[s]).map dL++[dL (afterL f s x 0 f.g.pads.length)]=(don++[s,afterL f s x 0 f.g.pads.length]).map dL:=by simp
    rw[e,ih]
    rfl
theorem s22 {l:Nat} (hl:4≤l) {f:Fld} (hs:fSmall f) {plan:List (List Int)} (hp:plan.length<900) (hx:∀ x ∈ plan,x.length<1000):pcD P (K l) 22 [dF f,dLL plan]=some (dLL (mayL f f.start plan)):=by
  obtain⟨l,rfl⟩:=lev hl
  refine pcD_n ?_ (by kernel_rfl)
  rw[c22]
  unfold C22_0 B22_0
  rw[aggD_agg,bindO_some,getD3,bindO_some,elsD_sl,bindO_some,allI,chkK_t,appD_lt (by have:=hs.2.1; simp; omega),bindO_some]
  exact l22 (l:=l+3) (k:=19999) (by omega) (by have:=hs.1.2.1; omega) (by have:=hs.1.1; omega) plan [] [] f.start 19999 (by omega) (by show 0+_<500000; omega) rfl (by have:=hs.2.1; omega) hx
end Go.Proofs.YtkmjgabdaikomaaGreat.L
end
section
open Go Go.Ev
set_option maxRecDepth 100000
namespace Go.Proofs.YtkmjgabdaikomaaGreat.L
theorem two_bit {p i:Nat} (hi:i<64):(BitVec.twoPow 64 p).getLsbD i=decide (p=i):=by
  rw[BitVec.getLsbD_twoPow]
  simp []
  omega
theorem orB_bit {i:Nat} (hi:i<64):∀(ps:List Nat) (s:BitVec 64),(orB s ps).getLsbD i=(s.getLsbD i || ps.any fun p=>decide (p=i))
  | [],s=>by simp [orB]
  | p::ps,s=>by
    have ih:=orB_bit hi ps (s ||| BitVec.twoPow 64 p)
    unfold orB at ih ⊢
    rw[List.foldl_cons,ih,BitVec.getLsbD_or,two_bit hi,List.any_cons,Bool.or_assoc]
theorem setB_bit {i:Nat} (hi:i<64) (l:List Int):(setB l).getLsbD i=l.any fun x=>decide (x.toNat=i):=by
  have key:∀(l:List Int) (s:BitVec 64),(l.foldl (fun s p=>s ||| BitVec.twoPow 64 p.toNat) s).getLsbD i=(s.getLsbD i || l.any fun x=>decide (x.toNat=i)):=by
    intro l
    induction l with
    | nil=>intro s; simp
    | cons x l ih=>intro s; rw[List.foldl_cons,ih,BitVec.getLsbD_or,two_bit hi,List.any_cons,Bool.or_assoc]
  unfold setB
  rw[key]; simp
theorem meets_iff {a b:BitVec 64}:meets a b=true↔∃ i,i<64∧a.getLsbD i=true∧b.getLsbD i=true:=by
  unfold meets
  simp only[Bool.not_eq_true',decide_eq_false_iff_not]
  constructor
  · intro h
    refine Classical.byContradiction fun hn=>h ?_
    apply BitVec.eq_of_getLsbD_eq
    intro i hi
    rw[BitVec.getLsbD_and]
    cases h1:a.getLsbD i <;> cases h2:b.getLsbD i <;> simp
    exact hn ⟨i,hi,h1,h2⟩
  · rintro ⟨i, hi, h1, h2⟩ h
    have:=congrArg (fun c=>BitVec.getLsbD c i) h
    simp [h1,h2] at this
theorem setB_has {l:List Int} (hl:∀ x ∈ l,0≤x∧x<64) {i:Nat} (hi:i<64):(setB l).getLsbD i=hasL l i:=by
  rw[setB_bit hi]
  unfold hasL
  rw[Bool.eq_iff_iff,List.any_eq_true,List.any_eq_true]
  constructor
  · rintro ⟨x, hx, h⟩
    exact⟨x,hx,by have:=hl x hx; simp at h ⊢; omega⟩
  · rintro ⟨x, hx, h⟩
    exact⟨x,hx,by simp at h ⊢; omega⟩
theorem padsB_mem {s:BitVec 64} {q:Int}:q ∈ padsB s↔0≤q∧q<8∧s.getLsbD q.toNat=true:=by
  unfold padsB
  simp only[List.mem_map,List.mem_filter,List.mem_range'_1]
  constructor
  · rintro ⟨p, ⟨h1, h2⟩, rfl⟩
    refine⟨by omega,by omega,by simpa using h2⟩
  · rintro ⟨h1, h2, h3⟩
    exact⟨q.toNat,⟨by omega,h3⟩,by omega⟩
theorem iStep_bit:∀(r i:Nat) (near:List (BitVec 64)),near.length=8→i+r≤8→∀ p,p<8→((List.range' i r).foldl iStep near).getD p 0#64=if i≤p∧p<i+r then BitVec.twoPow 64 p else near.getD p 0#64
  | 0,i,near,h8,hr,p,hp=>by simp; omega
  | r+1,i,near,h8,hr,p,hp=>by
    rw[List.range'_succ,List.foldl_cons,iStep_bit r (i+1) (iStep near i) (by simp [iStep,h8]) (by omega) p hp]
    by_cases h1:i+1≤p∧p<i+1+r
    · rw[if_pos h1,if_pos (by omega)]
    · rw [if_neg h1]
      unfold iStep
      rw[List.getD_eq_getElem?_getD,List.getElem?_set]
      by_cases h2:i=p
      · subst h2
        rw[if_pos rfl,if_pos (by omega),if_pos (by omega)]
        rfl
      · rw[if_neg h2,if_neg (by omega),← List.getD_eq_getElem?_getD]
theorem jStep_bit {near:List (BitVec 64)} (h8:near.length=8) {j:Join} (ha:0≤j.a∧j.a<8) (hb:0≤j.b∧j.b<8) {p q:Nat} (hp:p<8) (hq:q<64) :
    ((jStep near j).getD p 0#64).getLsbD q=((near.getD p 0#64).getLsbD q || joinB p q j):=by
  unfold jStep
  simp only
  have hs:∀(l:List (BitVec 64)) (i:Nat) (v:BitVec 64),l.length=8→i<8→(l.set i v).getD p 0#64=if i=p then v else l.getD p 0#64:=by
    intro l i v hl hi
    rw[List.getD_eq_getElem?_getD,List.getElem?_set]
    by_cases h:i=p
    · subst h; rw[if_pos rfl,if_pos (by omega),if_pos rfl]; rfl
    · rw[if_neg h,if_neg h,← List.getD_eq_getElem?_getD]
  have hs2:∀(l:List (BitVec 64)) (i k:Nat) (v:BitVec 64),l.length=8→i<8→(l.set i v).getD k 0#64=if i=k then v else l.getD k 0#64:=by
    intro l i k v hl hi
    rw[List.getD_eq_getElem?_getD,List.getElem?_set]
    by_cases h:i=k
    · subst h; rw[if_pos rfl,if_pos (by omega),if_pos rfl]; rfl
    · rw[if_neg h,if_neg h,← List.getD_eq_getElem?_getD]
  rw[hs _ _ _ (by simp [h8]) (by omega),hs2 _ _ j.b.toNat _ h8 (by omega),hs _ _ _ h8 (by omega)]
  have e1:decide (j.a=(p:Int))=decide (j.a.toNat=p):=by
    rw[decide_eq_decide]; omega
  have e2:decide (j.b=(q:Int))=decide (j.b.toNat=q):=by
    rw[decide_eq_decide]; omega
  have e3:decide (j.a=(q:Int))=decide (j.a.toNat=q):=by
    rw[decide_eq_decide]; omega
  have e4:decide (j.b=(p:Int))=decide (j.b.toNat=p):=by
    rw[decide_eq_decide]; omega
  unfold joinB
  rw[e1,e2,e3,e4]
  by_cases ha':j.a.toNat=p <;> by_cases hb':j.b.toNat=p
  · have : j.a.toNat = j.b.toNat := by omega
    simp [ha',hb',two_bit hq]
  · simp [ha',hb',two_bit hq]
  · have : ¬ j.a.toNat = j.b.toNat := by omega
    simp [ha',hb',two_bit hq]
  · simp [ha',hb']
theorem near_bit {f:Fld} (hj:∀ j ∈ f.g.joins,(0≤j.a∧j.a<8)∧0≤j.b∧j.b<8) (hn:f.eats.length≤8) {p q:Nat} (hp:p<f.eats.length) (hq:q<64):((nearOf f).getD p 0#64).getLsbD q=goesB f p q:=by
  have key:∀(js:List Join) (near:List (BitVec 64)),near.length=8→(∀ j ∈ js,(0≤j.a∧j.a<8)∧0≤j.b∧j.b<8)→((js.foldl jStep near).getD p 0#64).getLsbD q=((near.getD p 0#64).getLsbD q || js.any (joinB p q)):=by
    intro js
    induction js with
    | nil=>intro near _ _; simp
    | cons j js ih=>
      intro near h8 h
      rw[List.foldl_cons,ih (jStep near j) (by simp [jStep,h8]) (fun x hx=>h x (by simp [hx])),jStep_bit h8 (h j (by simp)).1 (h j (by simp)).2 (by omega) hq,List.any_cons,Bool.or_assoc]
  have hil:((List.range' 0 f.eats.length).foldl iStep (List.replicate 8 0#64)).length=8:=by
    have h1:∀(l:List Nat) (near:List (BitVec 64)),(l.foldl iStep near).length=near.length:=by
      intro l
      induction l with
      | nil=>intro near; rfl
      | cons a l ih=>intro near; rw[List.foldl_cons,ih]; simp [iStep]
    rw[h1]; simp
  unfold nearOf
  rw[key _ _ hil hj,iStep_bit _ _ _ (by simp) (by omega) p (by omega),if_pos (by omega),two_bit hq]
  unfold goesB
  congr 1
  rw[decide_eq_decide]; omega
theorem goes_sym {f:Fld} (p q:Int):goesB f p q=goesB f q p:=by
  unfold goesB
  congr 1
  · rw[decide_eq_decide]; constructor <;> exact fun h=>h.symm
  · congr 1
    funext j
    unfold joinB
    rw[Bool.or_comm]
theorem step_eq {f:Fld} (h0:fErr f=0) {s:BitVec 64} (hs:∀ i,i<64→s.getLsbD i=true→i<f.g.pads.length) {w:List Int} (hw:padsOk f.g.pads.length w=true) :
    padsB (stepB (nearOf f) f.eats.length s (setB w))=afterL f (padsB s) w 0 f.g.pads.length∧∀ i,i<64→(stepB (nearOf f) f.eats.length s (setB w)).getLsbD i=true→i<f.g.pads.length:=by
  obtain⟨h8,hne,he,hst,hj⟩:=ok_of h0
  have hj':∀ j ∈ f.g.joins,(0≤j.a∧j.a<8)∧0≤j.b∧j.b<8:=fun j hjm=>by
    have:=hj j hjm
    rw[hasP_iff,hasP_iff] at this
    omega
  have hwl:=padsOk_lt h8 hw
  have bit:∀ i,i<64→(stepB (nearOf f) f.eats.length s (setB w)).getLsbD i=(decide (i<f.g.pads.length) && (((padsB s).any fun q=>goesB f q i) && !hasL w i)):=by
    intro i hi
    unfold stepB
    rw[BitVec.getLsbD_and,BitVec.getLsbD_not,setB_has (fun x hx=>by have:=hwl x hx; omega) hi]
    have hr:(reachB (nearOf f) f.eats.length s).getLsbD i=(decide (i<f.g.pads.length) && ((padsB s).any fun q=>goesB f q i)):=by
      unfold reachB
      rw[orB_bit hi]
      rw[Bool.eq_iff_iff]
      simp only[BitVec.getLsbD_zero,Bool.false_or,List.any_eq_true,List.mem_filter,List.mem_range'_1,Bool.and_eq_true,decide_eq_true_eq]
      constructor
      · rintro ⟨p, ⟨hp, hpn⟩, rfl⟩
        refine⟨by omega,?_⟩
        unfold nextB at hpn
        obtain⟨q,hq,b1,b2⟩:=meets_iff.1 hpn
        rw[near_bit hj' (by omega) (by omega) hq] at b1
        have:=hs q hq b2
        exact⟨(q:Int),padsB_mem.2 ⟨by omega,by omega,by simpa using b2⟩,by rw[goes_sym]; exact b1⟩
      · rintro ⟨hin, q, hq, hg⟩
        obtain⟨q1,q2,q3⟩:=padsB_mem.1 hq
        refine⟨i,⟨by omega,?_⟩,rfl⟩
        unfold nextB
        refine meets_iff.2 ⟨q.toNat,by omega,?_,q3⟩
        rw[near_bit hj' (by omega) (by omega) (by omega),goes_sym]
        have:((q.toNat:Nat):Int)=q:=by omega
        rw[this]; exact hg
    rw[hr]
    cases decide (i<f.g.pads.length) <;> cases ((padsB s).any fun q=>goesB f q i) <;> cases hasL w i <;> simp [hi]
  refine⟨?_,fun i hi h=>?_⟩
  · conv => lhs; unfold padsB
    have hsplit:List.range' 0 8=List.range' 0 f.g.pads.length++List.range' f.g.pads.length (8-f.g.pads.length):=by
      have:=List.range'_append (s:=0) (m:=f.g.pads.length) (n:=8-f.g.pads.length) (step:=1)
      simp only[Nat.one_mul,Nat.zero_add] at this
      rw[this]
      congr 1
      omega
    rw[hsplit,List.filter_append]
    have hnil:(List.range' f.g.pads.length (8-f.g.pads.length)).filter (fun p=>(stepB (nearOf f) f.eats.length s (setB w)).getLsbD p)=[]:=by
      rw[List.filter_eq_nil_iff]
      intro p hp
      rw[List.mem_range'_1] at hp
      rw[bit p (by omega)]
      have:decide (p<f.g.pads.length)=false:=by simp; omega
      simp [this]
    rw[hnil,List.append_nil]
    unfold afterL
    congr 1
    apply List.filter_congr
    intro p hp
    rw[List.mem_range'_1] at hp
    rw[bit p (by omega)]
    have:decide (p<f.g.pads.length)=true:=by simp; omega
    rw[this,Bool.true_and]
  · rw [bit i hi] at h
    simp only[Bool.and_eq_true,decide_eq_true_eq] at h
    exact h.1
theorem padsB_setB {n:Nat} (hn:n≤8) {l:List Int} (h:padsOk n l=true):padsB (setB l)=l:=by
  have hlt:=padsOk_lt hn h
  have hp:padsB (setB l)=((List.range' 0 8).filter (fun p:Nat=>hasL l p)).map (fun p:Nat=>(p:Int)):=by
    unfold padsB
    congr 1
    apply List.filter_congr
    intro p hp
    rw[List.mem_range'_1] at hp
    exact setB_has (fun x hx=>by have:=hlt x hx; omega) (by omega)
  rw[hp]
  have hr:rises l=true:=by
    unfold padsOk at h
    simp only[Bool.and_eq_true] at h
    exact h.2
  have key:∀(l:List Int) (i r:Nat),rises l=true→(∀ x ∈ l,(i:Int)≤x∧x<i+r)→((List.range' i r).filter (fun p:Nat=>hasL l p)).map (fun p:Nat=>(p:Int))=l:=by
    intro l i r
    induction r generalizing l i with
    | zero=>
      intro _ hx
      cases l with
      | nil=>rfl
      | cons x l=>have:=hx x (by simp); omega
    | succ r ih=>
      intro hr hx
      rw[List.range'_succ,List.filter_cons]
      cases l with
      | nil=>
        have e:hasL [] (i:Int)=false:=rfl
        rw[e]
        exact ih [] (i+1) rfl (by simp)
      | cons x l=>
        have hmono:∀(l:List Int) (x:Int),rises (x::l)=true→∀ y ∈ l,x<y:=by
          intro l
          induction l with
          | nil=>intro x _ y hy; cases hy
          | cons a l ih2=>
            intro x h y hy
            simp only[rises,Bool.and_eq_true,decide_eq_true_eq] at h
            rcases List.mem_cons.1 hy with rfl | hy
            · exact h.1
            · have:=ih2 a h.2 y hy; omega
        have hm:=hmono l x hr
        have hrl:rises l=true:=by
          cases l with
          | nil=>rfl
          | cons a l=>simp only[rises,Bool.and_eq_true] at hr; exact hr.2
        by_cases hxi:x=i
        · subst hxi
          have e:hasL ((i:Int)::l) (i:Int)=true:=by unfold hasL; simp
          rw[if_pos e,List.map_cons]
          congr 1
          have ih':=ih l (i+1) hrl (fun y hy=>by have h1:=hm y hy; have h2:=hx y (by simp [hy]); omega)
          rw[← ih']
          rw[ih']
          refine Eq.trans ?_ ih'
          congr 1
          apply List.filter_congr
          intro p hp
          rw[List.mem_range'_1] at hp
          unfold hasL
          rw[List.any_cons]
          have:decide ((i:Int)=(p:Int))=false:=by simp; omega
          rw[this,Bool.false_or]
        · have e : hasL (x :: l) (i : Int) = false := by
            unfold hasL
            rw[List.any_eq_false]
            intro y hy
            rcases List.mem_cons.1 hy with rfl | hy
            · simpa using hxi
            · have h1:=hm y hy; have h2:=hx x (by simp); simp; omega
          rw[if_neg (by simp [e])]
          exact ih (x::l) (i+1) hr (fun y hy=>by
            have h2:=hx y hy
            have h3:=hx x (by simp)
            rcases List.mem_cons.1 hy with rfl | hy'
            · omega
            · have:=hm y hy'; omega)
  exact key l 0 8 hr (fun x hx=>by have:=hlt x hx; omega)
theorem may_eq {f:Fld} (h0:fErr f=0):∀(plan:List (List Int)) (s:BitVec 64),(∀ i,i<64→s.getLsbD i=true→i<f.g.pads.length)→plan.all (padsOk f.g.pads.length)=true →
    (mayB (nearOf f) f.eats.length s (plan.map setB)).map padsB=mayL f (padsB s) plan
  | [],s,_,_=>rfl
  | w::plan,s,hs,hp=>by
    simp only[List.all_cons,Bool.and_eq_true] at hp
    obtain⟨e1,e2⟩:=step_eq h0 hs hp.1
    rw[List.map_cons]
    unfold mayB mayL
    rw[List.map_cons,may_eq h0 plan _ e2 hp.2,e1]
theorem may_same {f:Fld} {plan:List (List Int)} (h:aErr f plan=0):(mayB (nearOf f) f.eats.length (setB f.start) (plan.map setB)).map padsB=mayL f f.start plan:=by
  unfold aErr at h
  split at h
  · rename_i h0
    obtain⟨h8,hne,he,hst,hj⟩:=ok_of h0
    unfold pErr at h
    split at h
    · cases h
    · split at h
      · rename_i hall
        have hlt:=padsOk_lt h8 hst
        rw[may_eq h0 plan (setB f.start) (fun i hi hb=>by
          rw[setB_has (fun x hx=>by have:=hlt x hx; omega) hi] at hb
          unfold hasL at hb
          rw[List.any_eq_true] at hb
          obtain⟨x,hx,e⟩:=hb
          have hx2:padsOk f.g.pads.length f.start=true:=hst
          unfold padsOk at hx2
          simp only[Bool.and_eq_true,List.all_eq_true] at hx2
          have:=hasP_iff.1 (hx2.1 x hx)
          simp at e; omega) hall,padsB_setB h8 hst]
      · cases h
  · rename_i h0; exact absurd h h0
end Go.Proofs.YtkmjgabdaikomaaGreat.L
end
section
open Go Go.Ev
set_option maxRecDepth 100000
namespace Go.Proofs.YtkmjgabdaikomaaGreat.L
theorem sAwake:pcD P (K 39) 14 []=some (dB true):=pcD_b (pcR_man (l:=38) (f:=14) (p:=fun ds=>match ds with | []=>some (.v (.bool true)) | _=>none) (by rfl))
theorem mays_law {f:Fld} {plan:List (List Int)}:K 40 3 [dF f,dLL plan]=some (dB true):=by
  rw[show(40:Nat)=39+1 from rfl,c3]
  unfold C3_0 B3_0
  obtain⟨b,eb,hb⟩:=s13 (l:=39) (by omega) (f:=f) (xs:=plan)
  rw[aggD_agg,bindO_some,cut5,bindO_some,eb,bindO_some,semD_not,bindO_some,ifU_c]
  cases b with
  | false=>
    simp only[Bool.not_false,if_true]
    rw[sAwake]
    rfl
  | true=>
    obtain⟨⟨t1,t2,t3,t4⟩,t5,t6,t7⟩:=hb rfl
    have hs:fSmall f:=⟨⟨by omega,by omega,by omega⟩,by omega,by omega⟩
    have hx:∀ x ∈ plan,x.length<1000:=fun x h=>by have:=t7 x h; omega
    simp only[Bool.not_true,Bool.false_eq_true,if_false,bindO_some]
    rw[s16 (l:=39) (by omega) hs]
    simp only[bindO_some]
    rw[s15 (l:=39) (by omega) hs]
    simp only[bindO_some]
    rw[s18 (l:=39) (by omega) (by omega) (fun x h=>by have:=t7 x h; unfold big; omega)]
    simp only[bindO_some]
    rw[s17 (l:=39) (by omega) hs (by omega) hx]
    simp only[bindO_some]
    rw[s19 (l:=39) (by omega) hs,s20 (l:=39) (by omega) hs (by omega) hx]
    simp only[bindO_some]
    by_cases h0:aErr f plan=0
    · rw [if_pos h0]
      have t0:∀ d:D,tupD (.tup [d,dI 0]) 0=some d:=fun _=>rfl
      have t1':∀ d:D,tupD (.tup [d,dI 0]) 1=some (dI 0):=fun _=>rfl
      have hz:(!decide ((0:Int)=0))=false:=rfl
      have hz':decide ((0:Int)=0)=true:=rfl
      have hnn:(!decide (fErr f=fErr f))=false:=by simp
      simp only[t0,t1',bindO_some,binD_neq,h0,binD_eql]
      rw[s22 (l:=39) (by omega) hs (by omega) hx,bindO_some]
      have hp9:∀ x ∈ (mayB (nearOf f) f.eats.length (setB f.start) (plan.map setB)).map padsB,x.length<1000:=by
        intro x hx'
        simp only[List.mem_map] at hx'
        obtain⟨s,_,rfl⟩:=hx'
        have:(padsB s).length≤8:=by
          unfold padsB
          rw[List.length_map]
          exact Nat.le_trans (List.length_filter_le _ _) (by simp)
        omega
      rw[s21 (l:=39) (by omega) (by rw[List.length_map,mayB_len]; simp; omega) hp9,bindO_some,may_same h0]
      simp only[decide_true,ifU_t]
      rw[sAwake]
      rfl
    · rw [if_neg h0]
      have t0:∀ d e:D,tupD (.tup [d,e]) 0=some d:=fun _ _=>rfl
      have t1':∀ d e:D,tupD (.tup [d,e]) 1=some e:=fun _ _=>rfl
      have hnn:(!decide (fErr f=fErr f))=false:=by simp
      have hne:(!decide (aErr f plan=0))=true:=by simp [h0]
      have hee:decide (aErr f plan=aErr f plan)=true:=by simp
      simp only[t0,t1',bindO_some,binD_neq,hne,ifU_t,binD_eql,elsD_nil]
      have hl0:binD P BinOp.eql 3 (Operand.tmp 39) (Operand.const (Value.int IntKind.i64 0)) (lenD []) (D.v (Value.int IntKind.i64 0))=some (dB true):=binD_eql
      first
        | (rw[hl0,bindO_some,ifU_t,sAwake]; rfl)
        | (simp only[lenD_eq,List.length_nil,binD_eql,bindO_some]; rw[show decide (((0:Nat):Int)=0)=true from rfl,ifU_t,sAwake]; rfl)
def toPad (x:Int × (Int × Unit)):Pad:=⟨x.1,x.2.1⟩
def toJoin (x:Int × (Int × Unit)):Join:=⟨x.1,x.2.1⟩
def toKd (x:Int × ((Int × (Int × Unit)) × ((Int × (Int × Unit)) × Unit))):Kd:=⟨x.1,x.2.1.1,x.2.1.2.1,x.2.2.1.1,x.2.2.1.2.1⟩
theorem mays_els (pads:List (Int × (Int × Unit))) (joins:List (Int × (Int × Unit))) (kinds:List (Int × ((Int × (Int × Unit)) × ((Int × (Int × Unit)) × Unit)))) (start eats:List Int) (plan:List (List Int)) :
    elsL preyMays.Ts (((pads,joins,kinds,()),start,eats,()),plan,())=[dF ⟨⟨List.map toPad pads,List.map toJoin joins,List.map toKd kinds⟩,start,eats⟩,dLL plan]:=by
  have h1:List.map dPad (List.map toPad pads)=List.map (fun y=>D.agg [dI y.1,dI y.2.1]) pads:=by rw[List.map_map]; rfl
  have h2:List.map dJoin (List.map toJoin joins)=List.map (fun y=>D.agg [dI y.1,dI y.2.1]) joins:=by rw[List.map_map]; rfl
  have h3:List.map dKd (List.map toKd kinds)=List.map (fun y=>D.agg [dI y.1,dI y.2.1.1,dI y.2.1.2.1,dI y.2.2.1.1,dI y.2.2.1.2.1]) kinds:=by rw[List.map_map]; rfl
  unfold dF fC
  simp only
  rw[h1,h2,h3]
  rfl
theorem man3:man (39+1) 3=none:=rfl
theorem mays_says:preyMays.Law:=by
  unfold preyMays.Law Says
  intro xs _
  refine⟨39,man3,?_⟩
  have:=mays_els xs.1.1.1 xs.1.1.2.1 xs.1.1.2.2.1 xs.1.2.1 xs.1.2.2.1 xs.2.1
  refine(congrArg (fun z=>pcR P LA 20000 man (39+1) 3 z) this).trans ?_
  exact mays_law
end Go.Proofs.YtkmjgabdaikomaaGreat.L
end
section
open Go Go.Ev
set_option maxRecDepth 1000000
namespace Go.Proofs.YtkmjgabdaikomaaGreat.L
noncomputable def alt:Alt:=⟨G.A,G.tab.get,fun f=>Nat.beq f 14⟩
theorem awake_run:Go.Ev.runT ((calE G.P G.A (G.KK+1) G.tab.get (38+1)).call 14 [] .nil 0)=true:=by kernel_rfl
theorem tab_ok:TblOk P alt.A 20000 alt.tab:=G.tab_ok
theorem awake_res:noRes P 14=false:=by kernel_rfl
theorem awake_flat:flatF P 14=true:=by kernel_rfl
theorem none_spec {b:Bool} {call:List Value→Hp→Nat→Res}:PSpec b call (fun _=>none):=by
  intro ds d F H n vs e hx hF hv
  cases e
theorem manOk:ManOk P alt 20000 man where
  no l f h:=by
    have h:Nat.beq f 14=true:=h
    unfold man
    rw[h]
    cases Nat.beq l 39 <;> simp
  res f h:=by
    have:f=14:=Nat.eq_of_beq_eq_true h
    subst this
    exact awake_res
  yes l f p h:=by
    unfold man at h
    cases hf:Nat.beq f 14 with
    | false=>rw[hf] at h; cases h
    | true=>
      have:f=14:=Nat.eq_of_beq_eq_true hf
      subst this
      rw[hf] at h
      cases hl:Nat.beq l 39 with
      | false=>
        rw[hl] at h
        cases h
        exact none_spec
      | true=>
        have:l=39:=Nat.eq_of_beq_eq_true hl
        subst this
        rw[hl] at h
        cases h
        exact man_run awake_flat ((congrArg Go.Ev.runT (calR_alt (q:=alt) (f:=14) rfl)).trans awake_run)
theorem proved:Rows.PreyMaysSaid:=preyMays.said tab_ok manOk mays_says
end Go.Proofs.YtkmjgabdaikomaaGreat.L
end
