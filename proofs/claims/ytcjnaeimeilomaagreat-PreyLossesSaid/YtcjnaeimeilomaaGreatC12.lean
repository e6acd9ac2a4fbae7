/- For each field, each plan (valid ones of at most four weeks) and each list of pads: Loss returns the worst loss of the plan, reckoned over all paths, and a path that has it, or the error; and ProvePath says whether the list is a path with at least so much loss: PreyLossesSaid, for all arguments, without conditions. -/
import Derived.Test.YtcjnaeimeilomaaGreatC11
set_option linter.unusedVariables false
section
open Go Go.Ev
set_option maxRecDepth 100000
namespace Go.Proofs.YtcjnaeimeilomaaGreat.L
theorem GJ{v:Int→Int}:∀(xs:List Int) (x:Int),maxB v x xs ∈ x::xs
 | [],x=>by simp [maxB]
 | y::xs,x=>by
  unfold maxB
  rw[List.foldl_cons]
  have:=GJ (v:=v) xs (if v x<v y then y else x)
  unfold maxB at this
  rcases List.mem_cons.1 this with h | h
  ·rw [h]
   split <;> simp
  ·simp [h]
theorem maxB_congr{v v':Int→Int}:∀(xs:List Int) (x:Int),(∀ y ∈ x::xs,v y=v' y)→maxB v x xs=maxB v' x xs
 | [],x,_=>rfl
 | y::xs,x,h=>by
  unfold maxB
  rw[List.foldl_cons,List.foldl_cons,h x (by simp),h y (by simp)]
  have:=maxB_congr (v:=v) (v':=v') xs (if v' x<v' y then y else x) (fun z hz=>by
   rcases List.mem_cons.1 hz with e | e
   ·rw [e]; split
    ·exact h y (by simp)
    ·exact h x (by simp)
   ·exact h z (by simp [e]))
  unfold maxB at this
  exact this
def inB(n:Nat)(s:BitVec 64):Prop:=∀ i,i<64→s.getLsbD i=true→i<n
theorem Zq{n:Nat}{s:BitVec 64}(h:inB n s){x:Int}(hx:x ∈ lW s):0≤x∧x<n∧x<8:=by
 obtain⟨h1,h2,h3⟩:=rK.1 hx
 have:=h x.toNat (by omega) h3
 omega
theorem pads_ne{n:Nat}(hn:n≤8){s:BitVec 64}(h:inB n s)(h0:s≠0#64):lW s≠[]:=by
 intro hp
 apply h0
 apply BitVec.eq_of_getLsbD_eq
 intro i hi
 cases hb:s.getLsbD i with
 | false=>simp
 | true=>
  have hlt:=h i hi hb
  have:(i:Int) ∈ lW s:=rK.2 ⟨by omega,by omega,by simpa using hb⟩
  rw[hp] at this
  cases this
theorem Pw{near:List (BitVec 64)}{n:Nat}{s w:BitVec 64}:inB n (iJ near n s &&& ~~~w):=by
 intro i hi h
 rw[BitVec.getLsbD_and] at h
 simp only[Bool.and_eq_true] at h
 have h1:=h.1
 unfold iJ at h1
 rw[orB_bit hi] at h1
 simp only[Bool.or_eq_true,List.any_eq_true,List.mem_filter,List.mem_range'_1,decide_eq_true_eq] at h1
 rcases h1 with h1 | ⟨p,⟨h1,_⟩,rfl⟩
 ·simp at h1
 ·omega
def nk(f:Fld)(near:List (BitVec 64)):List (BitVec 64)→BitVec 64→List Int
 | [],_=>[]
 | wk::ws,may=>match lW may with
  | []=>[]
  | x::xs=>maxB (fun q=>iK f near (wk::ws) q.toNat) x xs::nk f near ws (iJ near f.eats.length (BitVec.twoPow 64 (maxB (fun q=>iK f near (wk::ws) q.toNat) x xs).toNat) &&& ~~~wk)
theorem UJ{f:Fld}{near:List (BitVec 64)}:∀(ws:List (BitVec 64)) (may:BitVec 64),(nk f near ws may).length≤ws.length
 | [],_=>by simp [nk]
 | wk::ws,may=>by
  unfold nk
  split
  ·simp
  ·simp only [List.length_cons]
   exact Nat.succ_le_succ (UJ ws _)
theorem qhv{f:Fld}{near:List (BitVec 64)}:∀(ws:List (BitVec 64)) (may:BitVec 64),inB f.eats.length may→∀ x ∈ nk f near ws may,0≤x∧x<f.eats.length
 | [],_,_,x,hx=>by simp [nk] at hx
 | wk::ws,may,hm,x,hx=>by
  unfold nk at hx
  split at hx
  ·cases hx
  ·rename_i y ys hp
   rcases List.mem_cons.1 hx with h | h
   ·rw [h]
    have:=GJ (v:=fun q=>iK f near (wk::ws) q.toNat) ys y
    rw[← hp] at this
    have:=Zq hm this
    omega
   ·exact qhv ws _ Pw x h
theorem l63{l:Nat}(hl:8≤l){f:Fld}{near all:List (BitVec 64)}(h8:near.length=8)(hn:f.eats.length≤8){J:MapL}{c:Nat}(hJ:MS f near all 0 J):∀(suf pre:List (BitVec 64)) (don:List Int) (may:BitVec 64) (m:Nat),pre++suf=all→suf.length<m→all.length≤300→don.length≤pre.length→inB f.eats.length may →
  S63_1 (K l) 19999 m (dH f near) (uB may) (.sl (all.map uB)) (dI (all.map uB).length) (dI pre.length) (.map (fY J 0) c) (don.map dI)=some (dL (don++nk f near suf may))
 | [],pre,don,may,0,_,hm,_,_,_=>by simp at hm
 | [],pre,don,may,m+1,ha,_,_,_,_=>by
  rw[r63_1]
  unfold Wz B63_1
  rw[List.append_nil] at ha
  subst ha
  rw[dK,aj,cK]
  unfold C63_2 B63_2
  simp [nk]
 | wk::suf,pre,don,may,0,_,hm,_,_,_=>by simp at hm
 | wk::suf,pre,don,may,m+1,ha,hm,h3,hd,hin=>by
  rw[r63_1]
  unfold Wz B63_1
  have hl9:pre.length+(suf.length+1)≤300:=by
   have:=congrArg List.length ha
   simp at this; omega
  have ha':(pre++[wk])++suf=all:=by rw[← ha]; simp
  have hdrop:all.drop pre.length=wk::suf:=by rw[← ha]; simp
  simp only[List.length_cons] at hm
  rw[← ha,ek,aj,dk,az,aj,fy,cj,bX,cj,bX,binD_eql_u,aj,cW]
  by_cases h0:may=0#64
  ·rw [if_pos h0]
   unfold C63_2 B63_2
   subst h0
   have:lW 0#64=[]:=by
    unfold lW
    rw[List.map_eq_nil_iff,List.filter_eq_nil_iff]
    intro a _; simp
   unfold nk
   rw[this,List.append_nil]
  ·rw [if_neg h0, s84 (by omega), aj]
   cases hp:lW may with
   | nil=>exact absurd hp (pads_ne hn hin h0)
   | cons x xs=>
    have hxs:∀ y ∈ x::xs,0≤y∧y<f.eats.length∧y<8:=fun y hy=>Zq hin (by rw[hp]; exact hy)
    have hlen:xs.length<1000:=by
     have:(lW may).length≤8:=by
      unfold lW
      rw[List.length_map]
      exact Nat.le_trans (List.length_filter_le _ _) (by simp)
     rw[hp] at this
     simp at this; omega
    have hmx:=s90 (l:=l) (by omega) (g:=91) (bs:=[.ref [.map (fY J 0) c],.ref [dI (pre.length:Int)]]) (v:=fun a=>getF J [(pre.length:Int),a]) (fun l' hl' a b=>s91 (l:=l') (by omega) hJ.1) (x:=x) (xs:=xs) hlen
    have hcg:maxB (fun a=>getF J [(pre.length:Int),a]) x xs=maxB (fun q=>iK f near (wk::suf) q.toNat) x xs:=by
     refine maxB_congr xs x (fun y hy=>?_)
     have hy':=hxs y hy
     have e:((y.toNat:Nat):Int)=y:=by omega
     have:=hJ.2 pre.length y.toNat (by omega)
     rw[e,if_pos (Nat.zero_le _),hdrop] at this
     exact this
    rw[hmx,aj,cj,bX,hcg]
    generalize hq:maxB (fun q=>iK f near (wk::suf) q.toNat) x xs=q
    have hqm:q ∈ x::xs:=by rw[← hq]; exact GJ xs x
    have hqr:=hxs q hqm
    have hs:=s83 (l:=l) (by omega) (xs:=[q]) (by simp) (fun y hy=>by simp at hy; omega)
    have hs':pcD P (K l) 83 [.sl [dI q]]=some (uB (BitVec.twoPow 64 q.toNat)):=by
     refine hs.trans ?_
     rw[AW]
    rw[appI (by simp; omega),aj,bX,hs',aj,s85 (by omega) (by omega) h8,aj,s86 (by omega),aj,dJ (a:=wk) (by omega),aj]
    have ih:=l63 hl h8 hn (c:=c) hJ suf (pre++[wk]) (don++[q]) (iJ near f.eats.length (BitVec.twoPow 64 q.toNat) &&& ~~~wk) m ha' (by omega) h3 (by simp; omega) Pw
    rw[ha]
    have hmap:List.map dI don++[dI q]=(don++[q]).map dI:=by simp
    rw[hmap]
    refine ih.trans ?_
    have hwp:nk f near (wk::suf) may=q::nk f near suf (iJ near f.eats.length (BitVec.twoPow 64 q.toNat) &&& ~~~wk):=by
     rw[nk,hp]
     simp only[hq]
    rw[hwp,List.append_assoc]
    rfl
theorem s63{l:Nat}(hl:9≤l){f:Fld}{near ws:List (BitVec 64)}(h8:near.length=8)(hn:f.eats.length≤8)(he:∀ x ∈ f.eats,0≤x∧x≤100)(hw:ws.length≤300)(hst:eQ f.eats.length f.start=true)(hsl:f.start.length<1000) :
  pcD P (K l) 63 [dH f near,.sl (ws.map uB)]=some (dL (nk f near ws (setB f.start))):=by
 obtain⟨l,rfl⟩:=lev (show 1≤l by omega)
 refine Bk ?_ (by kernel_rfl)
 rw[c63]
 unfold C63_0 B63_0
 have hlt:=rY hn hst
 have e3:(List.drop 3 (hC f near))[0]?=some (dL f.start):=rfl
 have lfm:∀(es:List MapEntry) (c:Nat),bz (.map es c)=true:=fun _ _=>rfl
 rw[s89 (by omega) h8 hn he hw,aj,lfm,bX,oJ,eK,aj,e3,aj,s83 (by omega) hsl (fun x hx=>by have:=hlt x hx; omega),aj,az,aj,aZ]
 refine l63 (l:=l) (by omega) h8 hn lossM_MS ws [] [] (setB f.start) 19999 rfl (by omega) hw (Nat.le_refl _) (fun i hi hb=>?_)
 rw[AY (fun x hx=>by have:=hlt x hx; omega) hi] at hb
 unfold hasL at hb
 rw[List.any_eq_true] at hb
 obtain⟨x,hx,e⟩:=hb
 unfold eQ at hst
 simp only[Bool.and_eq_true,List.all_eq_true] at hst
 have:=iQ.1 (hst.1 x hx)
 simp at e; omega
end Go.Proofs.YtcjnaeimeilomaaGreat.L
end
section
open Go Go.Ev
set_option maxRecDepth 100000
namespace Go.Proofs.YtcjnaeimeilomaaGreat.L
def mxB(v:Nat→Int)(l:List Int):Int:=l.foldl (fun a q=>max a (v q.toNat)) 0
theorem mx_fold{v:Nat→Int}{M:Int}:∀(l:List Int) (a:Int),l.foldl (fun a q=>max a (v q.toNat)) a≤M↔a≤M∧∀ q ∈ l,v q.toNat≤M
 | [],a=>by simp
 | x::l,a=>by
  rw[List.foldl_cons,mx_fold l]
  constructor
  ·rintro ⟨h1, h2⟩
   refine⟨by omega,fun q hq=>?_⟩
   rcases List.mem_cons.1 hq with e | e
   ·rw[e]; omega
   ·exact h2 q e
  ·rintro ⟨h1, h2⟩
   have:=h2 x (by simp)
   exact⟨by omega,fun q hq=>h2 q (by simp [hq])⟩
theorem UQ{v:Nat→Int}{M:Int}{l:List Int}:mxB v l≤M↔0≤M∧∀ q ∈ l,v q.toNat≤M:=mx_fold l 0
theorem later_le{v:Nat→Int}{wk:BitVec 64}{M:Int}:∀(qs:List Nat) (a:Int),mV v wk a qs≤M↔a≤M∧∀ q ∈ qs,wk.getLsbD q=false→v q≤M
 | [],a=>by simp [mV]
 | x::qs,a=>by
  unfold mV
  rw[List.foldl_cons]
  have ih:=fun b=>later_le (v:=v) (wk:=wk) (M:=M) qs b
  unfold mV at ih
  rw[ih]
  cases hb:wk.getLsbD x with
  | true=>
   simp only[if_true]
   constructor
   ·rintro ⟨h1, h2⟩
    refine⟨h1,fun q hq h=>?_⟩
    rcases List.mem_cons.1 hq with e | e
    ·rw[e,hb] at h; cases h
    ·exact h2 q e h
   ·rintro ⟨h1, h2⟩
    exact⟨h1,fun q hq h=>h2 q (by simp [hq]) h⟩
  | false=>
   simp only[Bool.false_eq_true,if_false]
   constructor
   ·rintro ⟨h1, h2⟩
    refine⟨by omega,fun q hq h=>?_⟩
    rcases List.mem_cons.1 hq with e | e
    ·rw[e]; omega
    ·exact h2 q e h
   ·rintro ⟨h1, h2⟩
    have:=h2 x (by simp) hb
    exact⟨by omega,fun q hq h=>h2 q (by simp [hq]) h⟩
theorem AZ{a b:Int}(h:∀ M:Int,a≤M↔b≤M):a=b:=by
 have h1:=(h b).2 (Int.le_refl b)
 have h2:=(h a).1 (Int.le_refl a)
 omega
theorem UV{near:List (BitVec 64)}{n:Nat}{s:BitVec 64}{i:Nat}(hi:i<64):(iJ near n s).getLsbD i=(decide (i<n) && Pq near s i):=by
 unfold iJ
 rw[orB_bit hi,Bool.eq_iff_iff]
 simp only[BitVec.getLsbD_zero,Bool.false_or,List.any_eq_true,List.mem_filter,List.mem_range'_1,decide_eq_true_eq,Bool.and_eq_true]
 constructor
 ·rintro ⟨p, ⟨h1, h2⟩, rfl⟩
  exact⟨by omega,h2⟩
 ·rintro ⟨h1, h2⟩
  exact⟨i,⟨by omega,h2⟩,rfl⟩
theorem later_mx{near:List (BitVec 64)}{n p:Nat}{wk:BitVec 64}{v:Nat→Int}(hn:n≤8):mV v wk 0 (qZ near n p)=mxB v (lW (iJ near n (BitVec.twoPow 64 p) &&& ~~~wk)):=by
 refine AZ fun M=>?_
 rw[later_le,UQ]
 refine and_congr Iff.rfl ?_
 constructor
 ·intro h q hq
  obtain⟨h0,h1,h2⟩:=rK.1 hq
  rw[BitVec.getLsbD_and,UV (by omega),BitVec.getLsbD_not] at h2
  simp only[Bool.and_eq_true,decide_eq_true_eq,Bool.not_eq_true'] at h2
  refine h q.toNat ?_ h2.2.2
  unfold qZ
  simp only[List.mem_filter,List.mem_range'_1]
  exact⟨by omega,h2.1.2⟩
 ·intro h q hq hb
  unfold qZ at hq
  simp only[List.mem_filter,List.mem_range'_1] at hq
  have e:((q:Int)).toNat=q:=by omega
  have:=h (q:Int) (rK.2 ⟨by omega,by omega,by
   rw[e,BitVec.getLsbD_and,UV (by omega),BitVec.getLsbD_not]
   simp only[Bool.and_eq_true,decide_eq_true_eq,Bool.not_eq_true']
   exact⟨⟨by omega,hq.2⟩,by omega,hb⟩⟩)
  rw[e] at this
  exact this
theorem max_is{v:Int→Int}:∀(xs:List Int) (x:Int),∀ y ∈ x::xs,v y≤v (maxB v x xs)
 | [],x,y,hy=>by
  have:y=x:=by simpa using hy
  rw[this]; exact Int.le_refl _
 | z::xs,x,y,hy=>by
  unfold maxB
  rw[List.foldl_cons]
  have ih:=max_is (v:=v) xs (if v x<v z then z else x)
  unfold maxB at ih
  have h0:=ih (if v x<v z then z else x) (by simp)
  rcases List.mem_cons.1 hy with e | e
  ·subst e
   refine Int.le_trans ?_ h0
   split <;> omega
  ·rcases List.mem_cons.1 e with e | e
   ·subst e
    refine Int.le_trans ?_ h0
    split <;> omega
   ·exact ih y (by simp [e])
theorem mx_max{v:Nat→Int}{x:Int}{xs:List Int}(h0:∀ p,0≤v p):mxB v (x::xs)=v (maxB (fun q=>v q.toNat) x xs).toNat:=by
 refine AZ fun M=>?_
 rw[UQ]
 constructor
 ·rintro ⟨_, h⟩
  exact h _ (GJ xs x)
 ·intro h
  refine⟨Int.le_trans (h0 _) h,fun q hq=>Int.le_trans ?_ h⟩
  exact max_is (v:=fun q=>v q.toNat) xs x q hq
theorem UW{f:Fld}:∀(l:List Int) (a:Int),l.foldl (fun a p=>a+f.eats.getD p.toNat 0) a=a+sumE f l
 | [],a=>by simp [sumE]
 | x::l,a=>by
  unfold sumE
  rw[List.foldl_cons,List.foldl_cons,UW l,UW l (0+_)]
  omega
theorem AK{f:Fld}{x:Int}{l:List Int}:sumE f (x::l)=f.eats.getD x.toNat 0+sumE f l:=by
 unfold sumE
 rw[List.foldl_cons,UW]
 unfold sumE
 omega
theorem qhw{f:Fld}{near:List (BitVec 64)}(hn:f.eats.length≤8)(he:∀ x ∈ f.eats,0≤x∧x≤100):∀(ws:List (BitVec 64)) (may:BitVec 64),sumE f (nk f near ws may)=mxB (iK f near ws) (lW may)
 | [],may=>by
  rw[nk]
  refine AZ fun M=>?_
  rw[UQ]
  constructor
  ·intro h
   have h:(0:Int)≤M:=h
   exact⟨h,fun q _=>by unfold iK; exact h⟩
  ·intro h; exact h.1
 | wk::ws,may=>by
  rw[nk]
  cases hp:lW may with
  | nil=>rfl
  | cons x xs=>
   simp only
   rw[AK,qhw hn he ws,mx_max (fun p=>(Pv he (wk::ws) p).1)]
   generalize maxB (fun q=>iK f near (wk::ws) q.toNat) x xs=p
   conv=>rhs; unfold iK
   rw[later_mx hn]
def MY(f:Fld)(plan:List (List Int)):Int:=mxB (iK f (cX f) (plan.map setB)) f.start
theorem IJ{f:Fld}(h:fErr f=0):∀ x ∈ f.eats,0≤x∧x≤100:=by
 unfold fErr at h
 split at h
 ·split at h
  ·rename_i h1
   simp only[Bool.and_eq_true,List.all_eq_true] at h1
   intro x hx
   have:=h1.2.2 x hx
   unfold Yj inR at this
   simp at this
   omega
  ·cases h
 ·rename_i h0; exact absurd h h0
theorem s25{l:Nat}(hl:12≤l){f:Fld}(hs:pq f){plan:List (List Int)}(hp:plan.length<1000)(hx:∀ x ∈ plan,x.length<1000)(h0:aErr f plan=0) :
  pcD P (K l) 25 [dF f,dLL plan]=some (if f.start=[] then .tup [dI 0,.v (.slice none 0 0),dI 7] else .tup [dI (MY f plan),dL (nk f (cX f) (plan.map setB) (setB f.start)),dI 0]):=by
 obtain⟨l,rfl⟩:=lev (show 1≤l by omega)
 refine Bk ?_ (by kernel_rfl)
 rw[c25]
 unfold C25_0 B25_0
 obtain⟨hf,h3,hall⟩:=tK h0
 obtain⟨h8,hne,he,hst,hj⟩:=uQ hf
 have hea:=IJ hf
 have t0:tupD (.tup [dH f (cX f),.sl ((plan.map setB).map uB),dI 0]) 0=some (dH f (cX f)):=rfl
 have t1:tupD (.tup [dH f (cX f),.sl ((plan.map setB).map uB),dI 0]) 1=some (.sl ((plan.map setB).map uB)):=rfl
 have t2:tupD (.tup [dH f (cX f),.sl ((plan.map setB).map uB),dI 0]) 2=some (dI 0):=rfl
 have hz:(!decide ((0:Int)=0))=false:=rfl
 have e3:(List.drop 3 (hC f (cX f)))[0]?=some (dL f.start):=rfl
 rw[cq,aj,cut5,aj,s57 (by omega) hs hp hx,aj,if_pos h0,t0,aj,t1,aj,t2,aj,kK,aj,hz,cK,oJ,eK,aj,e3,aj,az,aj,aZ,cx,aj,cW]
 by_cases hs0:f.start=[]
 ·rw[if_pos (by rw[hs0]; rfl),if_pos hs0]
 ·have hl0 : ¬ (((f.start.map dI).length : Nat) : Int) = 0 := by
   rw[List.length_map]
   have:f.start.length≠0:=fun z=>hs0 (List.length_eq_zero_iff.1 z)
   omega
  rw[if_neg hl0,if_neg hs0]
  have hw:(plan.map setB).length≤300:=by rw[List.length_map]; exact h3
  have hst':eQ f.eats.length f.start=true:=by rw[he]; exact hst
  have hin:inB f.eats.length (setB f.start):=by
   intro i hi hb
   have hlt:=rY h8 hst
   rw[AY (fun x hx=>by have:=hlt x hx; omega) hi] at hb
   unfold hasL at hb
   rw[List.any_eq_true] at hb
   obtain⟨x,hx,e⟩:=hb
   have hst2:=hst'
   unfold eQ at hst2
   simp only[Bool.and_eq_true,List.all_eq_true] at hst2
   have:=iQ.1 (hst2.1 x hx)
   simp at e; omega
  have hlen:=UJ (f:=f) (near:=cX f) (plan.map setB) (setB f.start)
  rw[s63 (by omega) (near_len f) (by omega) hea hw hst' (by have:=hs.2.1; omega),aj,s64 (by omega) hea (by omega) (qhv _ _ hin),aj]
  have hsum:=qhw (near:=cX f) (by omega) hea (plan.map setB) (setB f.start)
  rw[MX h8 hst] at hsum
  rw[hsum]
  rfl
end Go.Proofs.YtcjnaeimeilomaaGreat.L
end
section
open Go Go.Ev
set_option maxRecDepth 100000
namespace Go.Proofs.YtcjnaeimeilomaaGreat.L
theorem setB_in{n:Nat}{x:List Int}(hn:n≤8)(h:eQ n x=true):inB n (setB x):=by
 intro i hi hb
 have hlt:=rY hn h
 rw[AY (fun x hx=>by have:=hlt x hx; omega) hi] at hb
 unfold hasL at hb
 rw[List.any_eq_true] at hb
 obtain⟨y,hy,e⟩:=hb
 unfold eQ at h
 simp only[Bool.and_eq_true,List.all_eq_true] at h
 have:=iQ.1 (h.1 y hy)
 simp at e; omega
end Go.Proofs.YtcjnaeimeilomaaGreat.L
end
section
open Go Go.Ev
set_option maxRecDepth 100000
namespace Go.Proofs.YtcjnaeimeilomaaGreat.L
def pX(near:List (BitVec 64))(n:Nat):List Int→List (BitVec 64)→BitVec 64→Bool→Bool
 | [],ws,_,fnd=>decide (ws.length=0) || fnd
 | p::ps,ws,may,_=>match ws with
  | []=>false
  | wk::ws=>may.getLsbD p.toNat && pX near n ps ws (iJ near n (BitVec.twoPow 64 p.toNat) &&& ~~~wk) (DX (iJ near n (BitVec.twoPow 64 p.toNat)) wk)
theorem l65{l:Nat}(hl:6≤l){f:Fld}{near:List (BitVec 64)}(h8:near.length=8)(hn:f.eats.length≤8)(hg:f.g.pads.length=f.eats.length):∀(suf pre:List Int) (wsuf wpre:List (BitVec 64)) (may:BitVec 64) (fnd:Bool) (m:Nat),wpre.length=pre.length→suf.length≤wsuf.length→suf.length<m→pre.length+suf.length≤1000→(∀ x ∈ suf,0≤x∧x<f.eats.length) →
  S65_1 (K l) 19999 m (dH f near) (.sl ((wpre++wsuf).map uB)) (dL (pre++suf)) (uB may) (dB fnd) (dL (pre++suf)) (dI ((pre++suf).map dI).length) (dI pre.length)=some (dB (pX near f.eats.length suf wsuf may fnd))
 | [],pre,wsuf,wpre,may,fnd,0,_,_,hm,_,_=>by simp at hm
 | [],pre,wsuf,wpre,may,fnd,m+1,hw,_,hm,hb,_=>by
  rw[r65_1]
  unfold C65_1 B65_1
  simp only[List.append_nil]
  rw[dK,aj,cK,az,aj,az,aj,aZ,aZ,cx,aj,cW]
  unfold pX
  by_cases h:wsuf.length=0
  ·rw[if_pos (by simp; omega)]; simp [h]
  ·rw[if_neg (by simp; omega)]; simp [h]
 | x::suf,pre,wsuf,wpre,may,fnd,0,_,_,hm,_,_=>by simp at hm
 | x::suf,pre,[],wpre,may,fnd,m+1,_,h,_,_,_=>by simp at h
 | x::suf,pre,wk::wsuf,wpre,may,fnd,m+1,hw,hsl,hm,hb,hx=>by
  rw[r65_1]
  unfold C65_1 B65_1
  simp only[List.length_cons] at hm hb hsl
  have hx0:=hx x (by simp)
  have e:((x.toNat:Nat):Int)=x:=by omega
  have hh:=s94 (l:=l) (by omega) (a:=may) (p:=x.toNat) (by omega)
  rw[e] at hh
  have hp:hasP f.g.pads.length x=true:=iQ.2 (by omega)
  have hso:=s83 (l:=l) (by omega) (xs:=[x]) (by simp) (fun y hy=>by simp at hy; omega)
  have hso':pcD P (K l) 83 [.sl [dI x]]=some (uB (BitVec.twoPow 64 x.toNat)):=by
   refine hso.trans ?_
   rw[AW]
  have hat:∀ k:D→Option D,(bindO (idxD (.v (.int .i64 (pre.length:Nat))) ((wpre++wk::wsuf).map uB).length) fun i=>bindO (((wpre++wk::wsuf).map uB)[i]?) k)=k (uB wk):=by
   intro k
   rw[← hw]
   exact fy
  have ih:=l65 hl h8 hn hg suf (pre++[x]) wsuf (wpre++[wk]) (iJ near f.eats.length (BitVec.twoPow 64 x.toNat) &&& ~~~wk) (DX (iJ near f.eats.length (BitVec.twoPow 64 x.toNat)) wk) m (by simp [hw]) (by omega) (by omega) (by simp; omega) (fun y hy=>hx y (by simp [hy]))
  simp only[List.append_assoc,List.cons_append,List.nil_append] at ih
  rw[ek,aj,dk,az,aj,fy,cj,bX,oJ,eK,aj,cutH,aj,s93 (by omega),aj,dj,aj,hp,Bool.not_true,cK,hh,aj,dj,aj]
  unfold C65_2 B65_2
  rw[eZ]
  rw[pX]
  cases hbit:may.getLsbD x.toNat with
  | false=>simp
  | true=>
   simp only[Bool.not_true,Bool.false_eq_true,if_false,Bool.true_and]
   rw[cj,bX,hso',aj,s85 (by omega) (by omega) h8,aj,az,aj,hat,cj,bX,aj,hat,cj,bX,s86 (by omega),aj,s95 (by omega),aj,dJ (a:=x) (by omega),aj]
   exact ih
theorem l30{l k:Nat}{f:Fld}(he:∀ x ∈ f.eats,0≤x∧x≤100):∀(suf pre:List Int) (a:Int) (m:Nat),suf.length<m→pre.length+suf.length≤1000→0≤a→a≤100 * pre.length→(∀ x ∈ suf,0≤x∧x<f.eats.length) →
  S30_1 (K l) k m (dL (pre++suf)) (dI a) (dI pre.length) (fC f)=some (dI (a+sumE f suf))
 | [],pre,a,0,hm,_,_,_,_=>by simp at hm
 | [],pre,a,m+1,_,_,_,_,_=>by
  rw[r30_1]
  unfold C30_1 B30_1
  rw[List.append_nil,az,aj,ZJ,aj,cK]
  simp [sumE]
 | x::suf,pre,a,0,hm,_,_,_,_=>by simp at hm
 | x::suf,pre,a,m+1,hm,hb,h0,h1,hx=>by
  rw[r30_1]
  unfold C30_1 B30_1
  simp only[List.length_cons] at hm hb
  have hx0:=hx x (by simp)
  have e:((x.toNat:Nat):Int)=x:=by omega
  have hget:f.eats[x.toNat]?=some (f.eats.getD x.toNat 0):=by
   rw[List.getD_eq_getElem?_getD,List.getElem?_eq_getElem (by omega)]; rfl
  have hv:=he (f.eats.getD x.toNat 0) (by
   rw[List.getD_eq_getElem?_getD,List.getElem?_eq_getElem (by omega)]
   exact List.getElem_mem _)
  have hat:∀ k:D→Option D,(bindO (idxD (dI x) (f.eats.map dI).length) fun i=>bindO ((f.eats.map dI)[i]?) k)=k (dI (f.eats.getD x.toNat 0)):=by
   intro k
   have:=mQ (f:=dI) (kk:=k) hget
   rw[e] at this
   exact this
  have elen:(pre++[x]).length=pre.length+1:=by simp
  have hstep:a+f.eats.getD x.toNat 0≤100 * ((pre++[x]).length:Int):=by rw[elen]; omega
  have ih:=l30 (l:=l) (k:=k) he suf (pre++[x]) (a+f.eats.getD x.toNat 0) m (by omega) (by simp; omega) (by omega) hstep (fun y hy=>hx y (by simp [hy]))
  simp only[List.append_assoc,List.cons_append,List.nil_append] at ih
  have e4:(fC f)[4]?=some (dL f.eats):=rfl
  rw[az,aj,Zk,aj,dk,e4,aj,aj,fy,cj,bX,az,aj,hat,cj,bX,Qv (by unfold I64; omega),aj,dJ (a:=x) (by omega),aj,ih,AK,Int.add_assoc]
theorem s30{l:Nat}(hl:1≤l){f:Fld}(he:∀ x ∈ f.eats,0≤x∧x≤100){ps:List Int}(hp:ps.length≤1000)(hx:∀ x ∈ ps,0≤x∧x<f.eats.length) :
  pcD P (K l) 30 [dF f,dL ps]=some (dI (sumE f ps)):=by
 obtain⟨l,rfl⟩:=lev hl
 refine eJ ?_
 rw[c30]
 unfold C30_0 B30_0
 rw[cq,aj]
 have:=l30 (l:=l) (k:=19999) he ps [] 0 19999 (by omega) (by simp; omega) (Int.le_refl 0) (by simp) hx
 rw[Int.zero_add] at this
 exact this
end Go.Proofs.YtcjnaeimeilomaaGreat.L
end
section
open Go Go.Ev
set_option maxRecDepth 100000
namespace Go.Proofs.YtcjnaeimeilomaaGreat.L
def toL(f:Fld)(a:Int)(i r:Nat):List Int:=((List.range' i r).filter (fun p:Nat=>iZ f a p)).map (fun p:Nat=>(p:Int))
end Go.Proofs.YtcjnaeimeilomaaGreat.L
end
section
open Go Go.Ev
set_option maxRecDepth 100000
namespace Go.Proofs.YtcjnaeimeilomaaGreat.L
theorem IQ{f:Fld}(h0:fErr f=0){a q:Int}(ha:0≤a∧a<f.g.pads.length)(hq:0≤q∧q<f.g.pads.length):(iJ (cX f) f.eats.length (BitVec.twoPow 64 a.toNat)).getLsbD q.toNat=iZ f a q:=by
 obtain⟨h8,hne,he,hst,hj⟩:=uQ h0
 have hj':∀ j ∈ f.g.joins,(0≤j.a∧j.a<8)∧0≤j.b∧j.b<8:=fun j hjm=>by
  have:=hj j hjm
  rw[iQ,iQ] at this
  omega
 have e1:((q.toNat:Nat):Int)=q:=by omega
 have e2:((a.toNat:Nat):Int)=a:=by omega
 rw[UV (by omega)]
 have hd:decide (q.toNat<f.eats.length)=true:=by simp; omega
 rw[hd,Bool.true_and]
 unfold Pq
 rw[Bool.eq_iff_iff,Uk]
 have hb:=near_bit hj' (by omega) (p:=q.toNat) (q:=a.toNat) (by omega) (by omega)
 rw[e1,e2,goes_sym] at hb
 constructor
 ·rintro ⟨i, hi, b1, b2⟩
  rw[zy hi] at b2
  have:=of_decide_eq_true b2
  subst this
  rw[hb] at b1; exact b1
 ·intro hg
  exact⟨a.toNat,by omega,by rw[hb]; exact hg,by rw[zy (by omega)]; simp⟩
theorem Zv{f:Fld}(h0:fErr f=0){w:List Int}(hw:eQ f.g.pads.length w=true){q:Int}(hq:0≤q∧q<f.g.pads.length):(setB w).getLsbD q.toNat=hasL w q:=by
 obtain⟨h8,hne,he,hst,hj⟩:=uQ h0
 have hlt:=rY h8 hw
 rw[AY (fun x hx=>by have:=hlt x hx; omega) (by omega)]
 have e1:((q.toNat:Nat):Int)=q:=by omega
 rw[e1]
theorem Px{f:Fld}(h0:fErr f=0){w:List Int}(hw:eQ f.g.pads.length w=true){a q:Int}(ha:0≤a∧a<f.g.pads.length)(hq:0≤q∧q<f.g.pads.length) :
  (iJ (cX f) f.eats.length (BitVec.twoPow 64 a.toNat) &&& ~~~(setB w)).getLsbD q.toNat=(iZ f a q && !hasL w q):=by
 obtain⟨h8,_⟩:=uQ h0
 rw[BitVec.getLsbD_and,BitVec.getLsbD_not,IQ h0 ha hq,Zv h0 hw hq]
 have:decide (q.toNat<64)=true:=by simp; omega
 rw[this,Bool.true_and]
theorem wPath_path{f:Fld}(h0:fErr f=0):∀(ws:List (List Int)) (may:BitVec 64) (fnd:Bool),(∀ w ∈ ws,eQ f.g.pads.length w=true)→inB f.eats.length may→(lW may=[]→fnd=true)→pX (cX f) f.eats.length (nk f (cX f) (ws.map setB) may) (ws.map setB) may fnd=true
 | [],may,fnd,_,_,_=>rfl
 | w::ws,may,fnd,hw,hin,hf=>by
  obtain⟨h8,hne,he,hst,hj⟩:=uQ h0
  rw[List.map_cons,nk]
  cases hp:lW may with
  | nil=>
   simp only
   unfold pX
   rw[hf hp,Bool.or_true]
  | cons x xs=>
   simp only
   have hm:=GJ (v:=fun q=>iK f (cX f) (setB w::ws.map setB) q.toNat) xs x
   generalize maxB (fun q=>iK f (cX f) (setB w::ws.map setB) q.toNat) x xs=p at hm
   rw[← hp] at hm
   have hpr:=Zq hin hm
   have hb:=(rK.1 hm).2.2
   have p1:0≤p∧p<f.g.pads.length:=by omega
   rw[pX]
   simp only[hb,Bool.true_and]
   refine wPath_path h0 ws _ _ (fun w hw'=>hw w (by simp [hw'])) Pw fun hz=>?_
   have hg:iZ f p p=true:=by unfold iZ; simp
   have hpw:hasL w p=true:=by
    cases hh:hasL w p with
    | true=>rfl
    | false=>
     have:p ∈ lW (iJ (cX f) f.eats.length (BitVec.twoPow 64 p.toNat) &&& ~~~(setB w)):=rK.2 ⟨p1.1,by omega,by rw[Px h0 (hw w (by simp)) p1 p1,hg,hh]; rfl⟩
     rw[hz] at this; cases this
   exact Uk.2 ⟨p.toNat,by omega,by rw[IQ h0 p1 p1]; exact hg,by rw[Zv h0 (hw w (by simp)) p1]; exact hpw⟩
end Go.Proofs.YtcjnaeimeilomaaGreat.L
end
section
open Go Go.Ev
set_option maxRecDepth 100000
namespace Go.Proofs.YtcjnaeimeilomaaGreat.L
def ov(f:Fld):Int→List Int→List (List Int)→Bool
 | _,_,[]=>false
 | a,[],w::ws=>decide (ws.length=0) || w.any (iZ f a)
 | a,q::ps,w::ws=>hasP f.g.pads.length q && (iZ f a q && (!hasL w q && ov f q ps ws))
def JV(f:Fld)(plan:List (List Int)):List Int→Bool
 | []=>decide (plan.length=0)
 | p::ps=>hasL f.start p && ov f p ps plan
theorem fcut{f:Fld}:cutD (fC f) 0 5=some (fC f):=rfl
theorem l29_3{l k:Nat}(hl:2≤l){f:Fld}(hg:f.g.joins.length<1000){plan:List (List Int)}{path:List Int}{last:Nat}{a:Int}{w:List Int}(hpl:plan[last]?=some w)(hpa:path[last]?=some a)(hw:w.length<1000) :
  ∀(suf pre:List Int) (m:Nat),w=pre++suf→suf.length<m →
   S29_3 (K l) k m (dLL plan) (dL path) (dI (last:Nat)) (dI pre.length) (fC f)=some (dB (suf.any (iZ f a)))
 | [],pre,0,_,hm=>by simp at hm
 | [],pre,m+1,e,_=>by
  rw[r29_3]
  unfold C29_3 B29_3
  rw[List.append_nil] at e
  subst e
  rw[az,aj,mQ hpl,oz,bX,az,aj,ZJ,aj,cK]
  rfl
 | x::suf,pre,0,_,hm=>by simp at hm
 | x::suf,pre,m+1,e,hm=>by
  rw[r29_3]
  unfold C29_3 B29_3
  simp only[List.length_cons] at hm
  have ih:=l29_3 (l:=l) (k:=k) hl hg hpl hpa hw suf (pre++[x]) m (by rw[e]; simp) (by omega)
  have hpl':=hpl
  rw[e] at hpl' hw
  rw[az,aj,mQ hpl',oz,bX,az,aj,Zk,aj,dk,fcut,aj,az,aj,mQ hpa,cj,bX,aj,mQ hpl',oz,bX,az,aj,fy,cj,bX,
   s41 hl hg,aj,eZ,dJ (a:=x) (by simp at hw; omega),aj,ih]
  cases h:iZ f a x <;> simp [h]
theorem IV{f:Fld}{a:Int}{w:List Int}{ws:List (List Int)}:ov f a [] (w::ws)=(decide (ws.length=0) || w.any (iZ f a)):=by rw[ov]
theorem CK{f:Fld}{a q:Int}{ps w:List Int}{ws:List (List Int)}:ov f a (q::ps) (w::ws)=(hasP f.g.pads.length q && (iZ f a q && (!hasL w q && ov f q ps ws))):=by rw[ov]
theorem l29_1{l:Nat}(hl:2≤l){f:Fld}(hg:f.g.joins.length<1000)(hn:f.g.pads.length<1000):∀(suf pre:List Int) (a:Int) (wsuf wpre:List (List Int)) (w:List Int) (m:Nat),wpre.length=pre.length→suf.length≤wsuf.length→suf.length<m→pre.length+suf.length<1000→wpre.length+wsuf.length<1000 →
  (∀ x ∈ wpre++w::wsuf,x.length<1000) →
  S29_1 (K l) 19999 m (dLL (wpre++w::wsuf)) (dL (pre++a::suf)) (dI ((pre.length+1:Nat):Int)) (fC f)=some (dB (ov f a suf (w::wsuf)))
 | [],pre,a,wsuf,wpre,w,0,_,_,hm,_,_,_=>by simp at hm
 | [],pre,a,wsuf,wpre,w,m+1,hw,hs,hm,hb,hb2,hx=>by
  rw[r29_1]
  unfold C29_1 B29_1
  have h1:decide (((pre.length+1:Nat):Int)<(((pre++[a]).map dI).length:Nat))=false:=by simp
  have h2:((((pre++[a]).map dI).length:Nat):Int)-1=((pre.length:Nat):Int):=by simp
  have h3:((((wpre++w::wsuf).map dL).length:Nat):Int)-1=((pre.length+wsuf.length:Nat):Int):=by simp; omega
  have hpl:(wpre++w::wsuf)[pre.length]?=some w:=by rw[← hw]; simp
  have hpa:(pre++[a])[pre.length]?=some a:=by simp
  rw[az,aj,aZ,dZ,aj,h1,cK,aj,aZ,lj (by rw[h2]; unfold I64; omega),aj,h2,az,aj,aZ,lj (by rw[h3]; unfold I64; omega),aj,h3,cx,aj,cW,IV]
  by_cases h:wsuf.length=0
  ·rw[if_pos (by omega)]; simp [h]
  ·rw [if_neg (by omega)]
   have:=l29_3 (l:=l) (k:=19999) hl hg hpl hpa (hx w (by simp)) w [] 19999 rfl (by have:=hx w (by simp); omega)
   refine this.trans ?_
   simp [h]
 | q::suf,pre,a,[],wpre,w,m,_,hs,_,_,_,_=>by simp at hs
 | q::suf,pre,a,v::wsuf,wpre,w,0,_,_,hm,_,_,_=>by simp at hm
 | q::suf,pre,a,v::wsuf,wpre,w,m+1,hw,hs,hm,hb,hb2,hx=>by
  rw[r29_1]
  unfold C29_1 B29_1
  simp only[List.length_cons] at hm hs hb hb2
  have ih:=l29_1 hl hg hn suf (pre++[a]) q wsuf (wpre++[w]) v m (by simp [hw]) (by omega) (by omega) (by simp; omega) (by simp; omega) (by simpa using hx)
  simp only[List.append_assoc,List.cons_append,List.nil_append,List.length_append,List.length_cons,List.length_nil,Nat.zero_add] at ih
  have h1:decide (((pre.length+1:Nat):Int)<(((pre++a::q::suf).map dI).length:Nat))=true:=by simp <;> omega
  have h2:decide (((pre.length+1:Nat):Int)=0)=false:=by simp <;> omega
  have h3:decide ((0:Int)<((pre.length+1:Nat):Int))=true:=by simp <;> omega
  have hq:(pre++a::q::suf)[pre.length+1]?=some q:=by
   rw[List.getElem?_append_right (by omega)]
   simp
  have ha:(pre++a::q::suf)[pre.length]?=some a:=by simp
  have hpw:(wpre++w::v::wsuf)[pre.length]?=some w:=by rw[← hw]; simp
  have e0:(fC f)[0]?=some (.sl (f.g.pads.map dPad)):=rfl
  have e1:((f.g.pads.map dPad).length:Int)-1=(f.g.pads.length:Int)-1:=by simp
  have e2:(((pre.length+1:Nat):Int)-1)=((pre.length:Nat):Int):=by omega
  have hin:inR q 0 ((f.g.pads.length:Int)-1)=hasP f.g.pads.length q:=rfl
  have nxt:∀ c:Bool,C29_2 (K l) 19999 (m+1) (S29_1 (K l) 19999 m) (dLL (wpre++w::v::wsuf)) (dL (pre++a::q::suf)) (dI ((pre.length+1:Nat):Int)) (dB c) (fC f)=some (dB (!c && ov f q suf (v::wsuf))):=by
   intro c
   unfold C29_2 B29_2
   cases c with
   | true=>rfl
   | false=>
    rw[cK,ix (by omega),aj]
    exact ih
  rw[az,aj,aZ,dZ,aj,h1,dk,cx,aj,h2,cK,fX,aj,h3,dk,aj,mQ hq,cj,bX,e0,aj,az,aj,aZ,lj (by rw[e1]; unfold I64; omega),aj,e1,
   s35 (by omega),aj,dj,aj,hin,eZ,CK]
  cases hh:hasP f.g.pads.length q with
  | false=>simp only[Bool.not_false,if_true,Bool.false_and]; exact nxt true
  | true=>
   simp only[Bool.not_true,Bool.false_eq_true,if_false,Bool.true_and]
   rw[fcut,aj,lj (by rw[e2]; unfold I64; omega),aj,e2,aj,mQ ha,cj,bX,aj,mQ hq,cj,bX,s41 hl hg,aj,dj,aj,eZ]
   cases hgo:iZ f a q with
   | false=>simp only[Bool.not_false,if_true,Bool.false_and]; exact nxt true
   | true=>
    simp only[Bool.not_true,Bool.false_eq_true,if_false,Bool.true_and]
    rw[az,lj (by rw[e2]; unfold I64; omega),aj,e2,aj,mQ hpw,oz,bX,aj,mQ hq,cj,bX,s39 (by omega) (hx w (by simp)),aj]
    exact nxt (hasL w q)
theorem s29{l:Nat}(hl:3≤l){f:Fld}(hg:f.g.joins.length<1000)(hn:f.g.pads.length<1000)(hst:f.start.length<1000){plan:List (List Int)}(hp:plan.length<900)(hx:∀ x ∈ plan,x.length<1000){path:List Int}(hpa:path.length<900) :
  pcD P (K l) 29 [dF f,dLL plan,dL path]=some (dB (JV f plan path && decide (path.length≤plan.length))):=by
 obtain⟨l,rfl⟩:=lev (show 1≤l by omega)
 refine eJ ?_
 rw[c29]
 unfold C29_0 B29_0
 rw[cq,aj,az,aj,az,aj,aZ,aZ,fX,aj,cW]
 by_cases hlen:path.length≤plan.length
 ·rw [if_neg (by simp; omega), aj, aZ, cx, aj, cW]
  cases path with
  | nil=>
   rw[if_pos (by simp),aj,aZ,cx,aj]
   unfold JV
   simp
  | cons p ps=>
   rw[if_neg (by simp <;> omega)]
   cases plan with
   | nil=>simp at hlen
   | cons w ws=>
    simp only[List.length_cons] at hlen hp hpa
    have hd:decide ((p::ps).length≤(w::ws).length)=true:=by simp; omega
    rw[hd,Bool.and_true]
    show S29_1 (K l) 19999 (19998+1) _ _ _ _=_
    rw[r29_1]
    unfold C29_1 B29_1
    have h1:decide ((0:Int)<(((p::ps).map dI).length:Nat))=true:=by simp <;> omega
    have e3:(fC f)[3]?=some (dL f.start):=rfl
    have h0:idxD (D.v (Value.int IntKind.i64 0)) ((p::ps).map dI).length=some 0:=by
     have:=qx (k:=0) (n:=((p::ps).map dI).length) (by simp)
     exact this
    have g0:((p::ps).map dI)[0]?=some (dI p):=rfl
    have z0:decide ((0:Int)=0)=true:=rfl
    have z1:decide ((0:Int)<0)=false:=rfl
    rw[az,aj,aZ,dZ,aj,h1,dk,cx,aj,z0,dk,e3,aj,aj,h0,aj,g0,aj,cj,bX,s39 (by omega) hst,aj,dj,aj,eZ]
    rw[JV]
    cases hh:hasL f.start p with
    | false=>
     simp only[Bool.not_false,if_true,Bool.false_and]
     unfold C29_2 B29_2
     rfl
    | true=>
     simp only[Bool.not_true,Bool.false_eq_true,if_false,Bool.true_and]
     rw[fX,aj,z1,cK]
     unfold C29_2 B29_2
     rw[cK]
     have es:binD P BinOp.add 3 (Operand.tmp 25) (Operand.const (Value.int IntKind.i64 1)) (dI 0) (D.v (Value.int IntKind.i64 1))=some (dI ((0+1:Nat):Int)):=ix (k:=0) (by omega)
     rw[es,aj]
     exact l29_1 (l:=l) (by omega) hg hn ps [] p ws [] w 19998 rfl (by omega) (by omega) (by simp; omega) (by simp; omega) (by simpa using hx)
 ·rw [if_pos (by simp; omega)]
  simp [hlen]
end Go.Proofs.YtcjnaeimeilomaaGreat.L
end
section
open Go Go.Ev
set_option maxRecDepth 100000
namespace Go.Proofs.YtcjnaeimeilomaaGreat.L
theorem pathB_cons{near:List (BitVec 64)}{n:Nat}{p:Int}{ps:List Int}{wk:BitVec 64}{ws:List (BitVec 64)}{may:BitVec 64}{fnd:Bool} :
  pX near n (p::ps) (wk::ws) may fnd=(may.getLsbD p.toNat && pX near n ps ws (iJ near n (BitVec.twoPow 64 p.toNat) &&& ~~~wk) (DX (iJ near n (BitVec.twoPow 64 p.toNat)) wk)):=by rw[pX]
theorem pathB_nil{near:List (BitVec 64)}{n:Nat}{ws:List (BitVec 64)}{may:BitVec 64}{fnd:Bool}:pX near n [] ws may fnd=(decide (ws.length=0) || fnd):=by rw[pX]
theorem meets_any{f:Fld}(h0:fErr f=0){w:List Int}(hw:eQ f.g.pads.length w=true){p:Int}(hp:0≤p∧p<f.g.pads.length):DX (iJ (cX f) f.eats.length (BitVec.twoPow 64 p.toNat)) (setB w)=w.any (iZ f p):=by
 obtain⟨h8,hne,he,hst,hj⟩:=uQ h0
 have hlt:=rY h8 hw
 have hrg:∀ q ∈ w,0≤q∧q<f.g.pads.length:=fun q hq=>by
  unfold eQ at hw
  rw[Bool.and_eq_true,List.all_eq_true] at hw
  exact iQ.1 (hw.1 q hq)
 rw[Bool.eq_iff_iff,Uk,List.any_eq_true]
 constructor
 ·rintro ⟨i, hi, b1, b2⟩
  rw[AY (fun x hx=>by have:=hlt x hx; omega) hi] at b2
  unfold hasL at b2
  rw[List.any_eq_true] at b2
  obtain⟨q,hq,e⟩:=b2
  have e:=of_decide_eq_true e
  have hqr:=hrg q hq
  refine⟨q,hq,?_⟩
  have e2:i=q.toNat:=by omega
  rw[e2,IQ h0 hp hqr] at b1
  exact b1
 ·rintro ⟨q, hq, hg⟩
  have hqr:=hrg q hq
  refine⟨q.toNat,by omega,?_,?_⟩
  ·rw[IQ h0 hp hqr]; exact hg
  ·rw [Zv h0 hw hqr]
   unfold hasL
   rw[List.any_eq_true]
   exact⟨q,hq,by simp⟩
theorem path_eq{f:Fld}(h0:fErr f=0):∀(ps:List Int) (p:Int) (ws:List (List Int)) (may:BitVec 64) (fnd:Bool),(∀ w ∈ ws,eQ f.g.pads.length w=true)→(∀ x ∈ p::ps,0≤x∧x<f.g.pads.length) →
  pX (cX f) f.eats.length (p::ps) (ws.map setB) may fnd=(may.getLsbD p.toNat && ov f p ps ws)
 | ps,p,[],may,fnd,_,_=>by
  have:ov f p ps []=false:=by cases ps <;> rw[ov]
  rw[this,Bool.and_false]
  rw[List.map_nil,pX]
 | [],p,w::ws,may,fnd,hw,hx=>by
  rw[List.map_cons,pathB_cons,pathB_nil,meets_any h0 (hw w (by simp)) (hx p (by simp)),IV,List.length_map]
 | q::ps,p,w::ws,may,fnd,hw,hx=>by
  have hp:=hx p (by simp)
  have hq:=hx q (by simp)
  rw[List.map_cons,pathB_cons,path_eq h0 ps q ws _ _ (fun w h=>hw w (by simp [h])) (fun x h=>hx x (by simp [h])),Px h0 (hw w (by simp)) hp hq,CK]
  have:hasP f.g.pads.length q=true:=iQ.2 hq
  rw[this,Bool.true_and,Bool.and_assoc]
theorem chain_len{f:Fld}:∀(ps:List Int) (p:Int) (ws:List (List Int)),ov f p ps ws=true→ps.length+1≤ws.length
 | ps,p,[],h=>by
  have:ov f p ps []=false:=by cases ps <;> rw[ov]
  rw[this] at h; cases h
 | [],p,w::ws,_=>by simp
 | q::ps,p,w::ws,h=>by
  rw[CK] at h
  simp only[Bool.and_eq_true] at h
  have:=chain_len ps q ws h.2.2.2
  simp; omega
theorem both_path{f:Fld}(h0:fErr f=0){plan:List (List Int)}(hw:∀ w ∈ plan,eQ f.g.pads.length w=true){path:List Int}(hx:∀ x ∈ path,0≤x∧x<f.g.pads.length) :
  (JV f plan path && decide (path.length≤plan.length))=pX (cX f) f.eats.length path (plan.map setB) (setB f.start) false:=by
 obtain⟨h8,hne,he,hst,hj⟩:=uQ h0
 cases path with
 | nil=>
  rw[JV,pathB_nil,List.length_map]
  simp
 | cons p ps=>
  rw[path_eq h0 ps p plan _ _ hw hx,JV]
  have hp:=hx p (by simp)
  rw[Zv h0 hst hp]
  cases hc:ov f p ps plan with
  | false=>simp
  | true=>
   have:=chain_len ps p plan hc
   have hd:decide ((p::ps).length≤plan.length)=true:=by simp; omega
   rw[hd,Bool.and_true]
end Go.Proofs.YtcjnaeimeilomaaGreat.L
end
section
open Go Go.Ev
set_option maxRecDepth 100000
namespace Go.Proofs.YtcjnaeimeilomaaGreat.L
theorem mm_max2{ts:List TypeId}{c:Call}{t:TypeId}{x y:Int}:mmD P .max ts c t [dI x,dI y]=some (dI (max x y)):=by
 have h:max x y=if y > x then y else x:=by omega
 rw[h]
 unfold mmD
 rfl
def GQ(ok:Nat→Bool)(v:Nat→Int)(S m:Int)(i r:Nat):Int:=((List.range' i r).filter ok).foldl (fun m q=>max m (S+v q)) m
theorem qiq{ok:Nat→Bool}{v:Nat→Int}{S M:Int}:∀(r i:Nat) (m:Int),GQ ok v S m i r≤M↔m≤M∧∀ q,i≤q→q<i+r→ok q=true→S+v q≤M
 | 0,i,m=>by
  unfold GQ
  simp only[List.range'_zero,List.filter_nil,List.foldl_nil]
  exact⟨fun h=>⟨h,fun q h1 h2=>by omega⟩,fun h=>h.1⟩
 | r+1,i,m=>by
  have ih:=fun m=>qiq (ok:=ok) (v:=v) (S:=S) (M:=M) r (i+1) m
  unfold GQ at ih ⊢
  rw[List.range'_succ,List.filter_cons]
  cases h:ok i with
  | true=>
   simp only[if_true,List.foldl_cons]
   rw[ih]
   constructor
   ·rintro ⟨h1, h2⟩
    refine⟨by omega,fun q q1 q2 q3=>?_⟩
    by_cases e:q=i
    ·subst e; omega
    ·exact h2 q (by omega) (by omega) q3
   ·rintro ⟨h1, h2⟩
    have:=h2 i (by omega) (by omega) h
    exact⟨by omega,fun q q1 q2 q3=>h2 q (by omega) (by omega) q3⟩
  | false=>
   simp only[Bool.false_eq_true,if_false]
   rw[ih]
   constructor
   ·rintro ⟨h1, h2⟩
    refine⟨h1,fun q q1 q2 q3=>?_⟩
    by_cases e:q=i
    ·subst e; rw[h] at q3; cases q3
    ·exact h2 q (by omega) (by omega) q3
   ·rintro ⟨h1, h2⟩
    exact⟨h1,fun q q1 q2 q3=>h2 q (by omega) (by omega) q3⟩
theorem step31{l:Nat}{f:Fld}{plan:List (List Int)}{b2:D→D→D→D→List D→Option D}{m1:Nat}{u2:D}{bs:List Int}(hu:elsD u2=some (bs.map dI))(hb:bs.length<1000){m x:Int}{q:Nat}(hq:q<1000){c:Bool}
  (hW:c=true→pcD P (K l) 31 [dF f,dLL plan,dL (bs++[(q:Int)])]=some (dI x)) :
  C31_3 (K l) 19999 m1 b2 (dLL plan) u2 (dI m) (dI (q:Int)) (dB c) (fC f)=b2 (dLL plan) u2 (dI (if c then max m x else m)) (dI ((q+1:Nat):Int)) (fC f):=by
 unfold C31_3 B31_3
 cases c with
 | false=>
  rw[cK]
  unfold C31_4 B31_4
  rw[ix (by omega),aj]
  simp
 | true=>
  have h1:appD [] (bs.map dI)=some (bs.map dI):=by rw[vK (by simp; omega)]; simp
  have h2:appD (bs.map dI) [dI (q:Int)]=some ((bs++[(q:Int)]).map dI):=by rw[vK (by simp; omega)]; simp
  rw[dk,fcut,aj,cj,bX,hu,aj,allI,bX,h1,aj,h2,aj,hW rfl,aj,mm_max2,aj]
  unfold C31_4 B31_4
  rw[ix (by omega),aj]
  simp
theorem foldW_succ{ok:Nat→Bool}{v:Nat→Int}{S m:Int}{i r:Nat}:GQ ok v S m i (r+1)=GQ ok v S (if ok i then max m (S+v i) else m) (i+1) r:=by
 unfold GQ
 rw[List.range'_succ,List.filter_cons]
 cases ok i <;> rfl
theorem l31_2{l:Nat}(hl:2≤l){f:Fld}(hg:f.g.joins.length<1000)(hn:f.g.pads.length<1000){plan:List (List Int)}{bs:List Int}(hb:bs.length<900){a:Int}{w:List Int}(hpw:plan[bs.length]?=some w)(hw:w.length<1000){v:Nat→Int}{S:Int}
  (hW:∀ q:Nat,q<f.g.pads.length→iZ f a q=true→hasL w q=false→pcD P (K l) 31 [dF f,dLL plan,dL ((bs++[a])++[(q:Int)])]=some (dI (S+v q))) :
  ∀(r i m:Nat) (x:Int),i+r=f.g.pads.length→r<m →
   Ww (K l) 19999 m (dLL plan) (dL (bs++[a])) (dI x) (dI (i:Int)) (fC f)=some (dI (GQ (fun q=>iZ f a q && !hasL w q) v S x i r))
 | r,i,0,x,_,h=>by omega
 | 0,i,m+1,x,hi,_=>by
  rw[r31_2]
  unfold C31_2 B31_2
  have e0:(fC f)[0]?=some (.sl (f.g.pads.map dPad)):=rfl
  rw[e0,aj,az,aj,aZ,dZ,aj,cW,if_neg (by simp; omega)]
  rfl
 | r+1,i,m+1,x,hi,hm=>by
  rw[r31_2]
  unfold C31_2 B31_2
  have e0:(fC f)[0]?=some (.sl (f.g.pads.map dPad)):=rfl
  have ih:=fun x=>l31_2 hl hg hn hb hpw hw hW r (i+1) m x (by omega) (by omega)
  have h1:decide (((((bs++[a]).map dI).length:Nat):Int)=0)=false:=by simp <;> omega
  have h2:decide ((0:Int)<((((bs++[a]).map dI).length:Nat):Int))=true:=by simp <;> omega
  have h3:((((bs++[a]).map dI).length:Nat):Int)-1=((bs.length:Nat):Int):=by simp
  have ha:(bs++[a])[bs.length]?=some a:=by simp
  have hst:∀ c:Bool,c=(iZ f a i && !hasL w i)→C31_3 (K l) 19999 (m+1) (Ww (K l) 19999 m) (dLL plan) (dL (bs++[a])) (dI x) (dI (i:Int)) (dB c) (fC f)=some (dI (GQ (fun q=>iZ f a q && !hasL w q) v S x i (r+1))):=by
   intro c hc
   rw[step31 (x:=S+v i) az (by simp; omega) (by omega) (fun e=>by
    rw[hc,Bool.and_eq_true] at e
    exact hW i (by omega) e.1 (by simpa using e.2)),ih,foldW_succ,hc]
  rw[e0,aj,az,aj,aZ,dZ,aj,cW,if_pos (by simp; omega),az,aj,aZ,cx,aj,h1,cK,fX,aj,h2,dk,fcut,aj,lj (by rw[h3]; unfold I64; omega),aj,h3,aj,mQ ha,cj,bX,
   s41 hl hg,aj,eZ]
  cases hgo:iZ f a i with
  | false=>
   simp only[Bool.false_eq_true,if_false]
   exact hst false (by rw[hgo]; rfl)
  | true=>
   simp only[if_true]
   rw[lj (by rw[h3]; unfold I64; omega),aj,h3,az,aj,mQ hpw,oz,bX,s39 (by omega) hw,aj,dj,aj]
   exact hst (!hasL w i) (by rw[hgo]; rfl)
theorem l31_0{l:Nat}(hl:2≤l){f:Fld}(hn:f.g.pads.length<1000)(hs:f.start.length<1000){plan:List (List Int)}{v:Nat→Int}
  (hW:∀ q:Nat,q<f.g.pads.length→hasL f.start q=true→pcD P (K l) 31 [dF f,dLL plan,dL ([]++[(q:Int)])]=some (dI (0+v q))) :
  ∀(r i m:Nat) (x:Int),i+r=f.g.pads.length→r<m →
   Ww (K l) 19999 m (dLL plan) (.v (.slice none 0 0)) (dI x) (dI (i:Int)) (fC f)=some (dI (GQ (fun q=>hasL f.start q) v 0 x i r))
 | r,i,0,x,_,h=>by omega
 | 0,i,m+1,x,hi,_=>by
  rw[r31_2]
  unfold C31_2 B31_2
  have e0:(fC f)[0]?=some (.sl (f.g.pads.map dPad)):=rfl
  rw[e0,aj,az,aj,aZ,dZ,aj,cW,if_neg (by simp; omega)]
  rfl
 | r+1,i,m+1,x,hi,hm=>by
  rw[r31_2]
  unfold C31_2 B31_2
  have e0:(fC f)[0]?=some (.sl (f.g.pads.map dPad)):=rfl
  have e3:(fC f)[3]?=some (dL f.start):=rfl
  have ih:=fun x=>l31_0 hl hn hs hW r (i+1) m x (by omega) (by omega)
  have z0:decide ((((([]:List D).length:Nat):Int))=0)=true:=rfl
  have z1:decide ((0:Int)<(((([]:List D).length:Nat):Int)))=false:=rfl
  have hst:∀ c:Bool,c=hasL f.start i→C31_3 (K l) 19999 (m+1) (Ww (K l) 19999 m) (dLL plan) (.v (.slice none 0 0)) (dI x) (dI (i:Int)) (dB c) (fC f)=some (dI (GQ (fun q=>hasL f.start q) v 0 x i (r+1))):=by
   intro c hc
   rw[step31 (x:=0+v i) (bs:=[]) vj (by simp) (by omega) (fun e=>by
    rw[hc] at e
    exact hW i (by omega) e),ih,foldW_succ,hc]
  rw[e0,aj,az,aj,aZ,dZ,aj,cW,if_pos (by simp; omega),vj,aj,aZ,cx,aj,z0,dk,e3,aj,s39 (by omega) hs,aj,eZ]
  cases hh:hasL f.start i with
  | true=>
   simp only[if_true]
   exact hst true hh.symm
  | false=>
   simp only[Bool.false_eq_true,if_false]
   rw[fX,aj,z1,cK]
   exact hst false hh.symm
end Go.Proofs.YtcjnaeimeilomaaGreat.L
end
section
open Go Go.Ev
set_option maxRecDepth 100000
namespace Go.Proofs.YtcjnaeimeilomaaGreat.L
theorem eat_ge{f:Fld}(he:∀ x ∈ f.eats,0≤x∧x≤100)(p:Nat):0≤f.eats.getD p 0:=by
 rw[List.getD_eq_getElem?_getD]
 by_cases h:p<f.eats.length
 ·rw [List.getElem?_eq_getElem h]
  exact(he _ (List.getElem_mem h)).1
 ·rw[List.getElem?_eq_none (by omega)]; simp
theorem sum_ge{f:Fld}(he:∀ x ∈ f.eats,0≤x∧x≤100):∀(l:List Int),0≤sumE f l
 | []=>by simp [sumE]
 | x::l=>by
  rw[AK]
  have:=sum_ge he l
  have:=eat_ge he x.toNat
  omega
theorem sum_app{f:Fld}:∀(l:List Int) (a:Int),sumE f (l++[a])=sumE f l+f.eats.getD a.toNat 0
 | [],a=>by
  rw[List.nil_append,AK]
  simp [sumE]
 | x::l,a=>by
  rw[List.cons_append,AK,AK,sum_app l a]
  omega
theorem goes_self{f:Fld}{a:Int}:iZ f a a=true:=by unfold iZ; simp
theorem fold_val{f:Fld}(h0:fErr f=0){w:List Int}(hw:eQ f.g.pads.length w=true){a:Int}(ha:0≤a∧a<f.g.pads.length){v:Nat→Int}(hv:∀ q,0≤v q){S:Int}(hS:0≤S) :
  GQ (fun q=>iZ f a q && !hasL w q) v S (if w.any (iZ f a) then S else -1) 0 f.g.pads.length=S+mxB v (lW (iJ (cX f) f.eats.length (BitVec.twoPow 64 a.toNat) &&& ~~~(setB w))):=by
 obtain⟨h8,hne,he,hst,hj⟩:=uQ h0
 refine AZ fun M=>?_
 rw[qiq]
 have hR:S+mxB v (lW (iJ (cX f) f.eats.length (BitVec.twoPow 64 a.toNat) &&& ~~~(setB w)))≤M↔mxB v (lW (iJ (cX f) f.eats.length (BitVec.twoPow 64 a.toNat) &&& ~~~(setB w)))≤M-S:=by omega
 rw[hR,UQ]
 have hin:inB f.eats.length (iJ (cX f) f.eats.length (BitVec.twoPow 64 a.toNat) &&& ~~~(setB w)):=Pw
 constructor
 ·rintro ⟨h1, h2⟩
  refine⟨?_,fun q hq=>?_⟩
  ·by_cases hany : w.any (iZ f a) = true
   ·rw[if_pos hany] at h1; omega
   ·have hna : hasL w a = false := by
     cases hh:hasL w a with
     | false=>rfl
     | true=>
      exfalso
      unfold hasL at hh
      rw[List.any_eq_true] at hh
      obtain⟨x,hx,e⟩:=hh
      have e:=of_decide_eq_true e
      subst e
      exact hany (List.any_eq_true.2 ⟨x,hx,goes_self⟩)
    have e:((a.toNat:Nat):Int)=a:=by omega
    have:=h2 a.toNat (by omega) (by omega) (by rw[e,goes_self,hna]; rfl)
    have:=hv a.toNat
    omega
  ·have hqr := Zq hin hq
   have hb:=(rK.1 hq).2.2
   have hq2:0≤q∧q<f.g.pads.length:=by omega
   rw[Px h0 hw ha hq2] at hb
   have e:((q.toNat:Nat):Int)=q:=by omega
   have:=h2 q.toNat (by omega) (by omega) (by rw[e]; exact hb)
   omega
 ·rintro ⟨h1, h2⟩
  refine⟨by split <;> omega,fun q q1 q2 q3=>?_⟩
  have hq2:(0:Int)≤(q:Int)∧(q:Int)<f.g.pads.length:=by omega
  have hb:=Px h0 hw ha hq2
  have:=h2 (q:Int) (rK.2 ⟨by omega,by omega,by rw[hb]; exact q3⟩)
  rw[Int.toNat_natCast] at this
  omega
theorem loss_nil{f:Fld}{near:List (BitVec 64)}{q:Nat}:iK f near [] q=0:=by unfold iK; rfl
theorem mx_zero{v:Nat→Int}(hv:∀ q,v q=0){l:List Int}:mxB v l=0:=by
 refine AZ fun M=>?_
 rw[UQ]
 exact⟨fun h=>h.1,fun h=>⟨h,fun q _=>by rw[hv]; exact h⟩⟩
theorem loss_step{f:Fld}(h0:fErr f=0){w:BitVec 64}{ws:List (BitVec 64)}{p:Nat}:iK f (cX f) (w::ws) p=f.eats.getD p 0+mxB (iK f (cX f) ws) (lW (iJ (cX f) f.eats.length (BitVec.twoPow 64 p) &&& ~~~w)):=by
 obtain⟨h8,hne,he,hst,hj⟩:=uQ h0
 rw[iK,later_mx (by omega)]
theorem worst_at{f:Fld}(hs:pq f){plan:List (List Int)}(h4:plan.length≤4)(ha:aErr f plan=0):∀(ws:List (List Int)) (w:List Int) (pre:List (List Int)) (bs:List Int) (a:Int) (l:Nat),plan=pre++w::ws→pre.length=bs.length →
  (∀ ps,JV f plan (bs++a::ps)=ov f a ps (w::ws))→(∀ x ∈ bs++[a],0≤x∧x<f.g.pads.length)→5+ws.length≤l →
  pcD P (K l) 31 [dF f,dLL plan,dL (bs++[a])]=some (dI (sumE f bs+iK f (cX f) ((w::ws).map setB) a.toNat)):=by
 obtain⟨h0,_,hall⟩:=tK ha
 obtain⟨h8,hne,he,hst,hj⟩:=uQ h0
 have hea:=IJ h0
 have hwk:∀ w ∈ plan,eQ f.g.pads.length w=true:=by rw[List.all_eq_true] at hall; exact hall
 have hx:∀ x ∈ plan,x.length<1000:=fun x h=>by
  have:=pads_short h8 (hwk x h); omega
 have hg:f.g.joins.length<1000:=by have:=hs.1.2.1; omega
 intro ws
 induction ws with
 | nil=>
  intro w pre bs a l hp hpl hch hr hl
  obtain⟨l,rfl⟩:=lev (show 1≤l by omega)
  refine eJ ?_
  rw[c31]
  unfold C31_0 B31_0
  have hlen:plan.length=bs.length+1:=by rw[hp]; simp [hpl]
  have hd:decide ((bs++[a]).length≤plan.length)=true:=by simp; omega
  have hpr:JV f plan (bs++[a])=true:=by rw[hch [],IV]; simp
  rw[cq,aj,fcut,aj,s29 (l:=l) (by omega) hg (by omega) (by have:=hs.2.1; omega) (by omega) hx (by simp; omega),aj,hpr,hd,Bool.and_self,dk,aj,
   s30 (l:=l) (by omega) hea (by simp; omega) (fun x h=>by have:=hr x h; omega),aj]
  unfold C31_1 B31_1
  have he2:decide (((((bs++[a]).map dI).length:Nat):Int)=(((plan.map dL).length:Nat):Int))=true:=by simp; omega
  rw[az,aj,az,aj,aZ,aZ,cx,aj,he2,dk,sum_app]
  rw[List.map_cons,List.map_nil,loss_step h0,mx_zero (fun q=>loss_nil)]
  simp
 | cons v ws ih=>
  intro w pre bs a l hp hpl hch hr hl
  obtain⟨l,rfl⟩:=lev (show 1≤l by omega)
  refine eJ ?_
  rw[c31]
  unfold C31_0 B31_0
  have hlen:plan.length=bs.length+2+ws.length:=by rw[hp]; simp; omega
  have hd:decide ((bs++[a]).length≤plan.length)=true:=by simp; omega
  have har:=hr a (by simp)
  have hw:w ∈ plan:=by rw[hp]; simp
  have hpr:JV f plan (bs++[a])=w.any (iZ f a):=by rw[hch [],IV]; simp
  have hS:=sum_ge hea (bs++[a])
  have hpw:plan[bs.length]?=some w:=by rw[hp,← hpl]; simp
  have he2:decide (((((bs++[a]).map dI).length:Nat):Int)=(((plan.map dL).length:Nat):Int))=false:=by simp; omega
  have go:∀ best:Int,best=(if w.any (iZ f a) then sumE f (bs++[a]) else -1) →
    C31_1 (K l) 19999 (dLL plan) (dL (bs++[a])) (dI best) (fC f)=some (dI (sumE f bs+iK f (cX f) ((w::v::ws).map setB) a.toNat)):=by
   intro best hbest
   unfold C31_1 B31_1
   rw[az,aj,az,aj,aZ,aZ,cx,aj,he2,cK]
   have:=l31_2 (l:=l) (by omega) hg (by omega) (plan:=plan) (bs:=bs) (by omega) (a:=a) (w:=w) hpw (hx w hw) (v:=iK f (cX f) ((v::ws).map setB)) (S:=sumE f (bs++[a])) (fun q hq h1 h2=>by
    refine ih v (pre++[w]) (bs++[a]) (q:Int) l (by rw[hp]; simp) (by simp [hpl]) (fun ps=>?_) (fun x hx=>?_) (by simp only[List.length_cons] at hl; omega)
    ·have := hch ((q : Int) :: ps)
     rw[CK,h1,h2,iQ.2 ⟨by omega,by omega⟩] at this
     simpa using this
    ·rcases List.mem_append.1 hx with e | e
     ·exact hr x e
     ·have : x = (q : Int) := by simpa using e
      omega) f.g.pads.length 0 19999 best (by omega) (by omega)
   refine this.trans ?_
   have e2:iK f (cX f) ((w::v::ws).map setB) a.toNat=_:=loss_step h0 (w:=setB w) (ws:=(v::ws).map setB)
   rw[hbest,fold_val h0 (hwk w hw) har (v:=iK f (cX f) ((v::ws).map setB)) (fun q=>(Pv hea _ q).1) hS,e2,sum_app]
   congr 2
   omega
  rw[cq,aj,fcut,aj,s29 (l:=l) (by omega) hg (by omega) (by have:=hs.2.1; omega) (by omega) hx (by simp; omega),aj,hpr,hd,Bool.and_true,eZ]
  cases hany:w.any (iZ f a) with
  | true=>
   simp only[if_true]
   rw[aj,s30 (l:=l) (by omega) hea (by simp; omega) (fun x h=>by have:=hr x h; omega),aj]
   exact go _ (by rw[hany]; rfl)
  | false=>
   simp only[Bool.false_eq_true,if_false]
   exact go (-1) (by rw[hany]; rfl)
theorem start_rg{f:Fld}(h0:fErr f=0):∀ x ∈ f.start,0≤x∧x<f.g.pads.length:=fun x hx=>by
 obtain⟨h8,hne,he,hst,hj⟩:=uQ h0
 unfold eQ at hst
 rw[Bool.and_eq_true,List.all_eq_true] at hst
 exact iQ.1 (hst.1 x hx)
theorem hasL_mem{l:List Int}{x:Int}:hasL l x=true↔x ∈ l:=by
 unfold hasL
 rw[List.any_eq_true]
 constructor
 ·rintro ⟨y, h1, h2⟩
  have:=of_decide_eq_true h2
  subst this; exact h1
 ·intro h; exact⟨x,h,by simp⟩
theorem s31{l:Nat}(hl:10≤l){f:Fld}(hs:pq f){plan:List (List Int)}(h4:plan.length≤4)(ha:aErr f plan=0)(hst:f.start≠[]) :
  pcD P (K l) 31 [dF f,dLL plan,.v (.slice none 0 0)]=some (dI (MY f plan)):=by
 obtain⟨l,rfl⟩:=lev (show 1≤l by omega)
 refine eJ ?_
 rw[c31]
 unfold C31_0 B31_0
 obtain⟨h0,_,hall⟩:=tK ha
 obtain⟨h8,hne,he,_,hj⟩:=uQ h0
 have hea:=IJ h0
 have isp:pcD P (K l) 29 [dF f,dLL plan,.v (.slice none 0 0)]=some (dB (decide (plan.length=0))):=by
  obtain⟨l,rfl⟩:=lev (show 1≤l by omega)
  refine eJ ?_
  rw[c29]
  unfold C29_0 B29_0
  have z0:decide ((((([]:List D).length:Nat):Int))=0)=true:=rfl
  have z1:decide ((((plan.map dL).length:Nat):Int)<((([]:List D).length:Nat):Int))=false:=by simp
  rw[cq,aj,vj,aj,az,aj,aZ,aZ,fX,aj,z1,cK,aj,aZ,cx,aj,z0,dk,aj,aZ,cx,aj]
  simp
 have lst:pcD P (K l) 30 [dF f,.v (.slice none 0 0)]=some (dI 0):=by
  obtain⟨l,rfl⟩:=lev (show 1≤l by omega)
  refine eJ ?_
  rw[c30]
  unfold C30_0 B30_0
  rw[cq,aj]
  show S30_1 (K l) 19999 (19998+1) _ _ _ _=_
  rw[r30_1]
  unfold C30_1 B30_1
  have z1:decide ((0:Int)<(((([]:List D).length:Nat):Int)))=false:=rfl
  rw[vj,aj,aZ,dZ,aj,z1,cK]
 rw[cq,aj,fcut,aj,isp,aj,cW]
 cases plan with
 | nil=>
  rw[if_pos (show([]:List (List Int)).length=0 from rfl),aj,lst,aj]
  unfold C31_1 B31_1
  have z0:decide ((((([]:List D).length:Nat):Int))=((((([]:List (List Int)).map dL).length:Nat):Int)))=true:=rfl
  rw[vj,aj,az,aj,aZ,aZ,cx,aj,z0,dk]
  unfold MY
  rw[List.map_nil,mx_zero (fun q=>loss_nil)]
 | cons w ws=>
  rw[if_neg (by simp)]
  unfold C31_1 B31_1
  have z0:decide ((((([]:List D).length:Nat):Int))=(((((w::ws).map dL).length:Nat):Int)))=false:=by simp; omega
  rw[vj,aj,az,aj,aZ,aZ,cx,aj,z0,cK]
  have:=l31_0 (l:=l) (by omega) (f:=f) (by omega) (by have:=hs.2.1; omega) (plan:=w::ws) (v:=iK f (cX f) ((w::ws).map setB)) (fun q hq h1=>by
   have:=worst_at hs h4 ha ws w [] [] (q:Int) l rfl rfl (fun ps=>by
    rw[List.nil_append,JV,h1,Bool.true_and]) (fun x hx=>by
     have:x=(q:Int):=by simpa using hx
     omega) (by simp only[List.length_cons] at h4; omega)
   rw[Int.toNat_natCast] at this
   exact this) f.g.pads.length 0 19999 (-1) (by omega) (by omega)
  refine this.trans ?_
  congr 2
  unfold MY
  refine AZ fun M=>?_
  rw[qiq,UQ]
  constructor
  ·rintro ⟨h1, h2⟩
   have hq:∀ q ∈ f.start,iK f (cX f) ((w::ws).map setB) q.toNat≤M:=fun q hq=>by
    have hr:=start_rg h0 q hq
    have e:((q.toNat:Nat):Int)=q:=by omega
    have:=h2 q.toNat (by omega) (by omega) (by rw[e]; exact hasL_mem.2 hq)
    omega
   refine⟨?_,hq⟩
   cases hh:f.start with
   | nil=>exact absurd hh hst
   | cons q l=>
    have h3:=hq q (by rw[hh]; simp)
    have h4:=(Pv (near:=cX f) hea ((w::ws).map setB) q.toNat).1
    omega
  ·rintro ⟨h1, h2⟩
   refine⟨by omega,fun q q1 q2 q3=>?_⟩
   have:=h2 (q:Int) (hasL_mem.1 q3)
   rw[Int.toNat_natCast] at this
   omega
end Go.Proofs.YtcjnaeimeilomaaGreat.L
end
section
open Go Go.Ev
set_option maxRecDepth 100000
namespace Go.Proofs.YtcjnaeimeilomaaGreat.L
theorem l65g{l:Nat}(hl:6≤l){f:Fld}{near:List (BitVec 64)}(h8:near.length=8)(hn:f.eats.length≤8)(hg:f.g.pads.length=f.eats.length):∀(suf pre:List Int) (wsuf wpre:List (BitVec 64)) (may:BitVec 64) (fnd:Bool) (m:Nat),wpre.length=pre.length→suf.length≤wsuf.length→suf.length<m→pre.length+suf.length≤1000 →
  S65_1 (K l) 19999 m (dH f near) (.sl ((wpre++wsuf).map uB)) (dL (pre++suf)) (uB may) (dB fnd) (dL (pre++suf)) (dI ((pre++suf).map dI).length) (dI pre.length)=some (dB (suf.all (hasP f.g.pads.length) && pX near f.eats.length suf wsuf may fnd))
 | [],pre,wsuf,wpre,may,fnd,0,_,_,hm,_=>by simp at hm
 | [],pre,wsuf,wpre,may,fnd,m+1,hw,hs,hm,hb=>l65 hl h8 hn hg [] pre wsuf wpre may fnd (m+1) hw hs hm hb (fun x h=>by cases h)
 | x::suf,pre,wsuf,wpre,may,fnd,0,_,_,hm,_=>by simp at hm
 | x::suf,pre,[],wpre,may,fnd,m+1,_,h,_,_=>by simp at h
 | x::suf,pre,wk::wsuf,wpre,may,fnd,m+1,hw,hsl,hm,hb=>by
  rw[r65_1]
  unfold C65_1 B65_1
  simp only[List.length_cons] at hm hb hsl
  rw[ek,aj,dk,az,aj,fy,cj,bX,oJ,eK,aj,cutH,aj,s93 (by omega),aj,dj,aj,eZ,List.all_cons]
  cases hp:hasP f.g.pads.length x with
  | false=>
   unfold C65_2 B65_2
   rfl
  | true=>
   have hx0:=iQ.1 hp
   have e:((x.toNat:Nat):Int)=x:=by omega
   have hh:=s94 (l:=l) (by omega) (a:=may) (p:=x.toNat) (by omega)
   rw[e] at hh
   have hso:=s83 (l:=l) (by omega) (xs:=[x]) (by simp) (fun y hy=>by simp at hy; omega)
   have hso':pcD P (K l) 83 [.sl [dI x]]=some (uB (BitVec.twoPow 64 x.toNat)):=by
    refine hso.trans ?_
    unfold setB
    simp [List.foldl]
   have hat:∀ {kk:D→Option D},(bindO (idxD (dI pre.length) ((wpre++wk::wsuf).map uB).length) fun i=>bindO (((wpre++wk::wsuf).map uB)[i]?) kk)=kk (uB wk):=by
    intro kk
    have hgt:(wpre++wk::wsuf)[pre.length]?=some wk:=by rw[← hw]; simp
    exact mQ hgt
   have ih:=l65g hl h8 hn hg suf (pre++[x]) wsuf (wpre++[wk]) (iJ near f.eats.length (BitVec.twoPow 64 x.toNat) &&& ~~~wk) (DX (iJ near f.eats.length (BitVec.twoPow 64 x.toNat)) wk) m (by simp [hw]) (by omega) (by omega) (by simp; omega)
   simp only[List.append_assoc,List.cons_append,List.nil_append] at ih
   simp only[Bool.not_true,Bool.false_eq_true,if_false]
   rw[hh,aj,dj,aj]
   unfold C65_2 B65_2
   rw[eZ]
   rw[pX]
   cases hbit:may.getLsbD x.toNat with
   | false=>simp
   | true=>
    simp only[Bool.not_true,Bool.false_eq_true,if_false,Bool.true_and]
    rw[cj,bX,hso',aj,s85 (by omega) (by omega) h8,aj,az,aj,hat,cj,bX,aj,hat,cj,bX,s86 (by omega),aj,s95 (by omega),aj,dJ (a:=x) (by omega),aj]
    exact ih
theorem isPathG{l:Nat}(hl:7≤l){f:Fld}{near:List (BitVec 64)}(h8:near.length=8)(hn:f.eats.length≤8)(hg:f.g.pads.length=f.eats.length){ws:List (BitVec 64)}{path:List Int}(hp:path.length≤1000)(hst:eQ f.eats.length f.start=true)(hsl:f.start.length<1000) :
  pcD P (K l) 65 [dH f near,.sl (ws.map uB),dL path]=some (dB (decide (path.length≤ws.length) && (path.all (hasP f.g.pads.length) && pX near f.eats.length path ws (setB f.start) false))):=by
 obtain⟨l,rfl⟩:=lev (show 1≤l by omega)
 refine eJ ?_
 rw[c65]
 unfold C65_0 B65_0
 have hlt:=rY hn hst
 have e3:(List.drop 3 (hC f near))[0]?=some (dL f.start):=rfl
 rw[az,aj,az,aj,aZ,aZ,fX,aj,cW]
 by_cases hpw:path.length≤ws.length
 ·rw [if_neg (by simp; omega), oJ, eK, aj, e3, aj, s83 (by omega) hsl (fun x hx => by have := hlt x hx; omega), aj, aj, decide_eq_true hpw, Bool.true_and]
  exact l65g (l:=l) (by omega) h8 hn hg path [] ws [] (setB f.start) false 19999 rfl hpw (by omega) (by simp; omega)
 ·rw [if_pos (by simp; omega), decide_eq_false hpw]
  rfl
theorem proveG{l:Nat}(hl:12≤l){f:Fld}(hs:pq f){plan:List (List Int)}(hp:plan.length<900)(hx:∀ x ∈ plan,x.length<1000){path:List Int}(hpl:path.length≤900){n:Int} :
  pcD P (K l) 26 [dF f,dLL plan,dL path,dI n]=some (dB (decide (aErr f plan=0) && (decide (path.length≤plan.length) && (path.all (hasP f.g.pads.length) && (pX (cX f) f.eats.length path (plan.map setB) (setB f.start) false && decide (n≤sumE f path)))))):=by
 obtain⟨l,rfl⟩:=lev (show 2≤l by omega)
 refine eJ ?_
 rw[show l+2=(l+1)+1 from rfl,c26]
 unfold C26_0 B26_0
 rw[cq,aj,cut5,aj,s57 (by omega) hs (by omega) hx,aj]
 by_cases h0:aErr f plan=0
 ·obtain ⟨hf, h3, hall⟩ := tK h0
  obtain⟨h8,hne,he,hst,hj⟩:=uQ hf
  have hea:=IJ hf
  have t0:tupD (.tup [dH f (cX f),.sl ((plan.map setB).map uB),dI 0]) 0=some (dH f (cX f)):=rfl
  have t1:tupD (.tup [dH f (cX f),.sl ((plan.map setB).map uB),dI 0]) 1=some (.sl ((plan.map setB).map uB)):=rfl
  have t2:tupD (.tup [dH f (cX f),.sl ((plan.map setB).map uB),dI 0]) 2=some (dI 0):=rfl
  have hz:decide ((0:Int)=0)=true:=rfl
  rw[if_pos h0,t0,aj,t1,aj,t2,aj,cx,aj,hz,dk,isPathG (by omega) (near_len f) (by omega) he.symm (by omega) (by rw[he]; exact hst) (by have:=hs.2.1; omega),aj,eZ,decide_eq_true h0,Bool.true_and,List.length_map]
  cases hb1:decide (path.length≤plan.length) with
  | false=>simp
  | true=>
   cases hb2:path.all (hasP f.g.pads.length) with
   | false=>simp
   | true=>
    cases hb:pX (cX f) f.eats.length path (plan.map setB) (setB f.start) false with
    | false=>simp
    | true=>
     have hpx:∀ x ∈ path,0≤x∧x<f.eats.length:=fun x h=>by
      rw[List.all_eq_true] at hb2
      have:=iQ.1 (hb2 x h)
      omega
     simp only[if_true,Bool.true_and]
     rw[s64 (by omega) hea (by omega) hpx,aj,oy,aj]
 ·have t0 : tupD (.tup [.v (.pointer none), .v (.slice none 0 0), dI (aErr f plan)]) 0 = some (.v (.pointer none)) := rfl
  have t1:tupD (.tup [.v (.pointer none),.v (.slice none 0 0),dI (aErr f plan)]) 1=some (.v (.slice none 0 0)):=rfl
  have t2:tupD (.tup [.v (.pointer none),.v (.slice none 0 0),dI (aErr f plan)]) 2=some (dI (aErr f plan)):=rfl
  rw[if_neg h0,t0,aj,t1,aj,t2,aj,cx,aj,decide_eq_false h0,cK,Bool.false_and]
theorem lossE{l:Nat}(hl:12≤l){f:Fld}(hs:pq f){plan:List (List Int)}(hp:plan.length<1000)(hx:∀ x ∈ plan,x.length<1000)(h0:aErr f plan≠0) :
  pcD P (K l) 25 [dF f,dLL plan]=some (.tup [dI 0,.v (.slice none 0 0),dI (aErr f plan)]):=by
 obtain⟨l,rfl⟩:=lev (show 1≤l by omega)
 refine Bk ?_ (by kernel_rfl)
 rw[c25]
 unfold C25_0 B25_0
 have t0:tupD (.tup [.v (.pointer none),.v (.slice none 0 0),dI (aErr f plan)]) 0=some (.v (.pointer none)):=rfl
 have t1:tupD (.tup [.v (.pointer none),.v (.slice none 0 0),dI (aErr f plan)]) 1=some (.v (.slice none 0 0)):=rfl
 have t2:tupD (.tup [.v (.pointer none),.v (.slice none 0 0),dI (aErr f plan)]) 2=some (dI (aErr f plan)):=rfl
 rw[cq,aj,cut5,aj,s57 (by omega) hs hp hx,aj,if_neg h0,t0,aj,t1,aj,t2,aj,kK,aj,decide_eq_false h0,Bool.not_false,dk]
theorem l28{l k:Nat}(hl:1≤l){f:Fld}(hn:f.g.pads.length<1000):∀(suf pre:List Int) (m:Nat),suf.length<m→pre.length+suf.length<1000 →
  S28_1 (K l) k m (dL (pre++suf)) (dI pre.length) (fC f)=some (dB (suf.all (hasP f.g.pads.length)))
 | [],pre,0,hm,_=>by simp at hm
 | [],pre,m+1,_,_=>by
  rw[r28_1]
  unfold C28_1 B28_1
  rw[List.append_nil,az,aj,ZJ,aj,cK]
  rfl
 | x::suf,pre,0,hm,_=>by simp at hm
 | x::suf,pre,m+1,hm,hb=>by
  rw[r28_1]
  unfold C28_1 B28_1
  simp only[List.length_cons] at hm hb
  have ih:=l28 (k:=k) hl hn suf (pre++[x]) m (by omega) (by simp; omega)
  simp only[List.append_assoc,List.cons_append,List.nil_append] at ih
  have e0:(fC f)[0]?=some (.sl (f.g.pads.map dPad)):=rfl
  have e1:((f.g.pads.map dPad).length:Int)-1=(f.g.pads.length:Int)-1:=by simp
  have hin:inR x 0 ((f.g.pads.length:Int)-1)=hasP f.g.pads.length x:=rfl
  rw[az,aj,Zk,aj,dk,aj,fy,cj,bX,e0,aj,az,aj,aZ,lj (by rw[e1]; unfold I64; omega),aj,e1,
   s35 (by omega),aj,dj,aj,hin,eZ,List.all_cons]
  cases hh:hasP f.g.pads.length x with
  | false=>simp
  | true=>
   simp only[Bool.not_true,Bool.false_eq_true,if_false,Bool.true_and]
   rw[dJ (a:=x) (by omega),aj]
   exact ih
theorem s28{l:Nat}(hl:2≤l){f:Fld}(hn:f.g.pads.length<1000){xs:List Int}(hx:xs.length<1000):pcD P (K l) 28 [dF f,dL xs]=some (dB (xs.all (hasP f.g.pads.length))):=by
 obtain⟨l,rfl⟩:=lev (show 1≤l by omega)
 refine eJ ?_
 rw[c28]
 unfold C28_0 B28_0
 rw[cq,aj]
 exact l28 (l:=l) (k:=19999) (by omega) hn xs [] 19999 (by omega) (by simp; omega)
end Go.Proofs.YtcjnaeimeilomaaGreat.L
end
section
open Go Go.Ev
set_option maxRecDepth 100000
namespace Go.Proofs.YtcjnaeimeilomaaGreat.L
theorem sAwake:pcD P (K 39) 16 []=some (dB true):=eJ (pcR_man (l:=38) (f:=16) (p:=fun ds=>match ds with | []=>some (.v (.bool true)) | _=>none) (by rfl))
theorem ecF{f:Fld}:cutD (fC f) 0 5=some (fC f):=rfl
theorem neq_b{b:Bool}{x y:Operand}:binD P .neq 4 x y (dB b) (dB b)=some (dB false):=by cases b <;> kernel_rfl
theorem all_pads{n:Nat}{xs:List Int}(h:∀ x ∈ xs,0≤x∧x<n):xs.all (hasP n)=true:=by
 rw[List.all_eq_true]
 exact fun x hx=>iQ.2 (h x hx)
theorem l4_e{f:Fld}(hs:pq f){plan:List (List Int)}(hp:plan.length<900)(hx:∀ x ∈ plan,x.length<1000)(h0:aErr f plan≠0){path:List Int}(hpl:path.length≤310){n:Int} :
  C4_2 (K 39) 19999 (dLL plan) (dL path) (dI n) (dI (aErr f plan)) (.v (.bool false)) (fC f)=some (dB true):=by
 have eF:=s18 (l:=39) (f:=f) (by omega) hs
 have eR:=s20 (l:=39) (by omega) (xs:=plan) (by omega) (fun x h=>by have:=hx x h; unfold big; omega)
 have eL:=s27 (l:=39) (by omega) (xs:=path) (by unfold big; omega)
 have eP:=proveG (l:=39) (by omega) hs (by omega) hx (path:=path) (by omega) (n:=n)
 have eO:=lossE (l:=39) (by omega) hs (by omega) hx h0
 have r0:∀ d e g:D,tupD (.tup [d,e,g]) 0=some d:=fun _ _ _=>rfl
 have r1:∀ d e g:D,tupD (.tup [d,e,g]) 1=some e:=fun _ _ _=>rfl
 have r2:∀ d e g:D,tupD (.tup [d,e,g]) 2=some g:=fun _ _ _=>rfl
 rw[decide_eq_false h0,Bool.false_and] at eP
 have hz:decide ((0:Int)=0)=true:=rfl
 have hz2:decide (((([]:List D).length:Nat):Int)=0)=true:=rfl
 have nb:∀ {x y:Operand},binD P .neq 4 x y (dB false) (.v (.bool false))=some (.v (.bool false)):=by intro x y; kernel_rfl
 unfold C4_2 B4_2
 rw[cK,ecF,aj,eF,aj,eR,aj,eO,aj,r0,aj,r1,aj,r2,aj,aj,eF,aj,aj,eL,aj,eP,aj,cx,aj,decide_eq_false h0,cK,nb,aj]
 unfold C4_3 B4_3
 rw[cK,cx,aj,decide_eq_false h0,cK]
 unfold C4_4 B4_4
 rw[cK]
 unfold C4_5 B4_5
 rw[kK,aj,decide_eq_false h0,Bool.not_false,dk,cx,aj,decide_eq_true rfl,dk,cx,aj,hz,dk,vj,aj,aZ,cx,aj,hz2,dk,sAwake,aj]
theorem l4_3{f:Fld}(hs:pq f){plan:List (List Int)}(h4:plan.length≤4)(hx:∀ x ∈ plan,x.length<1000)(h0:aErr f plan=0){a b c:D}
  (e:some (if f.start=[] then D.tup [dI 0,.v (.slice none 0 0),dI 7] else .tup [dI (MY f plan),dL (nk f (cX f) (plan.map setB) (setB f.start)),dI 0])=some (.tup [a,b,c])) :
  C4_3 (K 39) 19999 (dLL plan) (dI 0) a b c (dB false) (fC f)=some (dB true):=by
 have e3:(fC f)[3]?=some (dL f.start):=rfl
 have hz:decide ((0:Int)=0)=true:=rfl
 have hz2:decide (((([]:List D).length:Nat):Int)=0)=true:=rfl
 have hz7:decide ((7:Int)=0)=false:=rfl
 have hz8:decide ((7:Int)=7)=true:=rfl
 unfold C4_3 B4_3
 rw[cK,cx,aj,hz,dk,e3,aj,az,aj,aZ,cx,aj]
 unfold C4_4 B4_4
 by_cases hne:f.start=[]
 ·rw [if_pos hne] at e
  cases e
  have hd:decide (((f.start.map dI).length:Int)=0)=true:=by rw[hne]; rfl
  rw[hd,dk]
  unfold C4_5 B4_5
  rw[kK,aj,hz7,Bool.not_false,dk,cx,aj,hz8,dk,cx,aj,hz,dk,vj,aj,aZ,cx,aj,hz2,dk,sAwake,aj]
 ·rw [if_neg hne] at e
  cases e
  have hd:decide (((f.start.map dI).length:Int)=0)=false:=decide_eq_false (by
   rw[List.length_map]
   have:f.start.length≠0:=fun z=>hne (List.length_eq_zero_iff.1 z)
   omega)
  rw[hd,cK]
  obtain⟨hf,h3,hall⟩:=tK h0
  obtain⟨h8,hn0,he,hst,hj⟩:=uQ hf
  have hea:=IJ hf
  rw[List.all_eq_true] at hall
  have hall':∀ w ∈ plan,eQ f.g.pads.length w=true:=hall
  have hib:inB f.eats.length (setB f.start):=by
   have:=setB_in h8 hst
   intro i hi hb
   have:=this i hi hb
   omega
  have hps:lW (setB f.start)=f.start:=MX h8 hst
  have hwp:=wPath_path hf plan (setB f.start) false hall' hib (fun h=>absurd (hps ▸ h) hne)
  have hwl:=UJ (f:=f) (near:=cX f) (plan.map setB) (setB f.start)
  rw[List.length_map] at hwl
  have hwi:=qhv (f:=f) (near:=cX f) (plan.map setB) (setB f.start) hib
  have hws:=qhw (near:=cX f) (by omega) hea (plan.map setB) (setB f.start)
  rw[hps] at hws
  have hws:sumE f (nk f (cX f) (plan.map setB) (setB f.start))=MY f plan:=hws
  generalize nk f (cX f) (plan.map setB) (setB f.start)=wp at hwp hwl hwi hws ⊢
  have hwi':∀ x ∈ wp,0≤x∧x<f.g.pads.length:=fun x h=>by have:=hwi x h; omega
  have eW:=s31 (l:=39) (by omega) hs h4 h0 hne
  have eA:=s28 (l:=39) (by omega) (f:=f) (by omega) (xs:=wp) (by omega)
  rw[all_pads hwi'] at eA
  have eI:=s29 (l:=39) (by omega) (f:=f) (by have:=hs.1.2.1; omega) (by omega) (by have:=hs.2.1; omega) (plan:=plan) (by omega) hx (path:=wp) (by omega)
  rw[both_path hf hall' hwi',hwp] at eI
  have eS:=s30 (l:=39) (by omega) (f:=f) hea (ps:=wp) (by omega) hwi
  rw[hws] at eS
  unfold C4_5 B4_5
  rw[kK,aj,hz,Bool.not_true,cK,cx,aj,hz,dk,ecF,aj,eW,aj,cx,aj,decide_eq_true rfl,dk,aj,eA,aj,dk,aj,eI,aj,dk,aj,eS,aj,cx,aj,decide_eq_true rfl,dk,sAwake,aj]
theorem l4_2{f:Fld}(hs:pq f){plan:List (List Int)}(h4:plan.length≤4)(hx:∀ x ∈ plan,x.length<1000)(h0:aErr f plan=0){path:List Int}(hpl:path.length≤310){n:Int} :
  C4_2 (K 39) 19999 (dLL plan) (dL path) (dI n) (dI 0) (.v (.bool false)) (fC f)=some (dB true):=by
 have eF:=s18 (l:=39) (f:=f) (by omega) hs
 have eR:=s20 (l:=39) (by omega) (xs:=plan) (by omega) (fun x h=>by have:=hx x h; unfold big; omega)
 have eL:=s27 (l:=39) (by omega) (xs:=path) (by unfold big; omega)
 have eP:=proveG (l:=39) (by omega) hs (by omega) hx (path:=path) (by omega) (n:=n)
 have eO:=s25 (l:=39) (by omega) hs (by omega) hx h0
 obtain⟨hf,h3,hall⟩:=tK h0
 obtain⟨h8,hn0,he,hst,hj⟩:=uQ hf
 have hea:=IJ hf
 rw[List.all_eq_true] at hall
 have hall':∀ w ∈ plan,eQ f.g.pads.length w=true:=hall
 obtain⟨a,b,c,e⟩:∃ a b c:D,some (if f.start=[] then D.tup [dI 0,.v (.slice none 0 0),dI 7] else .tup [dI (MY f plan),dL (nk f (cX f) (plan.map setB) (setB f.start)),dI 0])=some (.tup [a,b,c]):=by
  split
  ·exact⟨_,_,_,rfl⟩
  ·exact⟨_,_,_,rfl⟩
 have fin:=l4_3 hs h4 hx h0 e
 rw[e] at eO
 have r0:∀ d e g:D,tupD (.tup [d,e,g]) 0=some d:=fun _ _ _=>rfl
 have r1:∀ d e g:D,tupD (.tup [d,e,g]) 1=some e:=fun _ _ _=>rfl
 have r2:∀ d e g:D,tupD (.tup [d,e,g]) 2=some g:=fun _ _ _=>rfl
 rw[decide_eq_true h0,Bool.true_and] at eP
 have hz:decide ((0:Int)=0)=true:=rfl
 have nb:∀ {x y:Operand},binD P .neq 4 x y (dB false) (.v (.bool false))=some (.v (.bool false)):=by intro x y; kernel_rfl
 have eA:=s28 (l:=39) (by omega) (f:=f) (by omega) (xs:=path) (by omega)
 have eI:=s29 (l:=39) (by omega) (f:=f) (by have:=hs.1.2.1; omega) (by omega) (by have:=hs.2.1; omega) (plan:=plan) (by omega) hx (path:=path) (by omega)
 unfold C4_2 B4_2
 rw[cK,ecF,aj,eF,aj,eR,aj,eO,aj,r0,aj,r1,aj,r2,aj,aj,eF,aj,aj,eL,aj,eP,aj,cx,aj,hz,dk,aj,eA,aj,eZ]
 cases ha:path.all (hasP f.g.pads.length) with
 | false=>
  simp only[Bool.false_and,Bool.and_false,Bool.false_eq_true,if_false]
  rw[nb,aj]
  exact fin
 | true=>
  have hpi:∀ x ∈ path,0≤x∧x<f.g.pads.length:=fun x h=>by
   rw[List.all_eq_true] at ha
   exact iQ.1 (ha x h)
  simp only[Bool.true_and,if_true]
  rw[aj,eI,aj,eZ]
  have hb:=both_path hf hall' hpi
  rw[hb]
  cases hp:pX (cX f) f.eats.length path (plan.map setB) (setB f.start) false with
  | false=>
   simp only[Bool.false_and,Bool.and_false,Bool.false_eq_true,if_false]
   rw[nb,aj]
   exact fin
  | true=>
   rw[hp] at hb
   have hd:decide (path.length≤plan.length)=true:=by
    rw[Bool.and_eq_true] at hb
    exact hb.2
   have eS:=s30 (l:=39) (by omega) (f:=f) hea (ps:=path) (by omega) (fun x h=>by have:=hpi x h; omega)
   simp only[if_true]
   rw[aj,eS,aj,oy,aj,hd,Bool.true_and,Bool.true_and,neq_b,aj]
   exact fin
theorem losses_law{f:Fld}{plan:List (List Int)}{path:List Int}{n:Int}:K 40 4 [dF f,dLL plan,dL path,dI n]=some (dB true):=by
 rw[show(40:Nat)=39+1 from rfl,c4]
 unfold C4_0 B4_0
 obtain⟨b,eb,hb⟩:=s15 (l:=39) (by omega) (f:=f) (xs:=plan)
 have asleep:∀ w:D,C4_2 (K 39) 19999 (dLL plan) (dL path) (dI n) w (.v (.bool true)) (fC f)=some (dB true):=by
  intro w
  unfold C4_2 B4_2
  rw[dk,sAwake,aj]
 rw[cq,aj,ecF,aj,eb,aj,eZ]
 cases b with
 | false=>
  simp only[Bool.false_eq_true,if_false]
  unfold C4_1 B4_1
  rw[ecF,aj,eb,aj,dj,aj,Bool.not_false,dk]
  exact asleep _
 | true=>
  obtain⟨⟨t1,t2,t3,t4⟩,t5,t6,t7⟩:=hb rfl
  have hs:pq f:=⟨⟨by omega,by omega,by omega⟩,by omega,by omega⟩
  have hx:∀ x ∈ plan,x.length<1000:=fun x h=>by have:=t7 x h; omega
  simp only[if_true]
  rw[aj,s22 (by omega) hs (by omega) hx,aj]
  unfold C4_1 B4_1
  rw[ecF,aj,eb,aj,dj,aj,Bool.not_true,cK,az,aj,aZ,fX,aj,cW]
  by_cases hpl:path.length≤310
  ·rw [if_neg (by simp; omega), cx, aj, cW]
   by_cases h0:aErr f plan=0
   ·rw [if_pos h0, az, aj, aZ, fX, aj, h0]
    by_cases h4:plan.length≤4
    ·have hd : decide ((4 : Int) < (((plan.map dL).length : Nat) : Int)) = false := by simp; omega
     rw[hd]
     exact l4_2 hs h4 hx h0 hpl
    ·have hd : decide ((4 : Int) < (((plan.map dL).length : Nat) : Int)) = true := by simp; omega
     rw[hd]
     exact asleep _
   ·rw [if_neg h0]
    exact l4_e hs (by omega) hx h0 hpl
  ·rw [if_pos (by simp; omega)]
   exact asleep _
end Go.Proofs.YtcjnaeimeilomaaGreat.L
end
section
open Go Go.Ev
set_option maxRecDepth 100000
namespace Go.Proofs.YtcjnaeimeilomaaGreat.L
def toPad(x:Int × (Int × Unit)):Pad:=⟨x.1,x.2.1⟩
def toJoin(x:Int × (Int × Unit)):Join:=⟨x.1,x.2.1⟩
def toKd(x:Int × ((Int × (Int × Unit)) × ((Int × (Int × Unit)) × Unit))):Kd:=⟨x.1,x.2.1.1,x.2.1.2.1,x.2.2.1.1,x.2.2.1.2.1⟩
theorem losses_els(pads:List (Int × (Int × Unit)))(joins:List (Int × (Int × Unit)))(kinds:List (Int × ((Int × (Int × Unit)) × ((Int × (Int × Unit)) × Unit))))(start eats:List Int)(plan:List (List Int))(path:List Int)(n:Int) :
  elsL preyLosses.Ts (((pads,joins,kinds,()),start,eats,()),plan,path,n,())=[dF ⟨⟨List.map toPad pads,List.map toJoin joins,List.map toKd kinds⟩,start,eats⟩,dLL plan,dL path,dI n]:=by
 have h1:List.map dPad (List.map toPad pads)=List.map (fun y=>D.agg [dI y.1,dI y.2.1]) pads:=by rw[List.map_map]; rfl
 have h2:List.map tq (List.map toJoin joins)=List.map (fun y=>D.agg [dI y.1,dI y.2.1]) joins:=by rw[List.map_map]; rfl
 have h3:List.map dKd (List.map toKd kinds)=List.map (fun y=>D.agg [dI y.1,dI y.2.1.1,dI y.2.1.2.1,dI y.2.2.1.1,dI y.2.2.1.2.1]) kinds:=by rw[List.map_map]; rfl
 unfold dF fC
 simp only
 rw[h1,h2,h3]
 rfl
theorem man4:man (39+1) 4=none:=rfl
theorem losses_says:preyLosses.Law:=by
 unfold preyLosses.Law Says
 intro xs hx
 refine⟨39,man4,?_⟩
 have:=losses_els xs.1.1.1 xs.1.1.2.1 xs.1.1.2.2.1 xs.1.2.1 xs.1.2.2.1 xs.2.1 xs.2.2.1 xs.2.2.2.1
 refine(congrArg (fun z=>pcR P LA 20000 man (39+1) 4 z) this).trans ?_
 exact losses_law
end Go.Proofs.YtcjnaeimeilomaaGreat.L
end
section
open Go Go.Ev
set_option maxRecDepth 1000000
namespace Go.Proofs.YtcjnaeimeilomaaGreat.L
noncomputable def alt:Alt:=⟨G.A,G.tab.get,fun f=>Nat.beq f 16⟩
theorem awake_run:Go.Ev.runT ((calE G.P G.A (G.KK+1) G.tab.get (38+1)).call 16 [] .nil 0)=true:=by kernel_rfl
theorem tab_ok:DZ P alt.A 20000 alt.tab:=G.tab_ok
theorem awake_res:BJ P 16=false:=by kernel_rfl
theorem awake_flat:iV P 16=true:=by kernel_rfl
theorem none_spec{b:Bool}{call:List Value→Hp→Nat→Res}:mK b call (fun _=>none):=by
 intro ds d F H n vs e hx hF hv
 cases e
theorem manOk:ManOk P alt 20000 man where
 no l f h:=by
  have h:Nat.beq f 16=true:=h
  unfold man
  rw[h]
  cases Nat.beq l 39 <;> simp
 res f h:=by
  have:f=16:=Nat.eq_of_beq_eq_true h
  subst this
  exact awake_res
 yes l f p h:=by
  unfold man at h
  cases hf:Nat.beq f 16 with
  | false=>rw[hf] at h; cases h
  | true=>
   have:f=16:=Nat.eq_of_beq_eq_true hf
   subst this
   rw[hf] at h
   cases hl:Nat.beq l 39 with
   | false=>
    rw[hl] at h
    cases h
    exact none_spec
   | true=>
    have:l=39:=Nat.eq_of_beq_eq_true hl
    subst this
    rw[hl] at h
    cases h
    exact man_run awake_flat ((congrArg Go.Ev.runT (calR_alt (q:=alt) (f:=16) rfl)).trans awake_run)
theorem lossesProved:Rows.PreyLossesSaid:=preyLosses.said tab_ok manOk losses_says
end Go.Proofs.YtcjnaeimeilomaaGreat.L
end
