/- In each valid field, for each valid plan with at least one week: if more pads are picked in one of its weeks (any week, any more pads), no list of May is larger, and the worst loss is not greater: PreyPickedSaid, for all arguments, without conditions. -/
import Derived.Test.YtcjnaeimeilomaaGreatC11
set_option linter.unusedVariables false
section
open Go Go.Ev
set_option maxRecDepth 100000
namespace Go.Proofs.YtcjnaeimeilomaaGreat.L
theorem laterF_congr{v v':Nat→Int}{wk:BitVec 64}:∀(qs:List Nat) (a:Int),(∀ q ∈ qs,v q=v' q)→mw v wk a qs=mw v' wk a qs
 | [],a,_=>rfl
 | q::qs,a,h=>by
  unfold mw
  rw[List.foldl_cons,List.foldl_cons,h q (by simp)]
  exact laterF_congr qs _ (fun x hx=>h x (by simp [hx]))
theorem nexts_lt{near:List (BitVec 64)}{n p q:Nat}(h:q ∈ qJ near n p):q<n:=by
 unfold qJ at h
 simp only[List.mem_filter,List.mem_range'_1] at h
 omega
theorem wk_get{f:Fld}{near:List (BitVec 64)}{wk:BitVec 64}{w:Nat}:∀(r i:Nat) (J:MapL) (v p:Nat),
  getF (XX f near wk w i r J) [(v:Int),(p:Int)]=if v=w∧i≤p∧p<i+r then f.eats.getD p 0+mw (fun q=>getF J [((w+1:Nat):Int),(q:Int)]) wk 0 (qJ near f.eats.length p) else getF J [(v:Int),(p:Int)]
 | 0,i,J,v,p=>by
  rw[if_neg (by omega)]; rfl
 | r+1,i,J,v,p=>by
  unfold XX
  rw[wk_get r (i+1)]
  have hf:(fun q:Nat=>getF (putL [(w:Int),(i:Int)] (f.eats.getD i 0+mw (fun q=>getF J [((w+1:Nat):Int),(q:Int)]) wk 0 (qJ near f.eats.length i)) J) [((w+1:Nat):Int),(q:Int)])=fun q:Nat=>getF J [((w+1:Nat):Int),(q:Int)]:=by
   funext q
   rw[PX,if_neg (by intro z; simp at z; omega)]
  rw[hf]
  by_cases h:v=w∧i+1≤p∧p<i+1+r
  ·rw[if_pos h,if_pos (by omega)]
  ·rw [if_neg h, PX]
   by_cases h2:v=w∧p=i
   ·obtain ⟨rfl, rfl⟩ := h2
    rw[if_pos rfl,if_pos (by omega)]
   ·rw[if_neg (by intro z; simp at z; omega),if_neg (by omega)]
theorem wk_len{f:Fld}{near:List (BitVec 64)}{wk:BitVec 64}{w:Nat}:∀(r i:Nat) (J:MapL),(∀ x ∈ J,x.1.length=2)→∀ x ∈ XX f near wk w i r J,x.1.length=2
 | 0,i,J,h=>h
 | r+1,i,J,h=>wk_len r (i+1) _ (put_len h)
def MS(f:Fld)(near ws:List (BitVec 64))(n:Nat)(J:MapL):Prop:=
 (∀ x ∈ J,x.1.length=2)∧∀ v p:Nat,p<f.eats.length→getF J [(v:Int),(p:Int)]=if n≤v then lx f near (ws.drop v) p else 0
theorem loss_bd{f:Fld}{near:List (BitVec 64)}(he:∀ x ∈ f.eats,0≤x∧x≤100):∀(ws:List (BitVec 64)) (p:Nat),0≤lx f near ws p∧lx f near ws p≤100 * ws.length
 | [],p=>by unfold lx; simp
 | wk::ws,p=>by
  unfold lx
  have hb:=Iw (v:=lx f near ws) (wk:=wk) (M:=100 * ws.length) (qJ near f.eats.length p) 0 (Int.le_refl 0) (by omega) (fun q _=>(loss_bd he ws q).2)
  have hei:0≤f.eats.getD p 0∧f.eats.getD p 0≤100:=by
   rw[List.getD_eq_getElem?_getD]
   by_cases h:p<f.eats.length
   ·rw [List.getElem?_eq_getElem h]
    exact he _ (List.getElem_mem h)
   ·rw[List.getElem?_eq_none (by omega)]; simp
  simp only[List.length_cons]
  omega
theorem MS_step{f:Fld}{near ws:List (BitVec 64)}{n:Nat}{J:MapL}(hn:n<ws.length)(h:MS f near ws (n+1) J):MS f near ws n (XX f near (ws.getD n 0#64) n 0 f.eats.length J):=by
 refine⟨wk_len _ _ _ h.1,fun v p hp=>?_⟩
 rw[wk_get]
 by_cases hv:v=n
 ·subst hv
  rw[if_pos (by omega),if_pos (Nat.le_refl _)]
  have hd:ws.drop v=ws.getD v 0#64::ws.drop (v+1):=by
   rw[List.drop_eq_getElem_cons hn,List.getD_eq_getElem?_getD,List.getElem?_eq_getElem hn]; rfl
  rw[hd]
  unfold lx
  congr 1
  refine laterF_congr _ _ (fun q hq=>?_)
  rw[h.2 (v+1) q (nexts_lt hq),if_pos (Nat.le_refl _)]
 ·rw [if_neg (by omega), h.2 v p hp]
  by_cases h1:n≤v
  ·rw[if_pos (by omega),if_pos h1]
  ·rw[if_neg (by omega),if_neg h1]
def allMap(f:Fld)(near ws:List (BitVec 64)):Nat→MapL→MapL
 | 0,J=>J
 | n+1,J=>allMap f near ws n (XX f near (ws.getD n 0#64) n 0 f.eats.length J)
theorem all_MS{f:Fld}{near ws:List (BitVec 64)}:∀(n:Nat) (J:MapL),n≤ws.length→MS f near ws n J→MS f near ws 0 (allMap f near ws n J)
 | 0,J,_,h=>h
 | n+1,J,hn,h=>all_MS n _ (by omega) (MS_step (by omega) h)
theorem MS_nil{f:Fld}{near ws:List (BitVec 64)}:MS f near ws ws.length []:=by
 refine⟨fun x hx=>(by cases hx),fun v p _=>?_⟩
 split
 ·rename_i h
  rw[List.drop_of_length_le h]; rfl
 ·rfl
theorem l89_2{pc rg:PC}{l:Nat}(hl:3≤l){f:Fld}{near ws:List (BitVec 64)}(h8:near.length=8)(hn:f.eats.length≤8)(he:∀ x ∈ f.eats,0≤x∧x≤100)(hw:ws.length≤300)(hf8:f.eats.length<19000){e1:D} :
  ∀(n:Nat) (J:MapL),n≤ws.length→MS f near ws n J →
  Xx pc rg (K (l+2)) (Rg (l+1)) (K l) 19999 (XW ws n) (dH f near) (fX J 0) J.length e1=some (.map (fX (allMap f near ws n J) 0) (allMap f near ws n J).length)
 | 0,J,_,_=>by
  have:XW ws 0=[]:=rfl
  rw[this,n89_2]
  rfl
 | n+1,J,hlt,h=>by
  rw[backY_succ,r89_2]
  unfold C89_2 B89_2
  show chkK (bk (dI (n:Int))) (chkK (bk (uB (ws.getD n 0#64))) _)=_
  have e4:(List.drop 4 (hC f near))[0]?=some (dL f.eats):=rfl
  rw[cq,bZ,cq,bZ,sX,fk,aj,e4,aj,aV,aj,bY,List.length_map]
  have hB:∀ q:Nat,q<f.eats.length→0≤getF J [((n+1:Nat):Int),(q:Int)]∧getF J [((n+1:Nat):Int),(q:Int)]≤30000:=by
   intro q hq
   rw[h.2 (n+1) q hq,if_pos (Nat.le_refl _)]
   have:=loss_bd (near:=near) he (ws.drop (n+1)) q
   have hl:((ws.drop (n+1)).length:Int)≤300:=by rw[List.length_drop]; omega
   omega
  refine(l89_3 (pc:=pc) (rg:=rg) (k:=19999) hl h8 hn he (w:=n) (wk:=ws.getD n 0#64) (by omega) f.eats.length 0 19999 J (by omega) (by omega) h.1 hB).trans ?_
  exact l89_2 hl h8 hn he hw hf8 n _ (by omega) (MS_step (by omega) h)
def lossM(f:Fld)(near ws:List (BitVec 64)):MapL:=allMap f near ws ws.length []
theorem lossM_MS{f:Fld}{near ws:List (BitVec 64)}:MS f near ws 0 (lossM f near ws):=all_MS _ _ (Nat.le_refl _) MS_nil
theorem s89{l:Nat}(hl:8≤l){f:Fld}{near ws:List (BitVec 64)}(h8:near.length=8)(hn:f.eats.length≤8)(he:∀ x ∈ f.eats,0≤x∧x≤100)(hw:ws.length≤300) :
  pcD P (K l) 89 [dH f near,.sl (ws.map uB)]=some (.map (fX (lossM f near ws) 0) (lossM f near ws).length):=by
 obtain⟨l,rfl⟩:=lev (show 5≤l by omega)
 refine vw ?_ (by kernel_rfl)
 rw[c89]
 unfold C89_0 B89_0 C89_1 B89_1
 rw[leafD_ref,bZ,s106 (by omega),aj,qV]
 refine chk_of (by kernel_rfl) ?_
 refine(qkw (ys:=XW ws ws.length) (fun y=>sBackY (l:=l+3) (by omega) (by omega) y)).trans ?_
 exact l89_2 (l:=l) (by omega) h8 hn he hw (by omega) ws.length [] (Nat.le_refl _) MS_nil
end Go.Proofs.YtcjnaeimeilomaaGreat.L
end
section
open Go Go.Ev
set_option maxRecDepth 100000
namespace Go.Proofs.YtcjnaeimeilomaaGreat.L
theorem mapD_map{es:List MapEntry}{c:Nat}:mapD (.map es c)=some es:=rfl
theorem s91{l:Nat}(hl:3≤l){J:MapL}(hJ:∀ x ∈ J,x.1.length=2){c:Nat}{w a b:Int} :
  pcD P (K l) 91 [dI a,dI b,.ref [.map (fX J 0) c],.ref [dI w]]=some (dI (cmpI (getF J [w,a]) (getF J [w,b]))):=by
 obtain⟨l,rfl⟩:=lev (show 1≤l by omega)
 refine eK ?_
 rw[c91]
 unfold C91_0 B91_0
 simp only[fk,aj,gV,cq,bZ,mapD_map,look_loss hJ]
 rw[s92 (by omega),aj]
def maxB(v:Int→Int)(m:Int)(xs:List Int):Int:=xs.foldl (fun m y=>if v m<v y then y else m) m
theorem cmp_pos{a b:Int}:decide (0<cmpI a b)=decide (b<a):=by
 unfold cmpI
 by_cases h1:a<b
 ·rw [if_pos h1]
  have:¬ b<a:=by omega
  simp [this]
 ·rw [if_neg h1]
  by_cases h2:b<a
  ·rw[if_pos h2]; simp [h2]
  ·rw[if_neg h2]; simp [h2]
theorem l90_2{l k:Nat}{g:FuncId}{bs:List D}{v:Int→Int}(hv:∀ a b:Int,pcD P (K l) g (dI a::dI b::bs)=some (dI (cmpI (v a) (v b)))):∀(suf pre:List Int) (m0:Int) (m:Nat),suf.length<m→pre.length+suf.length<big →
  Xz (K l) k m (dL (pre++suf)) (.fn g [] bs) (dI m0) (dI pre.length)=some (dI (maxB v m0 suf))
 | [],pre,m0,0,hm,_=>by simp at hm
 | [],pre,m0,m+1,_,_=>by
  rw[r90_2]
  unfold Xy B90_2
  simp only[aj,aV,qV,ev,bY,List.cons_append,List.nil_append,List.append_nil,dX]
  rfl
 | x::suf,pre,m0,0,hm,_=>by simp at hm
 | x::suf,pre,m0,m+1,hm,hb=>by
  rw[r90_2]
  unfold Xy B90_2
  simp only[List.length_cons] at hm hb
  have ih:=fun m1=>l90_2 (k:=k) hv suf (pre++[x]) m1 m (by omega) (by simp; omega)
  simp only[List.append_assoc,List.cons_append,List.nil_append] at ih
  have hc:=hv x m0
  simp only[aj,aV,qV,bZ,cq,dQ,iJ,mY,bY,List.cons_append,List.nil_append,gj,dK,hc,cmp_pos]
  unfold C90_3 B90_3
  simp only[dV (a:=x) (sbig (show pre.length<big by omega)),aj,ih]
  unfold maxB
  rw[List.foldl_cons]
  by_cases h:v m0<v x
  ·rw[if_pos h,if_pos h]
  ·rw[if_neg h,if_neg h]
theorem s90{l:Nat}(hl:1≤l){g:FuncId}{bs:List D}{v:Int→Int}(hv:∀ l',l=l'+1→∀ a b:Int,pcD P (K l') g (dI a::dI b::bs)=some (dI (cmpI (v a) (v b)))){x:Int}{xs:List Int}(hx:xs.length<1000) :
  pcD P (K l) 90 [dL (x::xs),.fn g [] bs]=some (dI (maxB v x xs)):=by
 obtain⟨l,rfl⟩:=lev hl
 refine eK ?_
 rw[c90]
 unfold C90_0 B90_0 C90_1 B90_1
 have h1:decide ((((x::xs).map dI).length:Int)<1)=false:=by simp; omega
 have h0:((x::xs).map dI)[0]?=some (dI x):=rfl
 rw[aV,aj,bY,fW,aj,h1,ev,aj]
 have hi:idxD (D.v (Value.int IntKind.i64 0)) ((x::xs).map dI).length=some 0:=pW (k:=0) (by simp)
 rw[hi,aj,h0,aj,cq,bZ]
 exact l90_2 (k:=19999) (hv l rfl) xs [x] x 19999 (by omega) (by show 1+_<big; unfold big; omega)
def sumE(f:Fld)(ps:List Int):Int:=ps.foldl (fun a p=>a+f.eats.getD p.toNat 0) 0
theorem lEat{l k:Nat}{f:Fld}{near:List (BitVec 64)}(he:∀ x ∈ f.eats,0≤x∧x≤100):∀(suf pre:List Int) (a:Int) (m:Nat),suf.length<m→pre.length+suf.length<big→0≤a→a≤100 * pre.length→(∀ x ∈ suf,0≤x∧x<f.eats.length) →
  Wq (K l) k m (dH f near) (dI a) (dL (pre++suf)) (dI ((pre++suf).map dI).length) (dI pre.length)=some (dI (suf.foldl (fun a p=>a+f.eats.getD p.toNat 0) a))
 | [],pre,a,0,hm,_,_,_,_=>by simp at hm
 | [],pre,a,m+1,_,_,_,_,_=>by
  rw[r64_1]
  unfold Wj B64_1
  simp only[aj,aV,fk,ev,sX,List.append_nil,dX]
  rfl
 | x::suf,pre,a,0,hm,_,_,_,_=>by simp at hm
 | x::suf,pre,a,m+1,hm,hb,h0,h1,hx=>by
  rw[r64_1]
  unfold Wj B64_1
  simp only[List.length_cons] at hm hb
  have hx0:=hx x (by simp)
  have hlt:x.toNat<f.eats.length:=by omega
  have hxe:((x.toNat:Nat):Int)=x:=by omega
  have hget:(f.eats.map dI)[x.toNat]?=some (dI (f.eats.getD x.toNat 0)):=by
   rw[List.getElem?_map,List.getD_eq_getElem?_getD,List.getElem?_eq_getElem hlt]; rfl
  have hei:0≤f.eats.getD x.toNat 0∧f.eats.getD x.toNat 0≤100:=by
   rw[List.getD_eq_getElem?_getD,List.getElem?_eq_getElem hlt]
   exact he _ (List.getElem_mem hlt)
  have hidx:idxD (dI x) (f.eats.map dI).length=some x.toNat:=by
   have:=pW (k:=x.toNat) (n:=(f.eats.map dI).length) (by simpa using hlt)
   rw[hxe] at this
   exact this
  have elen:(pre++[x]).length=pre.length+1:=by simp
  have hstep:a+f.eats.getD x.toNat 0≤100 * ((pre++[x]).length:Int):=by rw[elen]; omega
  have ih:=lEat (l:=l) (k:=k) (near:=near) he suf (pre++[x]) (a+f.eats.getD x.toNat 0) m (by omega) (by simp; omega) (by omega) (hstep) (fun y hy=>hx y (by simp [hy]))
  simp only[List.append_assoc,List.cons_append,List.nil_append] at ih
  have e4:(List.drop 4 (hC f near))[0]?=some (dL f.eats):=rfl
  have hbig:a+f.eats.getD x.toNat 0<200000000:=by unfold big at hb; omega
  rw[dK,aj,iJ,aV,aj,gj,cq,bZ,sX,fk,aj,e4,aj,aV,aj,hidx,aj,hget,aj,cq,bZ,qkk (by unfold I64; omega),aj,dV (a:=x) (sbig (show pre.length<big by omega)),aj,ih]
  rfl
theorem s64{l:Nat}(hl:1≤l){f:Fld}{near:List (BitVec 64)}(he:∀ x ∈ f.eats,0≤x∧x≤100){ps:List Int}(hp:ps.length<1000)(hx:∀ x ∈ ps,0≤x∧x<f.eats.length) :
  pcD P (K l) 64 [dH f near,dL ps]=some (dI (sumE f ps)):=by
 obtain⟨l,rfl⟩:=lev hl
 refine eK ?_
 rw[c64]
 unfold C64_0 B64_0
 rw[aV,aj,bY]
 exact lEat (l:=l) (k:=19999) he ps [] 0 19999 (by omega) (by show 0+_<big; unfold big; omega) (Int.le_refl 0) (by simp) hx
end Go.Proofs.YtcjnaeimeilomaaGreat.L
end
section
open Go Go.Ev
set_option maxRecDepth 100000
namespace Go.Proofs.YtcjnaeimeilomaaGreat.L
theorem OW{v:Int→Int}:∀(xs:List Int) (x:Int),maxB v x xs ∈ x::xs
 | [],x=>by simp [maxB]
 | y::xs,x=>by
  unfold maxB
  rw[List.foldl_cons]
  have:=OW (v:=v) xs (if v x<v y then y else x)
  unfold maxB at this
  rcases List.mem_cons.1 this with h | h
  ·rw [h]
   split <;> simp
  ·simp [h]
theorem maxB_congr{v v':Int→Int}:∀(xs:List Int) (x:Int),(∀ y ∈ x::xs,v y=v' y)→maxB v x xs=maxB v' x xs
 | [],x,_=>rfl
 | y::xs,x,h=>by
  unfold maxB
  rw[List.foldl_cons,List.foldl_cons,h x (by simp),h y (by simp)]
  have:=maxB_congr (v:=v) (v':=v') xs (if v' x<v' y then y else x) (fun z hz=>by
   rcases List.mem_cons.1 hz with e | e
   ·rw [e]; split
    ·exact h y (by simp)
    ·exact h x (by simp)
   ·exact h z (by simp [e]))
  unfold maxB at this
  exact this
def inB(n:Nat)(s:BitVec 64):Prop:=∀ i,i<64→s.getLsbD i=true→i<n
theorem YJ{n:Nat}{s:BitVec 64}(h:inB n s){x:Int}(hx:x ∈ eX s):0≤x∧x<n∧x<8:=by
 obtain⟨h1,h2,h3⟩:=mK.1 hx
 have:=h x.toNat (by omega) h3
 omega
theorem pads_ne{n:Nat}(hn:n≤8){s:BitVec 64}(h:inB n s)(h0:s≠0#64):eX s≠[]:=by
 intro hp
 apply h0
 apply BitVec.eq_of_getLsbD_eq
 intro i hi
 cases hb:s.getLsbD i with
 | false=>simp
 | true=>
  have hlt:=h i hi hb
  have:(i:Int) ∈ eX s:=mK.2 ⟨by omega,by omega,by simpa using hb⟩
  rw[hp] at this
  cases this
theorem qgq{near:List (BitVec 64)}{n:Nat}{s w:BitVec 64}:inB n (nw near n s &&& ~~~w):=by
 intro i hi h
 rw[BitVec.getLsbD_and] at h
 simp only[Bool.and_eq_true] at h
 have h1:=h.1
 unfold nw at h1
 rw[Yk hi] at h1
 simp only[Bool.or_eq_true,List.any_eq_true,List.mem_filter,List.mem_range'_1,decide_eq_true_eq] at h1
 rcases h1 with h1 | ⟨p,⟨h1,_⟩,rfl⟩
 ·simp at h1
 ·omega
def sZ(f:Fld)(near:List (BitVec 64)):List (BitVec 64)→BitVec 64→List Int
 | [],_=>[]
 | wk::ws,may=>match eX may with
  | []=>[]
  | x::xs=>maxB (fun q=>lx f near (wk::ws) q.toNat) x xs::sZ f near ws (nw near f.eats.length (BitVec.twoPow 64 (maxB (fun q=>lx f near (wk::ws) q.toNat) x xs).toNat) &&& ~~~wk)
theorem wPath_len{f:Fld}{near:List (BitVec 64)}:∀(ws:List (BitVec 64)) (may:BitVec 64),(sZ f near ws may).length≤ws.length
 | [],_=>by simp [sZ]
 | wk::ws,may=>by
  unfold sZ
  split
  ·simp
  ·simp only [List.length_cons]
   exact Nat.succ_le_succ (wPath_len ws _)
theorem wPath_in{f:Fld}{near:List (BitVec 64)}:∀(ws:List (BitVec 64)) (may:BitVec 64),inB f.eats.length may→∀ x ∈ sZ f near ws may,0≤x∧x<f.eats.length
 | [],_,_,x,hx=>by simp [sZ] at hx
 | wk::ws,may,hm,x,hx=>by
  unfold sZ at hx
  split at hx
  ·cases hx
  ·rename_i y ys hp
   rcases List.mem_cons.1 hx with h | h
   ·rw [h]
    have:=OW (v:=fun q=>lx f near (wk::ws) q.toNat) ys y
    rw[← hp] at this
    have:=YJ hm this
    omega
   ·exact wPath_in ws _ qgq x h
theorem l63{l:Nat}(hl:8≤l){f:Fld}{near all:List (BitVec 64)}(h8:near.length=8)(hn:f.eats.length≤8){J:MapL}{c:Nat}(hJ:MS f near all 0 J):∀(suf pre:List (BitVec 64)) (don:List Int) (may:BitVec 64) (m:Nat),pre++suf=all→suf.length<m→all.length≤300→don.length≤pre.length→inB f.eats.length may →
  S63_1 (K l) 19999 m (dH f near) (uB may) (.sl (all.map uB)) (dI (all.map uB).length) (dI pre.length) (.map (fX J 0) c) (don.map dI)=some (dL (don++sZ f near suf may))
 | [],pre,don,may,0,_,hm,_,_,_=>by simp at hm
 | [],pre,don,may,m+1,ha,_,_,_,_=>by
  rw[r63_1]
  unfold VK B63_1
  rw[List.append_nil] at ha
  subst ha
  rw[dX,aj,ev]
  unfold C63_2 B63_2
  simp [sZ]
 | wk::suf,pre,don,may,0,_,hm,_,_,_=>by simp at hm
 | wk::suf,pre,don,may,m+1,ha,hm,h3,hd,hin=>by
  rw[r63_1]
  unfold VK B63_1
  have hl9:pre.length+(suf.length+1)≤300:=by
   have:=congrArg List.length ha
   simp at this; omega
  have ha':(pre++[wk])++suf=all:=by rw[← ha]; simp
  have hdrop:all.drop pre.length=wk::suf:=by rw[← ha]; simp
  simp only[List.length_cons] at hm
  rw[← ha,dK,aj,iJ,aV,aj,gj,cq,bZ,cq,bZ,binD_eql_u,aj,dQ]
  by_cases h0:may=0#64
  ·rw [if_pos h0]
   unfold C63_2 B63_2
   subst h0
   have:eX 0#64=[]:=by
    unfold eX
    rw[List.map_eq_nil_iff,List.filter_eq_nil_iff]
    intro a _; simp
   unfold sZ
   rw[this,List.append_nil]
  ·rw [if_neg h0, s84 (by omega), aj]
   cases hp:eX may with
   | nil=>exact absurd hp (pads_ne hn hin h0)
   | cons x xs=>
    have hxs:∀ y ∈ x::xs,0≤y∧y<f.eats.length∧y<8:=fun y hy=>YJ hin (by rw[hp]; exact hy)
    have hlen:xs.length<1000:=by
     have:(eX may).length≤8:=by
      unfold eX
      rw[List.length_map]
      exact Nat.le_trans (List.length_filter_le _ _) (by simp)
     rw[hp] at this
     simp at this; omega
    have hmx:=s90 (l:=l) (by omega) (g:=91) (bs:=[.ref [.map (fX J 0) c],.ref [dI (pre.length:Int)]]) (v:=fun a=>getF J [(pre.length:Int),a]) (fun l' hl' a b=>s91 (l:=l') (by omega) hJ.1) (x:=x) (xs:=xs) hlen
    have hcg:maxB (fun a=>getF J [(pre.length:Int),a]) x xs=maxB (fun q=>lx f near (wk::suf) q.toNat) x xs:=by
     refine maxB_congr xs x (fun y hy=>?_)
     have hy':=hxs y hy
     have e:((y.toNat:Nat):Int)=y:=by omega
     have:=hJ.2 pre.length y.toNat (by omega)
     rw[e,if_pos (Nat.zero_le _),hdrop] at this
     exact this
    rw[hmx,aj,cq,bZ,hcg]
    generalize hq:maxB (fun q=>lx f near (wk::suf) q.toNat) x xs=q
    have hqm:q ∈ x::xs:=by rw[← hq]; exact OW xs x
    have hqr:=hxs q hqm
    have hs:=s83 (l:=l) (by omega) (xs:=[q]) (by simp) (fun y hy=>by simp at hy; omega)
    have hs':pcD P (K l) 83 [.sl [dI q]]=some (uB (BitVec.twoPow 64 q.toNat)):=by
     refine hs.trans ?_
     rw[Gq]
    rw[appI (by simp; omega),aj,bZ,hs',aj,s85 (by omega) (by omega) h8,aj,s86 (by omega),aj,dV (a:=wk) (by omega),aj]
    have ih:=l63 hl h8 hn (c:=c) hJ suf (pre++[wk]) (don++[q]) (nw near f.eats.length (BitVec.twoPow 64 q.toNat) &&& ~~~wk) m ha' (by omega) h3 (by simp; omega) qgq
    rw[ha]
    have hmap:List.map dI don++[dI q]=(don++[q]).map dI:=by simp
    rw[hmap]
    refine ih.trans ?_
    have hwp:sZ f near (wk::suf) may=q::sZ f near suf (nw near f.eats.length (BitVec.twoPow 64 q.toNat) &&& ~~~wk):=by
     rw[sZ,hp]
     simp only[hq]
    rw[hwp,List.append_assoc]
    rfl
theorem s63{l:Nat}(hl:9≤l){f:Fld}{near ws:List (BitVec 64)}(h8:near.length=8)(hn:f.eats.length≤8)(he:∀ x ∈ f.eats,0≤x∧x≤100)(hw:ws.length≤300)(hst:cY f.eats.length f.start=true)(hsl:f.start.length<1000) :
  pcD P (K l) 63 [dH f near,.sl (ws.map uB)]=some (dL (sZ f near ws (setB f.start))):=by
 obtain⟨l,rfl⟩:=lev (show 1≤l by omega)
 refine vw ?_ (by kernel_rfl)
 rw[c63]
 unfold C63_0 B63_0
 have hlt:=oy hn hst
 have e3:(List.drop 3 (hC f near))[0]?=some (dL f.start):=rfl
 have lfm:∀(es:List MapEntry) (c:Nat),bk (.map es c)=true:=fun _ _=>rfl
 rw[s89 (by omega) h8 hn he hw,aj,lfm,bZ,sX,fk,aj,e3,aj,s83 (by omega) hsl (fun x hx=>by have:=hlt x hx; omega),aj,aV,aj,bY]
 refine l63 (l:=l) (by omega) h8 hn lossM_MS ws [] [] (setB f.start) 19999 rfl (by omega) hw (Nat.le_refl _) (fun i hi hb=>?_)
 rw[xK (fun x hx=>by have:=hlt x hx; omega) hi] at hb
 unfold hasL at hb
 rw[List.any_eq_true] at hb
 obtain⟨x,hx,e⟩:=hb
 unfold cY at hst
 simp only[Bool.and_eq_true,List.all_eq_true] at hst
 have:=mQ.1 (hst.1 x hx)
 simp at e; omega
end Go.Proofs.YtcjnaeimeilomaaGreat.L
end
section
open Go Go.Ev
set_option maxRecDepth 100000
namespace Go.Proofs.YtcjnaeimeilomaaGreat.L
def mxB(v:Nat→Int)(l:List Int):Int:=l.foldl (fun a q=>max a (v q.toNat)) 0
theorem mx_fold{v:Nat→Int}{M:Int}:∀(l:List Int) (a:Int),l.foldl (fun a q=>max a (v q.toNat)) a≤M↔a≤M∧∀ q ∈ l,v q.toNat≤M
 | [],a=>by simp
 | x::l,a=>by
  rw[List.foldl_cons,mx_fold l]
  constructor
  ·rintro ⟨h1, h2⟩
   refine⟨by omega,fun q hq=>?_⟩
   rcases List.mem_cons.1 hq with e | e
   ·rw[e]; omega
   ·exact h2 q e
  ·rintro ⟨h1, h2⟩
   have:=h2 x (by simp)
   exact⟨by omega,fun q hq=>h2 q (by simp [hq])⟩
theorem MQ{v:Nat→Int}{M:Int}{l:List Int}:mxB v l≤M↔0≤M∧∀ q ∈ l,v q.toNat≤M:=mx_fold l 0
theorem later_le{v:Nat→Int}{wk:BitVec 64}{M:Int}:∀(qs:List Nat) (a:Int),mw v wk a qs≤M↔a≤M∧∀ q ∈ qs,wk.getLsbD q=false→v q≤M
 | [],a=>by simp [mw]
 | x::qs,a=>by
  unfold mw
  rw[List.foldl_cons]
  have ih:=fun b=>later_le (v:=v) (wk:=wk) (M:=M) qs b
  unfold mw at ih
  rw[ih]
  cases hb:wk.getLsbD x with
  | true=>
   simp only[if_true]
   constructor
   ·rintro ⟨h1, h2⟩
    refine⟨h1,fun q hq h=>?_⟩
    rcases List.mem_cons.1 hq with e | e
    ·rw[e,hb] at h; cases h
    ·exact h2 q e h
   ·rintro ⟨h1, h2⟩
    exact⟨h1,fun q hq h=>h2 q (by simp [hq]) h⟩
  | false=>
   simp only[Bool.false_eq_true,if_false]
   constructor
   ·rintro ⟨h1, h2⟩
    refine⟨by omega,fun q hq h=>?_⟩
    rcases List.mem_cons.1 hq with e | e
    ·rw[e]; omega
    ·exact h2 q e h
   ·rintro ⟨h1, h2⟩
    have:=h2 x (by simp) hb
    exact⟨by omega,fun q hq h=>h2 q (by simp [hq]) h⟩
theorem qgz{a b:Int}(h:∀ M:Int,a≤M↔b≤M):a=b:=by
 have h1:=(h b).2 (Int.le_refl b)
 have h2:=(h a).1 (Int.le_refl a)
 omega
theorem reach_bit{near:List (BitVec 64)}{n:Nat}{s:BitVec 64}{i:Nat}(hi:i<64):(nw near n s).getLsbD i=(decide (i<n) && Jx near s i):=by
 unfold nw
 rw[Yk hi,Bool.eq_iff_iff]
 simp only[BitVec.getLsbD_zero,Bool.false_or,List.any_eq_true,List.mem_filter,List.mem_range'_1,decide_eq_true_eq,Bool.and_eq_true]
 constructor
 ·rintro ⟨p, ⟨h1, h2⟩, rfl⟩
  exact⟨by omega,h2⟩
 ·rintro ⟨h1, h2⟩
  exact⟨i,⟨by omega,h2⟩,rfl⟩
theorem later_mx{near:List (BitVec 64)}{n p:Nat}{wk:BitVec 64}{v:Nat→Int}(hn:n≤8):mw v wk 0 (qJ near n p)=mxB v (eX (nw near n (BitVec.twoPow 64 p) &&& ~~~wk)):=by
 refine qgz fun M=>?_
 rw[later_le,MQ]
 refine and_congr Iff.rfl ?_
 constructor
 ·intro h q hq
  obtain⟨h0,h1,h2⟩:=mK.1 hq
  rw[BitVec.getLsbD_and,reach_bit (by omega),BitVec.getLsbD_not] at h2
  simp only[Bool.and_eq_true,decide_eq_true_eq,Bool.not_eq_true'] at h2
  refine h q.toNat ?_ h2.2.2
  unfold qJ
  simp only[List.mem_filter,List.mem_range'_1]
  exact⟨by omega,h2.1.2⟩
 ·intro h q hq hb
  unfold qJ at hq
  simp only[List.mem_filter,List.mem_range'_1] at hq
  have e:((q:Int)).toNat=q:=by omega
  have:=h (q:Int) (mK.2 ⟨by omega,by omega,by
   rw[e,BitVec.getLsbD_and,reach_bit (by omega),BitVec.getLsbD_not]
   simp only[Bool.and_eq_true,decide_eq_true_eq,Bool.not_eq_true']
   exact⟨⟨by omega,hq.2⟩,by omega,hb⟩⟩)
  rw[e] at this
  exact this
theorem max_is{v:Int→Int}:∀(xs:List Int) (x:Int),∀ y ∈ x::xs,v y≤v (maxB v x xs)
 | [],x,y,hy=>by
  have:y=x:=by simpa using hy
  rw[this]; exact Int.le_refl _
 | z::xs,x,y,hy=>by
  unfold maxB
  rw[List.foldl_cons]
  have ih:=max_is (v:=v) xs (if v x<v z then z else x)
  unfold maxB at ih
  have h0:=ih (if v x<v z then z else x) (by simp)
  rcases List.mem_cons.1 hy with e | e
  ·subst e
   refine Int.le_trans ?_ h0
   split <;> omega
  ·rcases List.mem_cons.1 e with e | e
   ·subst e
    refine Int.le_trans ?_ h0
    split <;> omega
   ·exact ih y (by simp [e])
theorem mx_max{v:Nat→Int}{x:Int}{xs:List Int}(h0:∀ p,0≤v p):mxB v (x::xs)=v (maxB (fun q=>v q.toNat) x xs).toNat:=by
 refine qgz fun M=>?_
 rw[MQ]
 constructor
 ·rintro ⟨_, h⟩
  exact h _ (OW xs x)
 ·intro h
  refine⟨Int.le_trans (h0 _) h,fun q hq=>Int.le_trans ?_ h⟩
  exact max_is (v:=fun q=>v q.toNat) xs x q hq
theorem Uq{f:Fld}:∀(l:List Int) (a:Int),l.foldl (fun a p=>a+f.eats.getD p.toNat 0) a=a+sumE f l
 | [],a=>by simp [sumE]
 | x::l,a=>by
  unfold sumE
  rw[List.foldl_cons,List.foldl_cons,Uq l,Uq l (0+_)]
  omega
theorem sum_cons{f:Fld}{x:Int}{l:List Int}:sumE f (x::l)=f.eats.getD x.toNat 0+sumE f l:=by
 unfold sumE
 rw[List.foldl_cons,Uq]
 unfold sumE
 omega
theorem path_sum{f:Fld}{near:List (BitVec 64)}(hn:f.eats.length≤8)(he:∀ x ∈ f.eats,0≤x∧x≤100):∀(ws:List (BitVec 64)) (may:BitVec 64),sumE f (sZ f near ws may)=mxB (lx f near ws) (eX may)
 | [],may=>by
  rw[sZ]
  refine qgz fun M=>?_
  rw[MQ]
  constructor
  ·intro h
   have h:(0:Int)≤M:=h
   exact⟨h,fun q _=>by unfold lx; exact h⟩
  ·intro h; exact h.1
 | wk::ws,may=>by
  rw[sZ]
  cases hp:eX may with
  | nil=>rfl
  | cons x xs=>
   simp only
   rw[sum_cons,path_sum hn he ws,mx_max (fun p=>(loss_bd he (wk::ws) p).1)]
   generalize maxB (fun q=>lx f near (wk::ws) q.toNat) x xs=p
   conv=>rhs; unfold lx
   rw[later_mx hn]
def worstL(f:Fld)(plan:List (List Int)):Int:=mxB (lx f (dq f) (plan.map setB)) f.start
theorem eats_ok{f:Fld}(h:fErr f=0):∀ x ∈ f.eats,0≤x∧x≤100:=by
 unfold fErr at h
 split at h
 ·split at h
  ·rename_i h1
   simp only[Bool.and_eq_true,List.all_eq_true] at h1
   intro x hx
   have:=h1.2.2 x hx
   unfold XQ inR at this
   simp at this
   omega
  ·cases h
 ·rename_i h0; exact absurd h h0
theorem s25{l:Nat}(hl:12≤l){f:Fld}(hs:sx f){plan:List (List Int)}(hp:plan.length<1000)(hx:∀ x ∈ plan,x.length<1000)(h0:aErr f plan=0) :
  pcD P (K l) 25 [dF f,dLL plan]=some (if f.start=[] then .tup [dI 0,.v (.slice none 0 0),dI 7] else .tup [dI (worstL f plan),dL (sZ f (dq f) (plan.map setB) (setB f.start)),dI 0]):=by
 obtain⟨l,rfl⟩:=lev (show 1≤l by omega)
 refine vw ?_ (by kernel_rfl)
 rw[c25]
 unfold C25_0 B25_0
 obtain⟨hf,h3,hall⟩:=CV h0
 obtain⟨h8,hne,he,hst,hj⟩:=Gv hf
 have hea:=eats_ok hf
 have t0:tupD (.tup [dH f (dq f),.sl ((plan.map setB).map uB),dI 0]) 0=some (dH f (dq f)):=rfl
 have t1:tupD (.tup [dH f (dq f),.sl ((plan.map setB).map uB),dI 0]) 1=some (.sl ((plan.map setB).map uB)):=rfl
 have t2:tupD (.tup [dH f (dq f),.sl ((plan.map setB).map uB),dI 0]) 2=some (dI 0):=rfl
 have hz:(!decide ((0:Int)=0))=false:=rfl
 have e3:(List.drop 3 (hC f (dq f)))[0]?=some (dL f.start):=rfl
 rw[cw,aj,cut5,aj,s57 (by omega) hs hp hx,aj,if_pos h0,t0,aj,t1,aj,t2,aj,jV,aj,hz,ev,sX,fk,aj,e3,aj,aV,aj,bY,kV,aj,dQ]
 by_cases hs0:f.start=[]
 ·rw[if_pos (by rw[hs0]; rfl),if_pos hs0]
 ·have hl0 : ¬ (((f.start.map dI).length : Nat) : Int) = 0 := by
   rw[List.length_map]
   have:f.start.length≠0:=fun z=>hs0 (List.length_eq_zero_iff.1 z)
   omega
  rw[if_neg hl0,if_neg hs0]
  have hw:(plan.map setB).length≤300:=by rw[List.length_map]; exact h3
  have hst':cY f.eats.length f.start=true:=by rw[he]; exact hst
  have hin:inB f.eats.length (setB f.start):=by
   intro i hi hb
   have hlt:=oy h8 hst
   rw[xK (fun x hx=>by have:=hlt x hx; omega) hi] at hb
   unfold hasL at hb
   rw[List.any_eq_true] at hb
   obtain⟨x,hx,e⟩:=hb
   have hst2:=hst'
   unfold cY at hst2
   simp only[Bool.and_eq_true,List.all_eq_true] at hst2
   have:=mQ.1 (hst2.1 x hx)
   simp at e; omega
  have hlen:=wPath_len (f:=f) (near:=dq f) (plan.map setB) (setB f.start)
  rw[s63 (by omega) (qfk f) (by omega) hea hw hst' (by have:=hs.2.1; omega),aj,s64 (by omega) hea (by omega) (wPath_in _ _ hin),aj]
  have hsum:=path_sum (near:=dq f) (by omega) hea (plan.map setB) (setB f.start)
  rw[CQ h8 hst] at hsum
  rw[hsum]
  rfl
end Go.Proofs.YtcjnaeimeilomaaGreat.L
end
section
open Go Go.Ev
set_option maxRecDepth 100000
namespace Go.Proofs.YtcjnaeimeilomaaGreat.L
theorem inB_lt{s:BitVec 64}(h:inB 8 s):s.toNat<256:=by
 refine Nat.lt_pow_two_of_testBit (n:=8) s.toNat fun i hi=>?_
 by_cases h64:i<64
 ·cases hb : s.toNat.testBit i with
  | false=>rfl
  | true=>
   have:=h i h64 hb
   omega
 ·exact Nat.testBit_lt_two_pow (Nat.lt_of_lt_of_le s.isLt (Nat.pow_le_pow_right (by omega) (by omega)))
theorem setB_in{n:Nat}{x:List Int}(hn:n≤8)(h:cY n x=true):inB n (setB x):=by
 intro i hi hb
 have hlt:=oy hn h
 rw[xK (fun x hx=>by have:=hlt x hx; omega) hi] at hb
 unfold hasL at hb
 rw[List.any_eq_true] at hb
 obtain⟨y,hy,e⟩:=hb
 unfold cY at h
 simp only[Bool.and_eq_true,List.all_eq_true] at h
 have:=mQ.1 (h.1 y hy)
 simp at e; omega
end Go.Proofs.YtcjnaeimeilomaaGreat.L
end
section
open Go Go.Ev
set_option maxRecDepth 100000
namespace Go.Proofs.YtcjnaeimeilomaaGreat.L
def dW(x:Int):D:=.v (.int .u16 x)
theorem conv_w{x:Int}(h:0≤x∧x<65536):semD P (dW x) (convert 79 3)=some (dI x):=by
 have e:semD P (dW x) (convert 79 3)=some (dI (IntKind.i64.wrap x)):=by rfl
 rw[e,Pq (by unfold I64; omega)]
def toL(f:Fld)(a:Int)(i r:Nat):List Int:=((List.range' i r).filter (fun p:Nat=>Jy f a p)).map (fun p:Nat=>(p:Int))
end Go.Proofs.YtcjnaeimeilomaaGreat.L
end
section
open Go Go.Ev
set_option maxRecDepth 100000
namespace Go.Proofs.YtcjnaeimeilomaaGreat.L
theorem set_bit{f:Fld}(h0:fErr f=0){w:List Int}(hw:cY f.g.pads.length w=true){q:Int}(hq:0≤q∧q<f.g.pads.length):(setB w).getLsbD q.toNat=hasL w q:=by
 obtain⟨h8,hne,he,hst,hj⟩:=Gv h0
 have hlt:=oy h8 hw
 rw[xK (fun x hx=>by have:=hlt x hx; omega) (by omega)]
 have e1:((q.toNat:Nat):Int)=q:=by omega
 rw[e1]
end Go.Proofs.YtcjnaeimeilomaaGreat.L
end
section
open Go Go.Ev
set_option maxRecDepth 100000
namespace Go.Proofs.YtcjnaeimeilomaaGreat.L
noncomputable def eqI:List D→List Int→Bool
 | [],[]=>true
 | .v (.int .i64 c)::l,x::xs=>decide (c=x) && eqI l xs
 | _,_=>false
theorem eqI_eq:∀ {l:List D} {xs:List Int},eqI l xs=true→l=xs.map dI
 | [],[],_=>rfl
 | [],x::xs,h=>by cases h
 | d::l,[],h=>by
  unfold eqI at h
  split at h
  ·rename_i q1 q2; cases q1
  ·rename_i q1 q2; cases q2
  ·cases h
 | d::l,x::xs,h=>by
  unfold eqI at h
  split at h
  ·rename_i q1 q2; cases q1
  ·rename_i c l' x' xs' q1 q2
   cases q1; cases q2
   rw[Bool.and_eq_true] at h
   have:=of_decide_eq_true h.1
   subst this
   rw[List.map_cons,eqI_eq h.2]
  ·cases h
noncomputable def bitsOk(o:Option D)(xs:List Int):Bool:=match o with
 | some (.sl l)=>eqI l xs
 | _=>false
theorem bitsOk_eq{o:Option D}{xs:List Int}(h:bitsOk o xs=true):o=some (dL xs):=by
 unfold bitsOk at h
 split at h
 ·rw[eqI_eq h]
 ·cases h
noncomputable def intOk(o:Option D)(n:Int):Bool:=match o with
 | some (.v (.int .i64 c))=>decide (c=n)
 | _=>false
theorem qgx{o:Option D}{n:Int}(h:intOk o n=true):o=some (dI n):=by
 unfold intOk at h
 split at h
 ·rw[of_decide_eq_true h]
 ·cases h
theorem bits_all(pc:PC):(List.range 256).all (fun n:Nat=>bitsOk (C45_0 pc 19999 (dI (n:Int))) (eX (BitVec.ofNat 64 n)))=true:=by kernel_rfl
theorem bit_all(pc:PC):(List.range 256).all (fun n:Nat=>intOk (C46_0 pc 19999 (dL (eX (BitVec.ofNat 64 n)))) (n:Int))=true:=by kernel_rfl
theorem ofNat_toNat{s:BitVec 64}:BitVec.ofNat 64 s.toNat=s:=by simp
theorem s45{l:Nat}(hl:1≤l){s:BitVec 64}(h:inB 8 s):pcD P (K l) 45 [dI (s.toNat:Int)]=some (dL (eX s)):=by
 obtain⟨l,rfl⟩:=lev hl
 refine vw ?_ (by kernel_rfl)
 rw[c45]
 have:=bitsOk_eq (List.all_eq_true.1 (bits_all (K l)) s.toNat (by simpa using inB_lt h))
 rw[ofNat_toNat] at this
 exact this
theorem s46{l:Nat}(hl:1≤l){s:BitVec 64}(h:inB 8 s):pcD P (K l) 46 [dL (eX s)]=some (dI (s.toNat:Int)):=by
 obtain⟨l,rfl⟩:=lev hl
 refine eK ?_
 rw[c46]
 have:=qgx (List.all_eq_true.1 (bit_all (K l)) s.toNat (by simpa using inB_lt h))
 rw[ofNat_toNat] at this
 exact this
theorem two_all:(List.range 9).all (fun n:Nat=>intOk (bindO (semD P (dI (n:Int)) (convert 3 80)) fun d=>binD P .shl 3 (Operand.const (Value.int IntKind.i64 1)) (Operand.tmp 50) (D.v (Value.int IntKind.i64 1)) d) ((2 ^ n:Nat):Int))=true:=by kernel_rfl
theorem two_pow{n:Nat}(h:n≤8){kk:D→Option D}:(bindO (semD P (dI (n:Int)) (convert 3 80)) fun d=>bindO (binD P .shl 3 (Operand.const (Value.int IntKind.i64 1)) (Operand.tmp 50) (D.v (Value.int IntKind.i64 1)) d) kk)=kk (dI ((2 ^ n:Nat):Int)):=by
 have:=qgx (List.all_eq_true.1 two_all n (by simp; omega))
 cases e:semD P (dI (n:Int)) (convert 3 80) with
 | none=>rw[e] at this; cases this
 | some d=>
  rw[e] at this
  have this:binD P .shl 3 (Operand.const (Value.int IntKind.i64 1)) (Operand.tmp 50) (D.v (Value.int IntKind.i64 1)) d=some (dI ((2 ^ n:Nat):Int)):=this
  rw[aj,this,aj]
theorem conv8_all:(List.range 256).all (fun n:Nat=>intOk (semD P (.v (.int .u8 (n:Int))) (convert 5 3)) (n:Int))=true:=by kernel_rfl
theorem conv8{n:Nat}(h:n<256):semD P (.v (.int .u8 (n:Int))) (convert 5 3)=some (dI (n:Int)):=qgx (List.all_eq_true.1 conv8_all n (by simpa using h))
theorem quick_or{a b:Nat}:uw .or (.int .i64 (a:Int)) (.int .i64 (b:Int))=none:=rfl
theorem or_i{s t:BitVec 64}(hs:inB 8 s)(ht:inB 8 t){ty:TypeId}{x y:Operand}:binD P .or ty x y (dI (s.toNat:Int)) (dI (t.toNat:Int))=some (dI ((s ||| t).toNat:Int)):=by
 have h1:inB 8 (s ||| t):=by
  intro i hi hb
  rw[BitVec.getLsbD_or] at hb
  cases q:s.getLsbD i with
  | true=>exact hs i hi q
  | false=>rw[q,Bool.false_or] at hb; exact ht i hi hb
 have h2:=inB_lt h1
 have hw:IntKind.i64.wrap ((s ||| t).toNat:Int)=((s ||| t).toNat:Int):=Pq (by unfold I64; omega)
 exact yz quick_or (by simp only[binOp,Op.intBits,IntKind.bits,YX]; exact congrArg (fun z=>(pure (Value.int .i64 z):Sem Value)) hw) rfl rfl
theorem l50{l k:Nat}(hl:1≤l){b:List Int}(hb:b.length<1000):∀(suf pre:List Int) (m:Nat),suf.length<m→pre.length+suf.length<1000 →
  S50_1 (K l) k m (dL (pre++suf)) (dL b) (dI (pre.length:Nat))=some (dB (suf.all (hasL b)))
 | [],pre,0,hm,_=>by simp at hm
 | [],pre,m+1,_,_=>by
  rw[r50_1]
  unfold C50_1 B50_1
  rw[List.append_nil,aV,aj,lss_end,aj,ev]
  rfl
 | x::suf,pre,0,hm,_=>by simp at hm
 | x::suf,pre,m+1,hm,hc=>by
  rw[r50_1]
  unfold C50_1 B50_1
  simp only[List.length_cons] at hm hc
  have ih:=l50 (k:=k) hl hb suf (pre++[x]) m (by omega) (by simp; omega)
  simp only[List.append_assoc,List.cons_append,List.nil_append] at ih
  rw[aV,aj,lss_mid,aj,iJ,aj,gj,cq,bZ,s39 hl hb,aj,ew,aj,iV,List.all_cons]
  cases h:hasL b x with
  | false=>simp
  | true=>
   simp only[Bool.not_true,Bool.false_eq_true,if_false,Bool.true_and]
   rw[dV (a:=x) (by omega),aj]
   exact ih
theorem s50{l:Nat}(hl:2≤l){a b:List Int}(ha:a.length<1000)(hb:b.length<1000):pcD P (K l) 50 [dL a,dL b]=some (dB (a.all (hasL b))):=by
 obtain⟨l,rfl⟩:=lev (show 1≤l by omega)
 refine eK ?_
 rw[c50]
 unfold C50_0 B50_0
 exact l50 (l:=l) (k:=19999) (by omega) hb a [] 19999 (by omega) (by simp; omega)
noncomputable def wL(f:Fld)(plan:List (List Int)):Int:=if f.start=[] then 0 else worstL f plan
theorem s47{l:Nat}(hl:14≤l){f:Fld}(hs:sx f){plan:List (List Int)}(hp:plan.length<1000)(hx:∀ x ∈ plan,x.length<1000)(h0:aErr f plan=0) :
  pcD P (K l) 47 [dF f,dLL plan]=some (.tup [dI (wL f plan),dB true]):=by
 obtain⟨l,rfl⟩:=lev (show 1≤l by omega)
 refine pcD_f ?_ rfl
 rw[c47]
 unfold C47_0 B47_0
 have e3:(fC f)[3]?=some (dL f.start):=rfl
 have r0:∀ d e g:D,tupD (.tup [d,e,g]) 0=some d:=fun _ _ _=>rfl
 have r1:∀ d e g:D,tupD (.tup [d,e,g]) 1=some e:=fun _ _ _=>rfl
 have r2:∀ d e g:D,tupD (.tup [d,e,g]) 2=some g:=fun _ _ _=>rfl
 have ec:cutD (fC f) 0 5=some (fC f):=rfl
 rw[cw,aj,ec,aj,s18 (f:=f) (by omega) hs,aj,s20 (by omega) (by omega) (fun x h=>by have:=hx x h; unfold big; omega),aj,aV,aj,s25 (by omega) hs hp hx h0,aj]
 unfold wL
 by_cases hn:f.start=[]
 ·have z7 : decide ((7 : Int) = 0) = false := rfl
  have z8:decide ((7:Int)=7)=true:=rfl
  have hd:decide (((f.start.map dI).length:Int)=0)=true:=by rw[hn]; rfl
  rw[if_pos hn,if_pos hn,r0,aj,r1,aj,r2,aj,kV,aj,z7,ev,kV,aj,z8,iJ,e3,aj,aV,aj,bY,kV,aj,hd]
 ·have z0 : decide ((0 : Int) = 0) = true := rfl
  rw[if_neg hn,if_neg hn,r0,aj,r1,aj,r2,aj,kV,aj,z0,iJ]
end Go.Proofs.YtcjnaeimeilomaaGreat.L
end
section
open Go Go.Ev
set_option maxRecDepth 100000
namespace Go.Proofs.YtcjnaeimeilomaaGreat.L
theorem Az{l:List Int}{x:Int}:hasL l x=true↔x ∈ l:=by
 unfold hasL
 rw[List.any_eq_true]
 constructor
 ·rintro ⟨y, h1, h2⟩
  have:=of_decide_eq_true h2
  subst this; exact h1
 ·intro h; exact⟨x,h,by simp⟩
theorem loss_step'{f:Fld}(h0:fErr f=0){w:BitVec 64}{ws:List (BitVec 64)}{p:Nat}:lx f (dq f) (w::ws) p=f.eats.getD p 0+mxB (lx f (dq f) ws) (eX (nw (dq f) f.eats.length (BitVec.twoPow 64 p) &&& ~~~w)):=by
 obtain⟨h8,hne,he,hst,hj⟩:=Gv h0
 rw[lx,later_mx (by omega)]
inductive More:List (List Int)→List (List Int)→Prop
 | nil:More [] []
 | cons {w w':List Int} {ws ws':List (List Int)} (h:∀ x ∈ w,x ∈ w') (t:More ws ws'):More (w::ws) (w'::ws')
theorem More.refl:∀ ws:List (List Int),More ws ws
 | []=>.nil
 | w::ws=>.cons (fun _ h=>h) (More.refl ws)
theorem More.set:∀ {ws:List (List Int)} {k:Nat} {w w':List Int},ws[k]?=some w→(∀ x ∈ w,x ∈ w')→More ws (ws.set k w')
 | [],k,w,w',h,_=>by cases h
 | v::ws,0,w,w',h,hw=>by
  cases h
  exact .cons hw (More.refl ws)
 | v::ws,k+1,w,w',h,hw=>by
  rw[List.set_cons_succ]
  exact .cons (fun _ z=>z) (More.set (k:=k) (by simpa using h) hw)
theorem after_mono{f:Fld}{b b' w w':List Int}(hb:∀ x ∈ b',x ∈ b)(hw:∀ x ∈ w,x ∈ w'):∀ x ∈ Gw f b' w' 0 f.g.pads.length,x ∈ Gw f b w 0 f.g.pads.length:=by
 intro x hx
 unfold Gw at hx ⊢
 simp only[List.mem_map,List.mem_filter,Bool.and_eq_true,List.any_eq_true] at hx ⊢
 obtain⟨p,⟨h1,⟨q,h2,h3⟩,h4⟩,rfl⟩:=hx
 refine⟨p,⟨h1,⟨q,hb q h2,h3⟩,?_⟩,rfl⟩
 cases hh:hasL w (p:Int) with
 | false=>rfl
 | true=>
  rw[Az.2 (hw _ (Az.1 hh))] at h4
  cases h4
theorem may_mono{f:Fld}:∀ {ws ws':List (List Int)} {b b':List Int},More ws ws'→(∀ x ∈ b',x ∈ b)→More (mayL f b' ws') (mayL f b ws)
 | _,_,b,b',.nil,hb=>.cons hb .nil
 | _,_,b,b',.cons h t,hb=>by
  unfold mayL
  exact .cons hb (may_mono t (after_mono hb h))
theorem More.len:∀ {a b:List (List Int)},More a b→a.length=b.length
 | _,_,.nil=>rfl
 | _,_,.cons _ t=>by simp [More.len t]
theorem bit_mono{f:Fld}(h0:fErr f=0){w w':List Int}(hw:cY f.g.pads.length w=true)(hw':cY f.g.pads.length w'=true)(h:∀ x ∈ w,x ∈ w'){q:Int}(hq:0≤q∧q<f.g.pads.length):(setB w).getLsbD q.toNat=true→(setB w').getLsbD q.toNat=true:=by
 rw[set_bit h0 hw hq,set_bit h0 hw' hq,Az,Az]
 exact h q
theorem loss_mono{f:Fld}(h0:fErr f=0):∀ {ws ws':List (List Int)},More ws ws'→(∀ w ∈ ws,cY f.g.pads.length w=true)→(∀ w ∈ ws',cY f.g.pads.length w=true)→∀ p:Nat,p<f.g.pads.length→lx f (dq f) (ws'.map setB) p≤lx f (dq f) (ws.map setB) p
 | _,_,.nil,_,_,p,_=>Int.le_refl _
 | _,_,.cons (w:=w) (w':=w') (ws:=ws) (ws':=ws') h t,ho,ho',p,hp=>by
  obtain⟨h8,hne,he,hst,hj⟩:=Gv h0
  rw[List.map_cons,List.map_cons,loss_step' h0,loss_step' h0]
  have ih:=loss_mono h0 t (fun w hw=>ho w (by simp [hw])) (fun w hw=>ho' w (by simp [hw]))
  have hle:=MQ.1 (Int.le_refl (mxB (lx f (dq f) (ws.map setB)) (eX (nw (dq f) f.eats.length (BitVec.twoPow 64 p) &&& ~~~(setB w)))))
  have:mxB (lx f (dq f) (ws'.map setB)) (eX (nw (dq f) f.eats.length (BitVec.twoPow 64 p) &&& ~~~(setB w')))≤mxB (lx f (dq f) (ws.map setB)) (eX (nw (dq f) f.eats.length (BitVec.twoPow 64 p) &&& ~~~(setB w))):=by
   refine MQ.2 ⟨hle.1,fun q hq=>?_⟩
   have hqr:=YJ qgq hq
   have hq0:0≤q∧q<f.g.pads.length:=by omega
   obtain⟨q1,q2,q3⟩:=mK.1 hq
   have hq':q ∈ eX (nw (dq f) f.eats.length (BitVec.twoPow 64 p) &&& ~~~(setB w)):=by
    refine mK.2 ⟨q1,q2,?_⟩
    rw[BitVec.getLsbD_and,BitVec.getLsbD_not] at q3 ⊢
    simp only[Bool.and_eq_true] at q3 ⊢
    refine⟨q3.1,q3.2.1,?_⟩
    cases hb:(setB w).getLsbD q.toNat with
    | false=>rfl
    | true=>
     rw[bit_mono h0 (ho w (by simp)) (ho' w' (by simp)) h hq0 hb] at q3
     exact absurd q3.2.2 (by simp)
   have a:=hle.2 q hq'
   have b:=ih q.toNat (by omega)
   omega
  omega
theorem worst_mono{f:Fld}(h0:fErr f=0){ws ws':List (List Int)}(h:More ws ws')(ho:∀ w ∈ ws,cY f.g.pads.length w=true)(ho':∀ w ∈ ws',cY f.g.pads.length w=true):wL f ws'≤wL f ws:=by
 unfold wL
 by_cases hn:f.start=[]
 ·rw[if_pos hn,if_pos hn]; exact Int.le_refl _
 ·rw [if_neg hn, if_neg hn]
  obtain⟨h8,hne,he,hst,hj⟩:=Gv h0
  unfold worstL
  have hle:=MQ.1 (Int.le_refl (mxB (lx f (dq f) (ws.map setB)) f.start))
  refine MQ.2 ⟨hle.1,fun q hq=>?_⟩
  unfold cY at hst
  rw[Bool.and_eq_true,List.all_eq_true] at hst
  have hqr:=mQ.1 (hst.1 q hq)
  have a:=hle.2 q hq
  have b:=loss_mono h0 h ho ho' q.toNat (by omega)
  omega
end Go.Proofs.YtcjnaeimeilomaaGreat.L
end
section
open Go Go.Ev
set_option maxRecDepth 100000
namespace Go.Proofs.YtcjnaeimeilomaaGreat.L
theorem sAwake:pcD P (K 39) 16 []=some (dB true):=eK (pcR_man (l:=38) (f:=16) (p:=fun ds=>match ds with | []=>some (.v (.bool true)) | _=>none) (by rfl))
theorem ecF{f:Fld}:cutD (fC f) 0 5=some (fC f):=rfl
theorem pads_ok{n:Nat}{s:BitVec 64}(h:inB n s):cY n (eX s)=true:=by
 unfold cY
 rw[Bool.and_eq_true]
 constructor
 ·rw [List.all_eq_true]
  intro x hx
  have:=YJ h hx
  exact mQ.2 (by omega)
 ·unfold eX
  apply qfv
  rw[List.pairwise_map]
  apply List.Pairwise.filter
  exact List.Pairwise.imp (fun h=>Int.ofNat_lt.2 h) List.pairwise_lt_range'
theorem inB_or{n:Nat}{s t:BitVec 64}(hs:inB n s)(ht:inB n t):inB n (s ||| t):=by
 intro i hi hb
 rw[BitVec.getLsbD_or] at hb
 cases q:s.getLsbD i with
 | true=>exact hs i hi q
 | false=>rw[q,Bool.false_or] at hb; exact ht i hi hb
theorem inB_pow{n x:Nat}(h:x<2 ^ n):inB n (BitVec.ofNat 64 x):=by
 intro i hi hb
 rw[BitVec.getLsbD_ofNat] at hb
 simp only[Bool.and_eq_true] at hb
 by_cases hin:i<n
 ·exact hin
 ·exfalso
  have:x<2 ^ i:=Nat.lt_of_lt_of_le h (Nat.pow_le_pow_right (by omega) (by omega))
  rw[Nat.testBit_lt_two_pow this] at hb
  exact absurd hb.2 (by simp)
theorem OX{n m:Nat}(hm:n≤m){s:BitVec 64}(h:inB n s):inB m s:=fun i hi hb=>by have:=h i hi hb; omega
theorem aErr_set{f:Fld}{plan:List (List Int)}(h:aErr f plan=0){k:Nat}{w:List Int}(hw:cY f.g.pads.length w=true):aErr f (plan.set k w)=0:=by
 obtain⟨h0,h3,hall⟩:=CV h
 unfold aErr
 rw[if_pos h0]
 unfold pErr
 have:(plan.set k w).all (cY f.g.pads.length)=true:=by
  rw[List.all_eq_true] at hall ⊢
  intro x hx
  rcases List.mem_or_eq_of_mem_set hx with q | q
  ·exact hall x q
  ·rw[q]; exact hw
 rw[if_neg (by rw[List.length_set]; omega),if_pos this]
theorem l12p_3:∀ {sb sa:List (List Int)} (pb pa:List (List Int)) (m:Nat),More sb sa→pb.length=pa.length→sa.length<m→pa.length+sa.length<1000→(∀ x ∈ sa,x.length<1000)→(∀ x ∈ sb,x.length<1000) →
  S12_3 (K 39) 19999 m (dLL (pa++sa)) (dLL (pb++sb)) (dI (pa.length:Nat))=some (dB true)
 | _,_,pb,pa,0,_,_,hm,_,_,_=>by omega
 | _,_,pb,pa,m+1,.nil,hl,hm,hb,h1,h2=>by
  rw[r12_3]
  unfold C12_3 B12_3
  rw[List.append_nil,aV,aj,lss_end,aj,ev,sAwake,aj]
 | _,_,pb,pa,m+1,.cons (w:=b) (w':=a) (ws:=sb) (ws':=sa) h t,hl,hm,hb,h1,h2=>by
  simp only[List.length_cons] at hm hb
  have ih:=l12p_3 (pb++[b]) (pa++[a]) m t (by simp [hl]) (by omega) (by simp; omega) (fun x hx=>h1 x (by simp [hx])) (fun x hx=>h2 x (by simp [hx]))
  simp only[List.append_assoc,List.cons_append,List.nil_append] at ih
  have hgb:(pb++b::sb)[pa.length]?=some b:=by rw[← hl]; simp
  have hin:b.all (hasL a)=true:=by
   rw[List.all_eq_true]
   exact fun x hx=>Az.2 (h x hx)
  rw[r12_3]
  unfold C12_3 B12_3
  rw[aV,aj,lss_mid,aj,iJ,aV,aj,CJ hgb,mZ,bZ,aj,gj,mZ,bZ,s50 (by omega) (h2 b (by simp)) (h1 a (by simp)),aj,ew,aj,hin,Bool.not_true,ev,dV (a:=a) (by omega),aj]
  exact ih
theorem l12p_1{f:Fld}(hs:sx f){plan:List (List Int)}(h6:plan.length≤310)(h7:∀ x ∈ plan,x.length≤11)(h0:aErr f plan=0)(hne:plan≠[]){wk bits:Nat}(hwk:wk<256)(hbits:bits<65536) :
  C12_1 (K 39) 19999 (dLL plan) (.v (.int .u8 (wk:Int))) (dW (bits:Int)) (.v (.bool false)) (fC f)=some (dB true):=by
 obtain⟨hf,h3,hall⟩:=CV h0
 obtain⟨h8,hn0,he,hst,hj⟩:=Gv hf
 have hea:=eats_ok hf
 have hx:∀ x ∈ plan,x.length<1000:=fun x h=>by have:=h7 x h; omega
 rw[List.all_eq_true] at hall
 have hall':∀ w ∈ plan,cY f.g.pads.length w=true:=hall
 have hpos:plan.length≠0:=fun z=>hne (List.length_eq_zero_iff.1 z)
 have hk:wk % plan.length<plan.length:=Nat.mod_lt _ (by omega)
 generalize hke:wk % plan.length=k at hk
 obtain⟨w,hw⟩:∃ w,plan[k]?=some w:=⟨_,List.getElem?_eq_getElem hk⟩
 have hwm:w ∈ plan:=List.mem_of_getElem? hw
 have hwo:=hall' w hwm
 have hsb:=setB_in h8 hwo
 have hpw:eX (setB w)=w:=CQ h8 hwo
 have hxlt:bits % 2 ^ f.g.pads.length<2 ^ f.g.pads.length:=Nat.mod_lt _ (Nat.pow_pos (by omega))
 have hin:=inB_pow hxlt
 have hx64:bits % 2 ^ f.g.pads.length<18446744073709551616:=by
  have:=Nat.mod_le bits (2 ^ f.g.pads.length); omega
 generalize hte:BitVec.ofNat 64 (bits % 2 ^ f.g.pads.length)=t at hin
 have htn:t.toNat=bits % 2 ^ f.g.pads.length:=by
  rw[← hte,BitVec.toNat_ofNat]
  exact Nat.mod_eq_of_lt (by simpa using hx64)
 have hor:=inB_or hsb hin
 have hwn:=pads_ok hor
 have hsub:∀ x ∈ w,x ∈ eX (setB w ||| t):=by
  intro x hxw
  rw[← hpw] at hxw
  obtain⟨q1,q2,q3⟩:=mK.1 hxw
  exact mK.2 ⟨q1,q2,by rw[BitVec.getLsbD_or,q3,Bool.true_or]⟩
 have hmore:=More.set (k:=k) hw hsub
 have h0':=aErr_set (k:=k) h0 hwn
 have e8:=s45 (l:=39) (by omega) (OX h8 hor)
 have e9:=s46 (l:=39) (by omega) (OX h8 hsb)
 rw[hpw] at e9
 generalize eX (setB w ||| t)=w' at hwn hsub hmore h0' e8
 have hlw:w'.length<1000:=by have:=Mk h8 hwn; omega
 have hx':∀ x ∈ plan.set k w',x.length<1000:=fun x hx1=>by
  rcases List.mem_or_eq_of_mem_set hx1 with q | q
  ·exact hx x q
  ·rw[q]; exact hlw
 obtain⟨_,h3',hall1⟩:=CV h0'
 rw[List.all_eq_true] at hall1
 have hall1':∀ x ∈ plan.set k w',cY f.g.pads.length x=true:=hall1
 have hll:(plan.set k w').length=plan.length:=List.length_set ..
 have hset:List.set (plan.map dL) k (dL w')=(plan.set k w').map dL:=by rw[List.map_set]
 have eF:=s18 (l:=39) (f:=f) (by omega) hs
 have eR:=s20 (l:=39) (by omega) (xs:=plan) (by omega) (fun x h=>by have:=hx x h; unfold big; omega)
 have eR':=s20 (l:=39) (by omega) (xs:=plan.set k w') (by omega) (fun x h=>by have:=hx' x h; unfold big; omega)
 have eM:=sMayL (l:=39) (by omega) hs (plan:=plan) (by omega) hx h0
 have eM':=sMayL (l:=39) (by omega) hs (plan:=plan.set k w') (by omega) hx' h0'
 have eW:=s47 (l:=39) (by omega) hs (plan:=plan) (by omega) hx h0
 have eW':=s47 (l:=39) (by omega) hs (plan:=plan.set k w') (by omega) hx' h0'
 have t0:∀ d e:D,tupD (.tup [d,e]) 0=some d:=fun _ _=>rfl
 have t1:∀ d e:D,tupD (.tup [d,e]) 1=some e:=fun _ _=>rfl
 have e0:(fC f)[0]?=some (.sl (f.g.pads.map dPad)):=rfl
 have z0:(!decide ((0:Int)=0))=false:=rfl
 have hle:=worst_mono hf hmore hall' hall1'
 have hgt:decide (wL f plan<wL f (plan.set k w'))=false:=decide_eq_false (by omega)
 have hml:More (mayL f f.start (plan.set k w')) (mayL f f.start plan):=may_mono hmore (fun _ z=>z)
 have hlen:(!decide ((((mayL f f.start plan).map dL).length:Int)=(((mayL f f.start (plan.set k w')).map dL).length:Int)))=false:=by
  rw[List.length_map,List.length_map,hml.len]; simp
 have hla:((mayL f f.start plan).length)=plan.length+1:=mayL_len _ _
 unfold C12_1 B12_1
 rw[ev,conv8 hwk,aj,aV,aj,bY,List.length_map,binD_remN hpos,aj,hke,eR,aj,aV,aj,aj,CJ hw,mZ,bZ,conv_w (by omega),aj,e0,aj,aV,aj,bY,List.length_map,two_pow h8]
 rw[binD_remN (by have:=Nat.pow_pos (n:=f.g.pads.length) (show 0<2 by omega); omega),aj,e9,aj,← htn,or_i (OX h8 hsb) (OX h8 hin),aj,e8,aj]
 have hi:idxD (dI (k:Int)) ((plan.map dL).length)=some k:=pW (by simpa using hk)
 have hg:(plan.map dL)[k]?=some (dL w):=by rw[List.getElem?_map,hw]; rfl
 rw[hi,aj,hg,aj,mZ,bZ,mZ,bZ,hset,ecF,aj,eF,aj]
 rw[aj,aV,aj,eM,aj,t0,aj,t1,aj,aj,eF,aj,eR',aj,aV,aj,eM',aj,t0,aj,t1,aj]
 rw[aj,eW,aj,t0,aj,t1,aj,aj,eW',aj,t0,aj,t1,aj,jV,aj,z0,ev]
 rw[jV,aj,z0,ev,ew,aj,Bool.not_true,ev,aj,ev,mY,aj,hgt,ev,aV,aj,aV,aj,bY,bY,jV,aj,hlen]
 unfold C12_2 B12_2
 rw[ev]
 exact l12p_3 [] [] 19999 hml rfl (by omega) (by simp; omega) (fun x hx=>by have:=MJ h8 plan f.start hst x hx; omega) (fun x hx=>by have:=MJ h8 (plan.set k w') f.start hst x hx; omega)
theorem picked_law{f:Fld}{plan:List (List Int)}{wk bits:Nat}(hwk:wk<256)(hbits:bits<65536):K 40 12 [dF f,dLL plan,.v (.int .u8 (wk:Int)),dW (bits:Int)]=some (dB true):=by
 rw[show(40:Nat)=39+1 from rfl,c12]
 unfold C12_0 B12_0
 obtain⟨b,eb,hb⟩:=sReady (l:=39) (by omega) (f:=f) (plan:=plan)
 have asleep:C12_1 (K 39) 19999 (dLL plan) (.v (.int .u8 (wk:Int))) (dW (bits:Int)) (.v (.bool true)) (fC f)=some (dB true):=by
  unfold C12_1 B12_1
  rw[iJ,sAwake,aj]
 rw[cw,aj,ecF,aj,eb,aj,ew,aj,iV]
 cases b with
 | false=>exact asleep
 | true=>
  obtain⟨hs,t6,t7,h0⟩:=hb rfl
  simp only[Bool.not_true,Bool.false_eq_true,if_false]
  rw[aV,aj,bY,kV,aj]
  by_cases hne:plan=[]
  ·have hd : decide (((plan.map dL).length : Int) = 0) = true := by rw [hne]; rfl
   rw[hd]
   exact asleep
  ·have hd : decide (((plan.map dL).length : Int) = 0) = false := decide_eq_false (by
    rw[List.length_map]
    have:plan.length≠0:=fun z=>hne (List.length_eq_zero_iff.1 z)
    omega)
   rw[hd]
   exact l12p_1 hs t6 t7 h0 hne hwk hbits
end Go.Proofs.YtcjnaeimeilomaaGreat.L
end
section
open Go Go.Ev
set_option maxRecDepth 100000
namespace Go.Proofs.YtcjnaeimeilomaaGreat.L
def toPad(x:Int × (Int × Unit)):Pad:=⟨x.1,x.2.1⟩
def toJoin(x:Int × (Int × Unit)):Join:=⟨x.1,x.2.1⟩
def toKd(x:Int × ((Int × (Int × Unit)) × ((Int × (Int × Unit)) × Unit))):Kd:=⟨x.1,x.2.1.1,x.2.1.2.1,x.2.2.1.1,x.2.2.1.2.1⟩
theorem picked_els(pads:List (Int × (Int × Unit)))(joins:List (Int × (Int × Unit)))(kinds:List (Int × ((Int × (Int × Unit)) × ((Int × (Int × Unit)) × Unit))))(start eats:List Int)(plan:List (List Int))(wk bits:Int) :
  elsL preyPicked.Ts (((pads,joins,kinds,()),start,eats,()),plan,wk,bits,())=[dF ⟨⟨List.map toPad pads,List.map toJoin joins,List.map toKd kinds⟩,start,eats⟩,dLL plan,.v (.int .u8 wk),dW bits]:=by
 have h1:List.map dPad (List.map toPad pads)=List.map (fun y=>D.agg [dI y.1,dI y.2.1]) pads:=by rw[List.map_map]; rfl
 have h2:List.map sY (List.map toJoin joins)=List.map (fun y=>D.agg [dI y.1,dI y.2.1]) joins:=by rw[List.map_map]; rfl
 have h3:List.map dKd (List.map toKd kinds)=List.map (fun y=>D.agg [dI y.1,dI y.2.1.1,dI y.2.1.2.1,dI y.2.2.1.1,dI y.2.2.1.2.1]) kinds:=by rw[List.map_map]; rfl
 unfold dF fC
 simp only
 rw[h1,h2,h3]
 rfl
theorem man12:man (39+1) 12=none:=rfl
theorem u16_of{x:Int}(h:(Lit.int .u16 x).wf=true):0≤x∧x<65536:=by
 simp only[Lit.wf,Bool.and_eq_true,IntKind.min,IntKind.max,IntKind.signed,IntKind.bits] at h
 simp at h
 omega
theorem u8_of{x:Int}(h:(Lit.int .u8 x).wf=true):0≤x∧x<256:=by
 simp only[Lit.wf,Bool.and_eq_true,IntKind.min,IntKind.max,IntKind.signed,IntKind.bits] at h
 simp at h
 omega
theorem picked_says:preyPicked.Law:=by
 unfold preyPicked.Law Says
 intro xs hx
 refine⟨39,man12,?_⟩
 have:=picked_els xs.1.1.1 xs.1.1.2.1 xs.1.1.2.2.1 xs.1.2.1 xs.1.2.2.1 xs.2.1 xs.2.2.1 xs.2.2.2.1
 refine(congrArg (fun z=>pcR P LA 20000 man (39+1) 12 z) this).trans ?_
 have h1:=u8_of (x:=xs.2.2.1) hx.2.2.1
 have h2:=u16_of (x:=xs.2.2.2.1) hx.2.2.2.1
 obtain⟨wk,hwk⟩:∃ wk:Nat,(xs.2.2.1:Int)=(wk:Int):=⟨Int.toNat xs.2.2.1,by have:=h1.1; exact(Int.toNat_of_nonneg this).symm⟩
 obtain⟨bits,hbits⟩:∃ b:Nat,(xs.2.2.2.1:Int)=(b:Int):=⟨Int.toNat xs.2.2.2.1,by have:=h2.1; exact(Int.toNat_of_nonneg this).symm⟩
 rw[hwk] at h1
 rw[hbits] at h2
 rw[hwk,hbits]
 exact picked_law (by omega) (by omega)
end Go.Proofs.YtcjnaeimeilomaaGreat.L
end
section
open Go Go.Ev
set_option maxRecDepth 1000000
namespace Go.Proofs.YtcjnaeimeilomaaGreat.L
noncomputable def alt:Alt:=⟨G.A,G.tab.get,fun f=>Nat.beq f 16⟩
theorem awake_run:Go.Ev.runT ((calE G.P G.A (G.KK+1) G.tab.get (38+1)).call 16 [] .nil 0)=true:=by kernel_rfl
theorem tab_ok:DJ P alt.A 20000 alt.tab:=G.tab_ok
theorem awake_res:AK P 16=false:=by kernel_rfl
theorem awake_flat:ux P 16=true:=by kernel_rfl
theorem none_spec{b:Bool × Option (TypeId × Nat)}{call:List Value→Hp→Nat→Res}:lk b call (fun _=>none):=by
 intro ds d F H n vs e hx hF hv
 cases e
theorem manOk:ManOk P alt 20000 man where
 no l f h:=by
  have h:Nat.beq f 16=true:=h
  unfold man
  rw[h]
  cases Nat.beq l 39 <;> simp
 res f h:=by
  have:f=16:=Nat.eq_of_beq_eq_true h
  subst this
  exact awake_res
 yes l f p h:=by
  unfold man at h
  cases hf:Nat.beq f 16 with
  | false=>rw[hf] at h; cases h
  | true=>
   have:f=16:=Nat.eq_of_beq_eq_true hf
   subst this
   rw[hf] at h
   cases hl:Nat.beq l 39 with
   | false=>
    rw[hl] at h
    cases h
    exact none_spec
   | true=>
    have:l=39:=Nat.eq_of_beq_eq_true hl
    subst this
    rw[hl] at h
    cases h
    exact man_run awake_flat ((congrArg Go.Ev.runT (calR_alt (q:=alt) (f:=16) rfl)).trans awake_run)
theorem pickedProved:Rows.PreyPickedSaid:=preyPicked.said tab_ok manOk picked_says
end Go.Proofs.YtcjnaeimeilomaaGreat.L
end
