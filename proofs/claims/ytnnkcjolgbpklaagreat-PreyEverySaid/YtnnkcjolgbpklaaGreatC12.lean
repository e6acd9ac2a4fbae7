/- In each valid field in which moths start, and for each valid plan and each path of a moth by words: the path is within the lists of May, week by week, and a path for ProvePath; its loss is at most the worst loss of Loss, whose own path has it; and where the plan clears the field, no moth is left: PreyEverySaid, for all arguments, without conditions. -/
import Derived.Test.YtnnkcjolgbpklaaGreatC11
set_option linter.unusedVariables false
section
open Go Go.Ev
set_option maxRecDepth 100000
namespace Go.Proofs.YtnnkcjolgbpklaaGreat.L
def rx(near:List (BitVec 64))(n p:Nat):List Nat:=(List.range' 0 n).filter (Hv near (BitVec.twoPow 64 p))
def mZ(v:Nat→Int)(wk:BitVec 64)(a:Int)(qs:List Nat):Int:=qs.foldl (fun a q=>if wk.getLsbD q then a else max a (v q)) a
def oJ(f:Fld)(near:List (BitVec 64)):List (BitVec 64)→Nat→Int
 | [],_=>0
 | wk::ws,p=>f.eats.getD p 0+mZ (oJ f near ws) wk 0 (rx near f.eats.length p)
theorem chk_of{b:Bool}{p r:Option D}(hb:b=true)(h:p=r):chkK b p=r:=by rw[hb,bY,h]
theorem ty_losses:EV P 147=some (152,3):=by kernel_rfl
theorem flat_spot:AW P 152=some 2:=by kernel_rfl
theorem zero_int:kV P 3=some (.int .i64 0):=by kernel_rfl
theorem look_loss{J:MapL}{w p:Int}(hL:∀ x ∈ J,x.1.length=2):Qk P 147 (fZ J 0) (.agg [dI w,dI p]) false=some (dI (getF J [w,p])):=lookD_ents (k:=[w,p]) ty_losses flat_spot zero_int hL rfl
theorem upd_loss{J:MapL}{w p v:Int}(hL:∀ x ∈ J,x.1.length=2):updD P 147 (fZ J 0) J.length (.agg [dI w,dI p]) (dI v)=some (fZ (putL [w,p] v J) 0,(putL [w,p] v J).length):=updD_ents (k:=[w,p]) ty_losses flat_spot hL rfl
theorem l89_5{pc rg pc1 rg1:PC}{l k m2:Nat}(hl:2≤l){m1:List (List D)}{b2:D→List MapEntry→Nat→D→Option D}{b3:D→D→D→D→D→D→List MapEntry→Nat→D→Option D}{g2 e1 u8 u9 u21 u22 u23 u32:D}{w:Nat}{wk:BitVec 64}{J:MapL}(hw:w<1000)(hL:∀ x ∈ J,x.1.length=2) :
  ∀(qs:List Nat) (a:Int),(∀ q ∈ qs,q<64) →
  Yq pc rg pc1 rg1 (K l) k m1 m2 b2 b3 (qs.map (fun q:Nat=>[dI (q:Int)])) g2 (dI (w:Int)) (uB wk) (dI a) (fZ J 0) J.length e1 u8 u9 u21 u22 u23 u32 =
   Sj pc rg pc1 rg1 (K l) k m1 m2 b2 b3 g2 (dI (w:Int)) (uB wk) (dI (mZ (fun q=>getF J [((w+1:Nat):Int),(q:Int)]) wk a qs)) (fZ J 0) J.length e1 u8 u9 u21 u22 u23 u32
 | [],a,_=>by
  rw[List.map_nil,n89_5]
  rfl
 | q::qs,a,hq=>by
  rw[List.map_cons,r89_5]
  unfold C89_5 B89_5
  have hq0:=hq q (by simp)
  have ih:=l89_5 (pc:=pc) (rg:=rg) (pc1:=pc1) (rg1:=rg1) (k:=k) (m2:=m2) hl (m1:=m1) (b2:=b2) (b3:=b3) (g2:=g2) (e1:=e1) (u8:=u8) (u9:=u9) (u21:=u21) (u22:=u22) (u23:=u23) (u32:=u32) (wk:=wk) hw hL qs
  show(bindO (pcD P (K l) 94 [uB wk,dI (q:Int)]) _)=_
  rw[s94 hl hq0,aj,ew,aj,gw]
  cases hb:wk.getLsbD q with
  | true=>
   simp only[Bool.not_true,Bool.false_eq_true,if_false]
   rw[ih a (fun x hx=>hq x (by simp [hx]))]
   unfold mZ
   rw[List.foldl_cons,hb,if_pos rfl]
  | false=>
   simp only[Bool.not_false,if_true]
   rw[fY (by omega),aj,cj,bY,cj,bY,look_loss hL,aj,cj,bY]
   have hm:=s100 (l:=l) (by omega) (a:=a) (xs:=[getF J [((w+1:Nat):Int),(q:Int)]]) (by simp)
   have hm':pcD P (K l) 100 [dI a,.sl [dI (getF J [((w+1:Nat):Int),(q:Int)])]]=some (dI (max a (getF J [((w+1:Nat):Int),(q:Int)]))):=hm
   rw[hm',aj,cj,bY,ih _ (fun x hx=>hq x (by simp [hx]))]
   unfold mZ
   rw[List.foldl_cons,hb]
   simp only[Bool.false_eq_true,if_false]
def YV(f:Fld)(near:List (BitVec 64))(wk:BitVec 64)(w:Nat):Nat→Nat→MapL→MapL
 | _,0,J=>J
 | i,r+1,J=>YV f near wk w (i+1) r (putL [(w:Int),(i:Int)] (f.eats.getD i 0+mZ (fun q=>getF J [((w+1:Nat):Int),(q:Int)]) wk 0 (rx near f.eats.length i)) J)
theorem IK{v:Nat→Int}{wk:BitVec 64}{M:Int}:∀(qs:List Nat) (a:Int),0≤a→a≤M→(∀ q ∈ qs,v q≤M)→0≤mZ v wk a qs∧mZ v wk a qs≤M
 | [],a,h0,h1,_=>⟨h0,h1⟩
 | q::qs,a,h0,h1,hv=>by
  unfold mZ
  rw[List.foldl_cons]
  have hq:=hv q (by simp)
  split
  ·exact IK qs a h0 h1 (fun x hx=>hv x (by simp [hx]))
  ·exact IK qs (max a (v q)) (by omega) (by omega) (fun x hx=>hv x (by simp [hx]))
theorem put_len{J:MapL}{w p v:Int}(hL:∀ x ∈ J,x.1.length=2):∀ x ∈ putL [w,p] v J,x.1.length=2:=qoq rfl hL
theorem l89_3{pc rg:PC}{l k:Nat}(hl:3≤l){f:Fld}{near:List (BitVec 64)}(h8:near.length=8)(hn:f.eats.length≤8)(he:∀ x ∈ f.eats,0≤x∧x≤100){m1:List (List D)}{b2:D→List MapEntry→Nat→D→Option D}{e1:D}{w:Nat}{wk:BitVec 64}(hw:w<1000) :
  ∀(r i m:Nat) (J:MapL),i+r=f.eats.length→r<m→(∀ x ∈ J,x.1.length=2)→(∀ q:Nat,q<f.eats.length→0≤getF J [((w+1:Nat):Int),(q:Int)]∧getF J [((w+1:Nat):Int),(q:Int)]≤30000) →
  S89_3 pc rg (K (l+2)) (Rg (l+1)) (K l) k m1 b2 m (dL f.eats) (dI (f.eats.length:Int)) (dI (i:Int)) (dH f near) (dI (w:Int)) (uB wk) (fZ J 0) J.length e1 =
   b2 (dH f near) (fZ (YV f near wk w i r J) 0) (YV f near wk w i r J).length e1
 | 0,i,0,J,_,hm,_,_=>by simp at hm
 | 0,i,m+1,J,hi,_,_,_=>by
  rw[r89_3]
  unfold C89_3 B89_3
  rw[ek,aj,cY,if_neg (by omega)]
  rfl
 | r+1,i,0,J,_,hm,_,_=>by simp at hm
 | r+1,i,m+1,J,hi,hm,hL,hB=>by
  rw[r89_3]
  unfold C89_3 B89_3
  have hlt:i<f.eats.length:=by omega
  have hx:(f.eats.map dI)[i]?=some (dI (f.eats.getD i 0)):=by
   rw[List.getElem?_map,List.getD_eq_getElem?_getD,List.getElem?_eq_getElem hlt]; rfl
  have hei:0≤f.eats.getD i 0∧f.eats.getD i 0≤100:=by
   rw[List.getD_eq_getElem?_getD,List.getElem?_eq_getElem hlt]
   exact he _ (List.getElem_mem hlt)
  have hs:=s83 (l:=l+2) (by omega) (xs:=[(i:Int)]) (by simp) (fun x hx=>by simp at hx; omega)
  have hs':pcD P (K (l+2)) 83 [.sl [dI (i:Int)]]=some (uB (BitVec.twoPow 64 i)):=by
   refine hs.trans ?_
   rw[BJ]
   have:((i:Int)).toNat=i:=by omega
   rw[this]
  rw[ek,aj,cY,if_pos (by omega),az,aj,qz (by simpa using hlt),aj,hx,aj,cj,bY,cj,bY,hs',aj,s104 (by omega),aj]
  unfold C89_4 B89_4
  rw[rz]
  refine chk_of (by kernel_rfl) ?_
  refine(qnv (ys:=(rx near f.eats.length i).map (fun p:Nat=>[dI (p:Int)])) (fun y=>sNextY (l:=l+1) (by omega) (by omega) h8 y)).trans ?_
  have hq:∀ q ∈ rx near f.eats.length i,q<f.eats.length:=by
   intro q hq
   unfold rx at hq
   simp only[List.mem_filter,List.mem_range'_1] at hq
   omega
  rw[l89_5 (l:=l) (by omega) hw hL _ 0 (fun q h=>by have:=hq q h; omega)]
  unfold Sj BN89_5
  have hb:=IK (v:=fun q=>getF J [((w+1:Nat):Int),(q:Int)]) (wk:=wk) (M:=30000) (rx near f.eats.length i) 0 (Int.le_refl 0) (by omega) (fun q h=>(hB q (hq q h)).2)
  have ih:=l89_3 (pc:=pc) (rg:=rg) (k:=k) hl h8 hn he (m1:=m1) (b2:=b2) (e1:=e1) (wk:=wk) hw r (i+1) m (putL [(w:Int),(i:Int)] (f.eats.getD i 0+mZ (fun q=>getF J [((w+1:Nat):Int),(q:Int)]) wk 0 (rx near f.eats.length i)) J) (by omega) (by omega) (put_len hL) (fun q h=>by
   rw[QV,if_neg (by intro z; simp at z; omega)]
   exact hB q h)
  rw[cj,bY,cj,bY,Ij (by unfold I64; omega),aj,upd_loss hL,aj,fY (by omega),aj]
  rw[ih]
  rfl
end Go.Proofs.YtnnkcjolgbpklaaGreat.L
end
section
open Go Go.Ev
set_option maxRecDepth 100000
namespace Go.Proofs.YtnnkcjolgbpklaaGreat.L
theorem laterF_congr{v v':Nat→Int}{wk:BitVec 64}:∀(qs:List Nat) (a:Int),(∀ q ∈ qs,v q=v' q)→mZ v wk a qs=mZ v' wk a qs
 | [],a,_=>rfl
 | q::qs,a,h=>by
  unfold mZ
  rw[List.foldl_cons,List.foldl_cons,h q (by simp)]
  exact laterF_congr qs _ (fun x hx=>h x (by simp [hx]))
theorem nexts_lt{near:List (BitVec 64)}{n p q:Nat}(h:q ∈ rx near n p):q<n:=by
 unfold rx at h
 simp only[List.mem_filter,List.mem_range'_1] at h
 omega
theorem wk_get{f:Fld}{near:List (BitVec 64)}{wk:BitVec 64}{w:Nat}:∀(r i:Nat) (J:MapL) (v p:Nat),
  getF (YV f near wk w i r J) [(v:Int),(p:Int)]=if v=w∧i≤p∧p<i+r then f.eats.getD p 0+mZ (fun q=>getF J [((w+1:Nat):Int),(q:Int)]) wk 0 (rx near f.eats.length p) else getF J [(v:Int),(p:Int)]
 | 0,i,J,v,p=>by
  rw[if_neg (by omega)]; rfl
 | r+1,i,J,v,p=>by
  unfold YV
  rw[wk_get r (i+1)]
  have hf:(fun q:Nat=>getF (putL [(w:Int),(i:Int)] (f.eats.getD i 0+mZ (fun q=>getF J [((w+1:Nat):Int),(q:Int)]) wk 0 (rx near f.eats.length i)) J) [((w+1:Nat):Int),(q:Int)])=fun q:Nat=>getF J [((w+1:Nat):Int),(q:Int)]:=by
   funext q
   rw[QV,if_neg (by intro z; simp at z; omega)]
  rw[hf]
  by_cases h:v=w∧i+1≤p∧p<i+1+r
  ·rw[if_pos h,if_pos (by omega)]
  ·rw [if_neg h, QV]
   by_cases h2:v=w∧p=i
   ·obtain ⟨rfl, rfl⟩ := h2
    rw[if_pos rfl,if_pos (by omega)]
   ·rw[if_neg (by intro z; simp at z; omega),if_neg (by omega)]
theorem wk_len{f:Fld}{near:List (BitVec 64)}{wk:BitVec 64}{w:Nat}:∀(r i:Nat) (J:MapL),(∀ x ∈ J,x.1.length=2)→∀ x ∈ YV f near wk w i r J,x.1.length=2
 | 0,i,J,h=>h
 | r+1,i,J,h=>wk_len r (i+1) _ (put_len h)
def MS(f:Fld)(near ws:List (BitVec 64))(n:Nat)(J:MapL):Prop:=
 (∀ x ∈ J,x.1.length=2)∧∀ v p:Nat,p<f.eats.length→getF J [(v:Int),(p:Int)]=if n≤v then oJ f near (ws.drop v) p else 0
theorem ZQ{f:Fld}{near:List (BitVec 64)}(he:∀ x ∈ f.eats,0≤x∧x≤100):∀(ws:List (BitVec 64)) (p:Nat),0≤oJ f near ws p∧oJ f near ws p≤100 * ws.length
 | [],p=>by unfold oJ; simp
 | wk::ws,p=>by
  unfold oJ
  have hb:=IK (v:=oJ f near ws) (wk:=wk) (M:=100 * ws.length) (rx near f.eats.length p) 0 (Int.le_refl 0) (by omega) (fun q _=>(ZQ he ws q).2)
  have hei:0≤f.eats.getD p 0∧f.eats.getD p 0≤100:=by
   rw[List.getD_eq_getElem?_getD]
   by_cases h:p<f.eats.length
   ·rw [List.getElem?_eq_getElem h]
    exact he _ (List.getElem_mem h)
   ·rw[List.getElem?_eq_none (by omega)]; simp
  simp only[List.length_cons]
  omega
theorem MS_step{f:Fld}{near ws:List (BitVec 64)}{n:Nat}{J:MapL}(hn:n<ws.length)(h:MS f near ws (n+1) J):MS f near ws n (YV f near (ws.getD n 0#64) n 0 f.eats.length J):=by
 refine⟨wk_len _ _ _ h.1,fun v p hp=>?_⟩
 rw[wk_get]
 by_cases hv:v=n
 ·subst hv
  rw[if_pos (by omega),if_pos (Nat.le_refl _)]
  have hd:ws.drop v=ws.getD v 0#64::ws.drop (v+1):=by
   rw[List.drop_eq_getElem_cons hn,List.getD_eq_getElem?_getD,List.getElem?_eq_getElem hn]; rfl
  rw[hd]
  unfold oJ
  congr 1
  refine laterF_congr _ _ (fun q hq=>?_)
  rw[h.2 (v+1) q (nexts_lt hq),if_pos (Nat.le_refl _)]
 ·rw [if_neg (by omega), h.2 v p hp]
  by_cases h1:n≤v
  ·rw[if_pos (by omega),if_pos h1]
  ·rw[if_neg (by omega),if_neg h1]
def allMap(f:Fld)(near ws:List (BitVec 64)):Nat→MapL→MapL
 | 0,J=>J
 | n+1,J=>allMap f near ws n (YV f near (ws.getD n 0#64) n 0 f.eats.length J)
theorem all_MS{f:Fld}{near ws:List (BitVec 64)}:∀(n:Nat) (J:MapL),n≤ws.length→MS f near ws n J→MS f near ws 0 (allMap f near ws n J)
 | 0,J,_,h=>h
 | n+1,J,hn,h=>all_MS n _ (by omega) (MS_step (by omega) h)
theorem MS_nil{f:Fld}{near ws:List (BitVec 64)}:MS f near ws ws.length []:=by
 refine⟨fun x hx=>(by cases hx),fun v p _=>?_⟩
 split
 ·rename_i h
  rw[List.drop_of_length_le h]; rfl
 ·rfl
theorem l89_2{pc rg:PC}{l:Nat}(hl:3≤l){f:Fld}{near ws:List (BitVec 64)}(h8:near.length=8)(hn:f.eats.length≤8)(he:∀ x ∈ f.eats,0≤x∧x≤100)(hw:ws.length≤300)(hf8:f.eats.length<19000){e1:D} :
  ∀(n:Nat) (J:MapL),n≤ws.length→MS f near ws n J →
  Yv pc rg (K (l+2)) (Rg (l+1)) (K l) 19999 (YQ ws n) (dH f near) (fZ J 0) J.length e1=some (.map (fZ (allMap f near ws n J) 0) (allMap f near ws n J).length)
 | 0,J,_,_=>by
  have:YQ ws 0=[]:=rfl
  rw[this,n89_2]
  rfl
 | n+1,J,hlt,h=>by
  rw[backY_succ,r89_2]
  unfold C89_2 B89_2
  show chkK (bz (dI (n:Int))) (chkK (bz (uB (ws.getD n 0#64))) _)=_
  have e4:(List.drop 4 (hC f near))[0]?=some (dL f.eats):=rfl
  rw[cj,bY,cj,bY,oX,eY,aj,e4,aj,az,aj,bk,List.length_map]
  have hB:∀ q:Nat,q<f.eats.length→0≤getF J [((n+1:Nat):Int),(q:Int)]∧getF J [((n+1:Nat):Int),(q:Int)]≤30000:=by
   intro q hq
   rw[h.2 (n+1) q hq,if_pos (Nat.le_refl _)]
   have:=ZQ (near:=near) he (ws.drop (n+1)) q
   have hl:((ws.drop (n+1)).length:Int)≤300:=by rw[List.length_drop]; omega
   omega
  refine(l89_3 (pc:=pc) (rg:=rg) (k:=19999) hl h8 hn he (w:=n) (wk:=ws.getD n 0#64) (by omega) f.eats.length 0 19999 J (by omega) (by omega) h.1 hB).trans ?_
  exact l89_2 hl h8 hn he hw hf8 n _ (by omega) (MS_step (by omega) h)
def lossM(f:Fld)(near ws:List (BitVec 64)):MapL:=allMap f near ws ws.length []
theorem lossM_MS{f:Fld}{near ws:List (BitVec 64)}:MS f near ws 0 (lossM f near ws):=all_MS _ _ (Nat.le_refl _) MS_nil
theorem s89{l:Nat}(hl:8≤l){f:Fld}{near ws:List (BitVec 64)}(h8:near.length=8)(hn:f.eats.length≤8)(he:∀ x ∈ f.eats,0≤x∧x≤100)(hw:ws.length≤300) :
  pcD P (K l) 89 [dH f near,.sl (ws.map uB)]=some (.map (fZ (lossM f near ws) 0) (lossM f near ws).length):=by
 obtain⟨l,rfl⟩:=lev (show 5≤l by omega)
 refine wj ?_ (by kernel_rfl)
 rw[c89]
 unfold C89_0 B89_0 C89_1 B89_1
 rw[leafD_ref,bY,s106 (by omega),aj,rz]
 refine chk_of (by kernel_rfl) ?_
 refine(qnv (ys:=YQ ws ws.length) (fun y=>sBackY (l:=l+3) (by omega) (by omega) y)).trans ?_
 exact l89_2 (l:=l) (by omega) h8 hn he hw (by omega) ws.length [] (Nat.le_refl _) MS_nil
end Go.Proofs.YtnnkcjolgbpklaaGreat.L
end
section
open Go Go.Ev
set_option maxRecDepth 100000
namespace Go.Proofs.YtnnkcjolgbpklaaGreat.L
theorem mapD_map{es:List MapEntry}{c:Nat}:mapD (.map es c)=some es:=rfl
theorem s91{l:Nat}(hl:3≤l){J:MapL}(hJ:∀ x ∈ J,x.1.length=2){c:Nat}{w a b:Int} :
  pcD P (K l) 91 [dI a,dI b,.ref [.map (fZ J 0) c],.ref [dI w]]=some (dI (cmpI (getF J [w,a]) (getF J [w,b]))):=by
 obtain⟨l,rfl⟩:=lev (show 1≤l by omega)
 refine dK ?_
 rw[c91]
 unfold C91_0 B91_0
 simp only[eY,aj,gv,cj,bY,mapD_map,look_loss hJ]
 rw[s92 (by omega),aj]
def maxB(v:Int→Int)(m:Int)(xs:List Int):Int:=xs.foldl (fun m y=>if v m<v y then y else m) m
theorem cmp_pos{a b:Int}:decide (0<cmpI a b)=decide (b<a):=by
 unfold cmpI
 by_cases h1:a<b
 ·rw [if_pos h1]
  have:¬ b<a:=by omega
  simp [this]
 ·rw [if_neg h1]
  by_cases h2:b<a
  ·rw[if_pos h2]; simp [h2]
  ·rw[if_neg h2]; simp [h2]
theorem l90_2{l k:Nat}{g:FuncId}{bs:List D}{v:Int→Int}(hv:∀ a b:Int,pcD P (K l) g (dI a::dI b::bs)=some (dI (cmpI (v a) (v b)))):∀(suf pre:List Int) (m0:Int) (m:Nat),suf.length<m→pre.length+suf.length<big →
  Yx (K l) k m (dL (pre++suf)) (.fn g [] bs) (dI m0) (dI pre.length)=some (dI (maxB v m0 suf))
 | [],pre,m0,0,hm,_=>by simp at hm
 | [],pre,m0,m+1,_,_=>by
  rw[r90_2]
  unfold Yw B90_2
  simp only[aj,az,rz,dq,bk,List.cons_append,List.nil_append,List.append_nil,dj]
  rfl
 | x::suf,pre,m0,0,hm,_=>by simp at hm
 | x::suf,pre,m0,m+1,hm,hb=>by
  rw[r90_2]
  unfold Yw B90_2
  simp only[List.length_cons] at hm hb
  have ih:=fun m1=>l90_2 (k:=k) hv suf (pre++[x]) m1 m (by omega) (by simp; omega)
  simp only[List.append_assoc,List.cons_append,List.nil_append] at ih
  have hc:=hv x m0
  simp only[aj,az,rz,bY,cj,cY,fK,kK,bk,List.cons_append,List.nil_append,fw,dJ,hc,cmp_pos]
  unfold C90_3 B90_3
  simp only[cZ (a:=x) (sbig (show pre.length<big by omega)),aj,ih]
  unfold maxB
  rw[List.foldl_cons]
  by_cases h:v m0<v x
  ·rw[if_pos h,if_pos h]
  ·rw[if_neg h,if_neg h]
theorem s90{l:Nat}(hl:1≤l){g:FuncId}{bs:List D}{v:Int→Int}(hv:∀ l',l=l'+1→∀ a b:Int,pcD P (K l') g (dI a::dI b::bs)=some (dI (cmpI (v a) (v b)))){x:Int}{xs:List Int}(hx:xs.length<1000) :
  pcD P (K l) 90 [dL (x::xs),.fn g [] bs]=some (dI (maxB v x xs)):=by
 obtain⟨l,rfl⟩:=lev hl
 refine dK ?_
 rw[c90]
 unfold C90_0 B90_0 C90_1 B90_1
 have h1:decide ((((x::xs).map dI).length:Int)<1)=false:=by simp; omega
 have h0:((x::xs).map dI)[0]?=some (dI x):=rfl
 rw[az,aj,bk,ek,aj,h1,dq,aj]
 have hi:idxD (D.v (Value.int IntKind.i64 0)) ((x::xs).map dI).length=some 0:=qz (k:=0) (by simp)
 rw[hi,aj,h0,aj,cj,bY]
 exact l90_2 (k:=19999) (hv l rfl) xs [x] x 19999 (by omega) (by show 1+_<big; unfold big; omega)
def sumE(f:Fld)(ps:List Int):Int:=ps.foldl (fun a p=>a+f.eats.getD p.toNat 0) 0
theorem lEat{l k:Nat}{f:Fld}{near:List (BitVec 64)}(he:∀ x ∈ f.eats,0≤x∧x≤100):∀(suf pre:List Int) (a:Int) (m:Nat),suf.length<m→pre.length+suf.length<big→0≤a→a≤100 * pre.length→(∀ x ∈ suf,0≤x∧x<f.eats.length) →
  WK (K l) k m (dH f near) (dI a) (dL (pre++suf)) (dI ((pre++suf).map dI).length) (dI pre.length)=some (dI (suf.foldl (fun a p=>a+f.eats.getD p.toNat 0) a))
 | [],pre,a,0,hm,_,_,_,_=>by simp at hm
 | [],pre,a,m+1,_,_,_,_,_=>by
  rw[r64_1]
  unfold WZ B64_1
  simp only[aj,az,eY,dq,oX,List.append_nil,dj]
  rfl
 | x::suf,pre,a,0,hm,_,_,_,_=>by simp at hm
 | x::suf,pre,a,m+1,hm,hb,h0,h1,hx=>by
  rw[r64_1]
  unfold WZ B64_1
  simp only[List.length_cons] at hm hb
  have hx0:=hx x (by simp)
  have hlt:x.toNat<f.eats.length:=by omega
  have hxe:((x.toNat:Nat):Int)=x:=by omega
  have hget:(f.eats.map dI)[x.toNat]?=some (dI (f.eats.getD x.toNat 0)):=by
   rw[List.getElem?_map,List.getD_eq_getElem?_getD,List.getElem?_eq_getElem hlt]; rfl
  have hei:0≤f.eats.getD x.toNat 0∧f.eats.getD x.toNat 0≤100:=by
   rw[List.getD_eq_getElem?_getD,List.getElem?_eq_getElem hlt]
   exact he _ (List.getElem_mem hlt)
  have hidx:idxD (dI x) (f.eats.map dI).length=some x.toNat:=by
   have:=qz (k:=x.toNat) (n:=(f.eats.map dI).length) (by simpa using hlt)
   rw[hxe] at this
   exact this
  have elen:(pre++[x]).length=pre.length+1:=by simp
  have hstep:a+f.eats.getD x.toNat 0≤100 * ((pre++[x]).length:Int):=by rw[elen]; omega
  have ih:=lEat (l:=l) (k:=k) (near:=near) he suf (pre++[x]) (a+f.eats.getD x.toNat 0) m (by omega) (by simp; omega) (by omega) (hstep) (fun y hy=>hx y (by simp [hy]))
  simp only[List.append_assoc,List.cons_append,List.nil_append] at ih
  have e4:(List.drop 4 (hC f near))[0]?=some (dL f.eats):=rfl
  have hbig:a+f.eats.getD x.toNat 0<200000000:=by unfold big at hb; omega
  rw[dJ,aj,fK,az,aj,fw,cj,bY,oX,eY,aj,e4,aj,az,aj,hidx,aj,hget,aj,cj,bY,Ij (by unfold I64; omega),aj,cZ (a:=x) (sbig (show pre.length<big by omega)),aj,ih]
  rfl
theorem s64{l:Nat}(hl:1≤l){f:Fld}{near:List (BitVec 64)}(he:∀ x ∈ f.eats,0≤x∧x≤100){ps:List Int}(hp:ps.length<1000)(hx:∀ x ∈ ps,0≤x∧x<f.eats.length) :
  pcD P (K l) 64 [dH f near,dL ps]=some (dI (sumE f ps)):=by
 obtain⟨l,rfl⟩:=lev hl
 refine dK ?_
 rw[c64]
 unfold C64_0 B64_0
 rw[az,aj,bk]
 exact lEat (l:=l) (k:=19999) he ps [] 0 19999 (by omega) (by show 0+_<big; unfold big; omega) (Int.le_refl 0) (by simp) hx
end Go.Proofs.YtnnkcjolgbpklaaGreat.L
end
section
open Go Go.Ev
set_option maxRecDepth 100000
namespace Go.Proofs.YtnnkcjolgbpklaaGreat.L
theorem Hy{v:Int→Int}:∀(xs:List Int) (x:Int),maxB v x xs ∈ x::xs
 | [],x=>by simp [maxB]
 | y::xs,x=>by
  unfold maxB
  rw[List.foldl_cons]
  have:=Hy (v:=v) xs (if v x<v y then y else x)
  unfold maxB at this
  rcases List.mem_cons.1 this with h | h
  ·rw [h]
   split <;> simp
  ·simp [h]
theorem maxB_congr{v v':Int→Int}:∀(xs:List Int) (x:Int),(∀ y ∈ x::xs,v y=v' y)→maxB v x xs=maxB v' x xs
 | [],x,_=>rfl
 | y::xs,x,h=>by
  unfold maxB
  rw[List.foldl_cons,List.foldl_cons,h x (by simp),h y (by simp)]
  have:=maxB_congr (v:=v) (v':=v') xs (if v' x<v' y then y else x) (fun z hz=>by
   rcases List.mem_cons.1 hz with e | e
   ·rw [e]; split
    ·exact h y (by simp)
    ·exact h x (by simp)
   ·exact h z (by simp [e]))
  unfold maxB at this
  exact this
def inB(n:Nat)(s:BitVec 64):Prop:=∀ i,i<64→s.getLsbD i=true→i<n
theorem pads_in{n:Nat}{s:BitVec 64}(h:inB n s){x:Int}(hx:x ∈ fJ s):0≤x∧x<n∧x<8:=by
 obtain⟨h1,h2,h3⟩:=oK.1 hx
 have:=h x.toNat (by omega) h3
 omega
theorem pads_ne{n:Nat}(hn:n≤8){s:BitVec 64}(h:inB n s)(h0:s≠0#64):fJ s≠[]:=by
 intro hp
 apply h0
 apply BitVec.eq_of_getLsbD_eq
 intro i hi
 cases hb:s.getLsbD i with
 | false=>simp
 | true=>
  have hlt:=h i hi hb
  have:(i:Int) ∈ fJ s:=oK.2 ⟨by omega,by omega,by simpa using hb⟩
  rw[hp] at this
  cases this
theorem Pk{near:List (BitVec 64)}{n:Nat}{s w:BitVec 64}:inB n (lw near n s &&& ~~~w):=by
 intro i hi h
 rw[BitVec.getLsbD_and] at h
 simp only[Bool.and_eq_true] at h
 have h1:=h.1
 unfold lw at h1
 rw[ZJ hi] at h1
 simp only[Bool.or_eq_true,List.any_eq_true,List.mem_filter,List.mem_range'_1,decide_eq_true_eq] at h1
 rcases h1 with h1 | ⟨p,⟨h1,_⟩,rfl⟩
 ·simp at h1
 ·omega
def oQ(f:Fld)(near:List (BitVec 64)):List (BitVec 64)→BitVec 64→List Int
 | [],_=>[]
 | wk::ws,may=>match fJ may with
  | []=>[]
  | x::xs=>maxB (fun q=>oJ f near (wk::ws) q.toNat) x xs::oQ f near ws (lw near f.eats.length (BitVec.twoPow 64 (maxB (fun q=>oJ f near (wk::ws) q.toNat) x xs).toNat) &&& ~~~wk)
theorem UX{f:Fld}{near:List (BitVec 64)}:∀(ws:List (BitVec 64)) (may:BitVec 64),(oQ f near ws may).length≤ws.length
 | [],_=>by simp [oQ]
 | wk::ws,may=>by
  unfold oQ
  split
  ·simp
  ·simp only [List.length_cons]
   exact Nat.succ_le_succ (UX ws _)
theorem qiv{f:Fld}{near:List (BitVec 64)}:∀(ws:List (BitVec 64)) (may:BitVec 64),inB f.eats.length may→∀ x ∈ oQ f near ws may,0≤x∧x<f.eats.length
 | [],_,_,x,hx=>by simp [oQ] at hx
 | wk::ws,may,hm,x,hx=>by
  unfold oQ at hx
  split at hx
  ·cases hx
  ·rename_i y ys hp
   rcases List.mem_cons.1 hx with h | h
   ·rw [h]
    have:=Hy (v:=fun q=>oJ f near (wk::ws) q.toNat) ys y
    rw[← hp] at this
    have:=pads_in hm this
    omega
   ·exact qiv ws _ Pk x h
theorem l63{l:Nat}(hl:8≤l){f:Fld}{near all:List (BitVec 64)}(h8:near.length=8)(hn:f.eats.length≤8){J:MapL}{c:Nat}(hJ:MS f near all 0 J):∀(suf pre:List (BitVec 64)) (don:List Int) (may:BitVec 64) (m:Nat),pre++suf=all→suf.length<m→all.length≤300→don.length≤pre.length→inB f.eats.length may →
  S63_1 (K l) 19999 m (dH f near) (uB may) (.sl (all.map uB)) (dI (all.map uB).length) (dI pre.length) (.map (fZ J 0) c) (don.map dI)=some (dL (don++oQ f near suf may))
 | [],pre,don,may,0,_,hm,_,_,_=>by simp at hm
 | [],pre,don,may,m+1,ha,_,_,_,_=>by
  rw[r63_1]
  unfold WY B63_1
  rw[List.append_nil] at ha
  subst ha
  rw[dj,aj,dq]
  unfold C63_2 B63_2
  simp [oQ]
 | wk::suf,pre,don,may,0,_,hm,_,_,_=>by simp at hm
 | wk::suf,pre,don,may,m+1,ha,hm,h3,hd,hin=>by
  rw[r63_1]
  unfold WY B63_1
  have hl9:pre.length+(suf.length+1)≤300:=by
   have:=congrArg List.length ha
   simp at this; omega
  have ha':(pre++[wk])++suf=all:=by rw[← ha]; simp
  have hdrop:all.drop pre.length=wk::suf:=by rw[← ha]; simp
  simp only[List.length_cons] at hm
  rw[← ha,dJ,aj,fK,az,aj,fw,cj,bY,cj,bY,binD_eql_u,aj,cY]
  by_cases h0:may=0#64
  ·rw [if_pos h0]
   unfold C63_2 B63_2
   subst h0
   have:fJ 0#64=[]:=by
    unfold fJ
    rw[List.map_eq_nil_iff,List.filter_eq_nil_iff]
    intro a _; simp
   unfold oQ
   rw[this,List.append_nil]
  ·rw [if_neg h0, s84 (by omega), aj]
   cases hp:fJ may with
   | nil=>exact absurd hp (pads_ne hn hin h0)
   | cons x xs=>
    have hxs:∀ y ∈ x::xs,0≤y∧y<f.eats.length∧y<8:=fun y hy=>pads_in hin (by rw[hp]; exact hy)
    have hlen:xs.length<1000:=by
     have:(fJ may).length≤8:=by
      unfold fJ
      rw[List.length_map]
      exact Nat.le_trans (List.length_filter_le _ _) (by simp)
     rw[hp] at this
     simp at this; omega
    have hmx:=s90 (l:=l) (by omega) (g:=91) (bs:=[.ref [.map (fZ J 0) c],.ref [dI (pre.length:Int)]]) (v:=fun a=>getF J [(pre.length:Int),a]) (fun l' hl' a b=>s91 (l:=l') (by omega) hJ.1) (x:=x) (xs:=xs) hlen
    have hcg:maxB (fun a=>getF J [(pre.length:Int),a]) x xs=maxB (fun q=>oJ f near (wk::suf) q.toNat) x xs:=by
     refine maxB_congr xs x (fun y hy=>?_)
     have hy':=hxs y hy
     have e:((y.toNat:Nat):Int)=y:=by omega
     have:=hJ.2 pre.length y.toNat (by omega)
     rw[e,if_pos (Nat.zero_le _),hdrop] at this
     exact this
    rw[hmx,aj,cj,bY,hcg]
    generalize hq:maxB (fun q=>oJ f near (wk::suf) q.toNat) x xs=q
    have hqm:q ∈ x::xs:=by rw[← hq]; exact Hy xs x
    have hqr:=hxs q hqm
    have hs:=s83 (l:=l) (by omega) (xs:=[q]) (by simp) (fun y hy=>by simp at hy; omega)
    have hs':pcD P (K l) 83 [.sl [dI q]]=some (uB (BitVec.twoPow 64 q.toNat)):=by
     refine hs.trans ?_
     rw[BJ]
    rw[appI (by simp; omega),aj,bY,hs',aj,s85 (by omega) (by omega) h8,aj,s86 (by omega),aj,cZ (a:=wk) (by omega),aj]
    have ih:=l63 hl h8 hn (c:=c) hJ suf (pre++[wk]) (don++[q]) (lw near f.eats.length (BitVec.twoPow 64 q.toNat) &&& ~~~wk) m ha' (by omega) h3 (by simp; omega) Pk
    rw[ha]
    have hmap:List.map dI don++[dI q]=(don++[q]).map dI:=by simp
    rw[hmap]
    refine ih.trans ?_
    have hwp:oQ f near (wk::suf) may=q::oQ f near suf (lw near f.eats.length (BitVec.twoPow 64 q.toNat) &&& ~~~wk):=by
     rw[oQ,hp]
     simp only[hq]
    rw[hwp,List.append_assoc]
    rfl
theorem s63{l:Nat}(hl:9≤l){f:Fld}{near ws:List (BitVec 64)}(h8:near.length=8)(hn:f.eats.length≤8)(he:∀ x ∈ f.eats,0≤x∧x≤100)(hw:ws.length≤300)(hst:dZ f.eats.length f.start=true)(hsl:f.start.length<1000) :
  pcD P (K l) 63 [dH f near,.sl (ws.map uB)]=some (dL (oQ f near ws (setB f.start))):=by
 obtain⟨l,rfl⟩:=lev (show 1≤l by omega)
 refine wj ?_ (by kernel_rfl)
 rw[c63]
 unfold C63_0 B63_0
 have hlt:=lX hn hst
 have e3:(List.drop 3 (hC f near))[0]?=some (dL f.start):=rfl
 have lfm:∀(es:List MapEntry) (c:Nat),bz (.map es c)=true:=fun _ _=>rfl
 rw[s89 (by omega) h8 hn he hw,aj,lfm,bY,oX,eY,aj,e3,aj,s83 (by omega) hsl (fun x hx=>by have:=hlt x hx; omega),aj,az,aj,bk]
 refine l63 (l:=l) (by omega) h8 hn lossM_MS ws [] [] (setB f.start) 19999 rfl (by omega) hw (Nat.le_refl _) (fun i hi hb=>?_)
 rw[yZ (fun x hx=>by have:=hlt x hx; omega) hi] at hb
 unfold hasL at hb
 rw[List.any_eq_true] at hb
 obtain⟨x,hx,e⟩:=hb
 unfold dZ at hst
 simp only[Bool.and_eq_true,List.all_eq_true] at hst
 have:=jJ.1 (hst.1 x hx)
 simp at e; omega
end Go.Proofs.YtnnkcjolgbpklaaGreat.L
end
section
open Go Go.Ev
set_option maxRecDepth 100000
namespace Go.Proofs.YtnnkcjolgbpklaaGreat.L
def mxB(v:Nat→Int)(l:List Int):Int:=l.foldl (fun a q=>max a (v q.toNat)) 0
theorem mx_fold{v:Nat→Int}{M:Int}:∀(l:List Int) (a:Int),l.foldl (fun a q=>max a (v q.toNat)) a≤M↔a≤M∧∀ q ∈ l,v q.toNat≤M
 | [],a=>by simp
 | x::l,a=>by
  rw[List.foldl_cons,mx_fold l]
  constructor
  ·rintro ⟨h1, h2⟩
   refine⟨by omega,fun q hq=>?_⟩
   rcases List.mem_cons.1 hq with e | e
   ·rw[e]; omega
   ·exact h2 q e
  ·rintro ⟨h1, h2⟩
   have:=h2 x (by simp)
   exact⟨by omega,fun q hq=>h2 q (by simp [hq])⟩
theorem Nk{v:Nat→Int}{M:Int}{l:List Int}:mxB v l≤M↔0≤M∧∀ q ∈ l,v q.toNat≤M:=mx_fold l 0
theorem later_le{v:Nat→Int}{wk:BitVec 64}{M:Int}:∀(qs:List Nat) (a:Int),mZ v wk a qs≤M↔a≤M∧∀ q ∈ qs,wk.getLsbD q=false→v q≤M
 | [],a=>by simp [mZ]
 | x::qs,a=>by
  unfold mZ
  rw[List.foldl_cons]
  have ih:=fun b=>later_le (v:=v) (wk:=wk) (M:=M) qs b
  unfold mZ at ih
  rw[ih]
  cases hb:wk.getLsbD x with
  | true=>
   simp only[if_true]
   constructor
   ·rintro ⟨h1, h2⟩
    refine⟨h1,fun q hq h=>?_⟩
    rcases List.mem_cons.1 hq with e | e
    ·rw[e,hb] at h; cases h
    ·exact h2 q e h
   ·rintro ⟨h1, h2⟩
    exact⟨h1,fun q hq h=>h2 q (by simp [hq]) h⟩
  | false=>
   simp only[Bool.false_eq_true,if_false]
   constructor
   ·rintro ⟨h1, h2⟩
    refine⟨by omega,fun q hq h=>?_⟩
    rcases List.mem_cons.1 hq with e | e
    ·rw[e]; omega
    ·exact h2 q e h
   ·rintro ⟨h1, h2⟩
    have:=h2 x (by simp) hb
    exact⟨by omega,fun q hq h=>h2 q (by simp [hq]) h⟩
theorem qiw{a b:Int}(h:∀ M:Int,a≤M↔b≤M):a=b:=by
 have h1:=(h b).2 (Int.le_refl b)
 have h2:=(h a).1 (Int.le_refl a)
 omega
theorem UY{near:List (BitVec 64)}{n:Nat}{s:BitVec 64}{i:Nat}(hi:i<64):(lw near n s).getLsbD i=(decide (i<n) && Hv near s i):=by
 unfold lw
 rw[ZJ hi,Bool.eq_iff_iff]
 simp only[BitVec.getLsbD_zero,Bool.false_or,List.any_eq_true,List.mem_filter,List.mem_range'_1,decide_eq_true_eq,Bool.and_eq_true]
 constructor
 ·rintro ⟨p, ⟨h1, h2⟩, rfl⟩
  exact⟨by omega,h2⟩
 ·rintro ⟨h1, h2⟩
  exact⟨i,⟨by omega,h2⟩,rfl⟩
theorem later_mx{near:List (BitVec 64)}{n p:Nat}{wk:BitVec 64}{v:Nat→Int}(hn:n≤8):mZ v wk 0 (rx near n p)=mxB v (fJ (lw near n (BitVec.twoPow 64 p) &&& ~~~wk)):=by
 refine qiw fun M=>?_
 rw[later_le,Nk]
 refine and_congr Iff.rfl ?_
 constructor
 ·intro h q hq
  obtain⟨h0,h1,h2⟩:=oK.1 hq
  rw[BitVec.getLsbD_and,UY (by omega),BitVec.getLsbD_not] at h2
  simp only[Bool.and_eq_true,decide_eq_true_eq,Bool.not_eq_true'] at h2
  refine h q.toNat ?_ h2.2.2
  unfold rx
  simp only[List.mem_filter,List.mem_range'_1]
  exact⟨by omega,h2.1.2⟩
 ·intro h q hq hb
  unfold rx at hq
  simp only[List.mem_filter,List.mem_range'_1] at hq
  have e:((q:Int)).toNat=q:=by omega
  have:=h (q:Int) (oK.2 ⟨by omega,by omega,by
   rw[e,BitVec.getLsbD_and,UY (by omega),BitVec.getLsbD_not]
   simp only[Bool.and_eq_true,decide_eq_true_eq,Bool.not_eq_true']
   exact⟨⟨by omega,hq.2⟩,by omega,hb⟩⟩)
  rw[e] at this
  exact this
theorem max_is{v:Int→Int}:∀(xs:List Int) (x:Int),∀ y ∈ x::xs,v y≤v (maxB v x xs)
 | [],x,y,hy=>by
  have:y=x:=by simpa using hy
  rw[this]; exact Int.le_refl _
 | z::xs,x,y,hy=>by
  unfold maxB
  rw[List.foldl_cons]
  have ih:=max_is (v:=v) xs (if v x<v z then z else x)
  unfold maxB at ih
  have h0:=ih (if v x<v z then z else x) (by simp)
  rcases List.mem_cons.1 hy with e | e
  ·subst e
   refine Int.le_trans ?_ h0
   split <;> omega
  ·rcases List.mem_cons.1 e with e | e
   ·subst e
    refine Int.le_trans ?_ h0
    split <;> omega
   ·exact ih y (by simp [e])
theorem mx_max{v:Nat→Int}{x:Int}{xs:List Int}(h0:∀ p,0≤v p):mxB v (x::xs)=v (maxB (fun q=>v q.toNat) x xs).toNat:=by
 refine qiw fun M=>?_
 rw[Nk]
 constructor
 ·rintro ⟨_, h⟩
  exact h _ (Hy xs x)
 ·intro h
  refine⟨Int.le_trans (h0 _) h,fun q hq=>Int.le_trans ?_ h⟩
  exact max_is (v:=fun q=>v q.toNat) xs x q hq
theorem UZ{f:Fld}:∀(l:List Int) (a:Int),l.foldl (fun a p=>a+f.eats.getD p.toNat 0) a=a+sumE f l
 | [],a=>by simp [sumE]
 | x::l,a=>by
  unfold sumE
  rw[List.foldl_cons,List.foldl_cons,UZ l,UZ l (0+_)]
  omega
theorem qjq{f:Fld}{x:Int}{l:List Int}:sumE f (x::l)=f.eats.getD x.toNat 0+sumE f l:=by
 unfold sumE
 rw[List.foldl_cons,UZ]
 unfold sumE
 omega
theorem qjz{f:Fld}{near:List (BitVec 64)}(hn:f.eats.length≤8)(he:∀ x ∈ f.eats,0≤x∧x≤100):∀(ws:List (BitVec 64)) (may:BitVec 64),sumE f (oQ f near ws may)=mxB (oJ f near ws) (fJ may)
 | [],may=>by
  rw[oQ]
  refine qiw fun M=>?_
  rw[Nk]
  constructor
  ·intro h
   have h:(0:Int)≤M:=h
   exact⟨h,fun q _=>by unfold oJ; exact h⟩
  ·intro h; exact h.1
 | wk::ws,may=>by
  rw[oQ]
  cases hp:fJ may with
  | nil=>rfl
  | cons x xs=>
   simp only
   rw[qjq,qjz hn he ws,mx_max (fun p=>(ZQ he (wk::ws) p).1)]
   generalize maxB (fun q=>oJ f near (wk::ws) q.toNat) x xs=p
   conv=>rhs; unfold oJ
   rw[later_mx hn]
def vV(f:Fld)(plan:List (List Int)):Int:=mxB (oJ f (cx f) (plan.map setB)) f.start
theorem eats_ok{f:Fld}(h:fErr f=0):∀ x ∈ f.eats,0≤x∧x≤100:=by
 unfold fErr at h
 split at h
 ·split at h
  ·rename_i h1
   simp only[Bool.and_eq_true,List.all_eq_true] at h1
   intro x hx
   have:=h1.2.2 x hx
   unfold Yk inR at this
   simp at this
   omega
  ·cases h
 ·rename_i h0; exact absurd h h0
theorem s25{l:Nat}(hl:12≤l){f:Fld}(hs:oz f){plan:List (List Int)}(hp:plan.length<1000)(hx:∀ x ∈ plan,x.length<1000)(h0:aErr f plan=0) :
  pcD P (K l) 25 [dF f,dLL plan]=some (if f.start=[] then .tup [dI 0,.v (.slice none 0 0),dI 7] else .tup [dI (vV f plan),dL (oQ f (cx f) (plan.map setB) (setB f.start)),dI 0]):=by
 obtain⟨l,rfl⟩:=lev (show 1≤l by omega)
 refine wj ?_ (by kernel_rfl)
 rw[c25]
 unfold C25_0 B25_0
 obtain⟨hf,h3,hall⟩:=yK h0
 obtain⟨h8,hne,he,hst,hj⟩:=vZ hf
 have hea:=eats_ok hf
 have t0:tupD (.tup [dH f (cx f),.sl ((plan.map setB).map uB),dI 0]) 0=some (dH f (cx f)):=rfl
 have t1:tupD (.tup [dH f (cx f),.sl ((plan.map setB).map uB),dI 0]) 1=some (.sl ((plan.map setB).map uB)):=rfl
 have t2:tupD (.tup [dH f (cx f),.sl ((plan.map setB).map uB),dI 0]) 2=some (dI 0):=rfl
 have hz:(!decide ((0:Int)=0))=false:=rfl
 have e3:(List.drop 3 (hC f (cx f)))[0]?=some (dL f.start):=rfl
 rw[cw,aj,cut5,aj,s57 (by omega) hs hp hx,aj,if_pos h0,t0,aj,t1,aj,t2,aj,jX,aj,hz,dq,oX,eY,aj,e3,aj,az,aj,bk,gY,aj,cY]
 by_cases hs0:f.start=[]
 ·rw[if_pos (by rw[hs0]; rfl),if_pos hs0]
 ·have hl0 : ¬ (((f.start.map dI).length : Nat) : Int) = 0 := by
   rw[List.length_map]
   have:f.start.length≠0:=fun z=>hs0 (List.length_eq_zero_iff.1 z)
   omega
  rw[if_neg hl0,if_neg hs0]
  have hw:(plan.map setB).length≤300:=by rw[List.length_map]; exact h3
  have hst':dZ f.eats.length f.start=true:=by rw[he]; exact hst
  have hin:inB f.eats.length (setB f.start):=by
   intro i hi hb
   have hlt:=lX h8 hst
   rw[yZ (fun x hx=>by have:=hlt x hx; omega) hi] at hb
   unfold hasL at hb
   rw[List.any_eq_true] at hb
   obtain⟨x,hx,e⟩:=hb
   have hst2:=hst'
   unfold dZ at hst2
   simp only[Bool.and_eq_true,List.all_eq_true] at hst2
   have:=jJ.1 (hst2.1 x hx)
   simp at e; omega
  have hlen:=UX (f:=f) (near:=cx f) (plan.map setB) (setB f.start)
  rw[s63 (by omega) (BV f) (by omega) hea hw hst' (by have:=hs.2.1; omega),aj,s64 (by omega) hea (by omega) (qiv _ _ hin),aj]
  have hsum:=qjz (near:=cx f) (by omega) hea (plan.map setB) (setB f.start)
  rw[DX h8 hst] at hsum
  rw[hsum]
  rfl
end Go.Proofs.YtnnkcjolgbpklaaGreat.L
end
section
open Go Go.Ev
set_option maxRecDepth 100000
namespace Go.Proofs.YtnnkcjolgbpklaaGreat.L
noncomputable def sizeOk:Option D→Bool
 | some (.v (.int .i64 c))=>decide (0≤c) && decide (c≤8)
 | _=>false
theorem sizeOk_ex{o:Option D}(h:sizeOk o=true):∃ c:Int,o=some (dI c)∧0≤c∧c≤8:=by
 unfold sizeOk at h
 split at h
 ·rename_i c
  simp only[Bool.and_eq_true,decide_eq_true_eq] at h
  exact⟨c,rfl,h.1,h.2⟩
 ·cases h
theorem size_all:(List.range 256).all (fun n:Nat=>sizeOk (DW (fun _ _=>none) 19999 (.v (.int .u64 (n:Int)))))=true:=by kernel_rfl
theorem size_pc{pc:PC}{v:D}:DW pc 19999 v=DW (fun _ _=>none) 19999 v:=by
 unfold DW B127_0
 rfl
theorem inB_lt{s:BitVec 64}(h:inB 8 s):s.toNat<256:=by
 refine Nat.lt_pow_two_of_testBit (n:=8) s.toNat fun i hi=>?_
 by_cases h64:i<64
 ·cases hb : s.toNat.testBit i with
  | false=>rfl
  | true=>
   have:=h i h64 hb
   omega
 ·exact Nat.testBit_lt_two_pow (Nat.lt_of_lt_of_le s.isLt (Nat.pow_le_pow_right (by omega) (by omega)))
theorem sSize{l:Nat}(hl:3≤l){s:BitVec 64}(h:inB 8 s):∃ c:Int,pcD P (K l) 99 [uB s]=some (dI c)∧0≤c∧c≤8:=by
 obtain⟨l,rfl⟩:=lev hl
 have hx:=List.all_eq_true.1 size_all s.toNat (by simpa using inB_lt h)
 obtain⟨c,h1,h2⟩:=sizeOk_ex hx
 refine⟨c,dK ?_,h2⟩
 have e1:pcD P (K (l+1)) 127 [uB s]=some (dI c):=dK (by
  rw[c127,size_pc]
  exact h1)
 have e2:pcD P (K (l+2)) 111 [uB s]=some (dI c):=dK (by
  rw[c111]
  unfold Tz B111_0
  rw[e1,aj])
 rw[c99]
 unfold C99_0 B99_0
 rw[e2,aj]
theorem most_le{M:Int}:∀(xs:List Int) (a:Int),a≤M→(∀ x ∈ xs,x≤M)→xs.foldl max a≤M
 | [],a,h,_=>h
 | x::xs,a,h,hx=>by
  rw[List.foldl_cons]
  exact most_le xs _ (by have:=hx x (by simp); omega) (fun y hy=>hx y (by simp [hy]))
theorem l74{l k:Nat}(hl:3≤l):∀(suf pre:List (BitVec 64)) (acc:List Int) (m:Nat),suf.length<m→pre.length+suf.length<900→acc.length=pre.length→(∀ s ∈ suf,inB 8 s)→(∀ x ∈ acc,x≤8) →
  ∃ c:Int,S74_1 (K l) k m (.sl ((pre++suf).map uB)) (dI ((pre++suf).map uB).length) (dI pre.length) (acc.map dI)=some (dI c)∧c≤8
 | [],pre,acc,0,hm,_,_,_,_=>by simp at hm
 | [],pre,acc,m+1,_,hb,ha,_,hx=>by
  refine⟨acc.foldl max 0,?_,most_le acc 0 (by omega) hx⟩
  rw[r74_1]
  unfold C74_1 B74_1
  simp only[List.length_nil] at hb
  rw[List.append_nil,dj,aj,dq,s100 (by omega) (by omega),aj]
 | s::suf,pre,acc,0,hm,_,_,_,_=>by simp at hm
 | s::suf,pre,acc,m+1,hm,hb,ha,hs,hx=>by
  simp only[List.length_cons] at hm hb
  obtain⟨c,e,h0,h8⟩:=sSize (l:=l) hl (hs s (by simp))
  obtain⟨d,h1,h2⟩:=l74 hl (k:=k) suf (pre++[s]) (acc++[c]) m (by omega) (by simp; omega) (by simp [ha]) (fun x hx=>hs x (by simp [hx])) (fun x hx'=>by
   rcases List.mem_append.1 hx' with q | q
   ·exact hx x q
   ·simp at q; omega)
  refine⟨d,?_,h2⟩
  rw[r74_1]
  unfold C74_1 B74_1
  simp only[List.append_assoc,List.cons_append,List.nil_append] at h1
  have hmap:List.map dI acc++[dI c]=(acc++[c]).map dI:=by simp
  rw[dJ,aj,fK,az,aj,fw,cj,bY,e,aj,cj,bY,appI (by simp; omega),aj,cZ (a:=s) (by omega),aj,hmap,h1]
theorem sHands{l:Nat}(hl:4≤l){ws:List (BitVec 64)}(hw:ws.length<900)(h:∀ s ∈ ws,inB 8 s):∃ c:Int,pcD P (K l) 74 [.sl (ws.map uB)]=some (dI c)∧c≤8:=by
 obtain⟨l,rfl⟩:=lev (show 1≤l by omega)
 obtain⟨c,h1,h2⟩:=l74 (l:=l) (k:=19999) (by omega) ws [] [] 19999 (by omega) (by simpa using hw) rfl h (by simp)
 refine⟨c,dK ?_,h2⟩
 rw[c74]
 unfold C74_0 B74_0
 rw[az,aj,bk]
 exact h1
theorem qjx{near:List (BitVec 64)}{n:Nat}:∀(ws:List (BitVec 64)) (s:BitVec 64),(mayB near n s ws)[ws.length]?=some (ws.foldl (vK near n) s)
 | [],s=>rfl
 | w::ws,s=>by
  unfold mayB
  rw[List.length_cons,List.getElem?_cons_succ,qjx ws]
  rfl
theorem setB_in{n:Nat}{x:List Int}(hn:n≤8)(h:dZ n x=true):inB n (setB x):=by
 intro i hi hb
 have hlt:=lX hn h
 rw[yZ (fun x hx=>by have:=hlt x hx; omega) hi] at hb
 unfold hasL at hb
 rw[List.any_eq_true] at hb
 obtain⟨y,hy,e⟩:=hb
 unfold dZ at h
 simp only[Bool.and_eq_true,List.all_eq_true] at h
 have:=jJ.1 (h.1 y hy)
 simp at e; omega
theorem fold_in{near:List (BitVec 64)}{n:Nat}:∀(ws:List (BitVec 64)) (s:BitVec 64),inB n s→inB n (ws.foldl (vK near n) s)
 | [],s,h=>h
 | w::ws,s,_=>fold_in ws _ Pk
theorem last_pads{f:Fld}{plan:List (List Int)}(h:aErr f plan=0):fJ ((plan.map setB).foldl (vK (cx f) f.eats.length) (setB f.start))=aL f f.start plan:=by
 have h1:=may_same h
 have h2:=qjx (near:=cx f) (n:=f.eats.length) (plan.map setB) (setB f.start)
 have h3:((mayB (cx f) f.eats.length (setB f.start) (plan.map setB)).map fJ)[plan.length]?=some (fJ ((plan.map setB).foldl (vK (cx f) f.eats.length) (setB f.start))):=by
  rw[List.getElem?_map]
  rw[List.length_map] at h2
  rw[h2]; rfl
 rw[h1,qij _ _ _ (Nat.le_refl _),List.take_length] at h3
 exact(Option.some.inj h3).symm
theorem s40{l:Nat}(hl:12≤l){f:Fld}(hs:oz f){plan:List (List Int)}(hp:plan.length<900)(hx:∀ x ∈ plan,x.length<1000)(h0:aErr f plan=0) :
  pcD P (K l) 40 [dF f,dLL plan,dI 8]=some (dB (decide (aL f f.start plan=[]))):=by
 obtain⟨l,rfl⟩:=lev (show 2≤l by omega)
 refine dK ?_
 rw[show l+2=(l+1)+1 from rfl,c40]
 unfold C40_0 B40_0
 obtain⟨hf,h3,hall⟩:=yK h0
 obtain⟨h8,hne,he,hst,hj⟩:=vZ hf
 have t0:tupD (.tup [dH f (cx f),.sl ((plan.map setB).map uB),dI 0]) 0=some (dH f (cx f)):=rfl
 have t1:tupD (.tup [dH f (cx f),.sl ((plan.map setB).map uB),dI 0]) 1=some (.sl ((plan.map setB).map uB)):=rfl
 have t2:tupD (.tup [dH f (cx f),.sl ((plan.map setB).map uB),dI 0]) 2=some (dI 0):=rfl
 have hz:decide ((0:Int)=0)=true:=rfl
 have hcl:pcD P (K (l+1)) 73 [dH f (cx f),.sl ((plan.map setB).map uB)]=some (dB (decide ((plan.map setB).foldl (vK (cx f) f.eats.length) (setB f.start)=0#64))):=by
  refine dK ?_
  rw[c73]
  unfold C73_0 B73_0
  have hg:=qjx (near:=cx f) (n:=f.eats.length) (plan.map setB) (setB f.start)
  have hgm:((mayB (cx f) f.eats.length (setB f.start) (plan.map setB)).map uB)[(plan.map setB).length]?=some (uB ((plan.map setB).foldl (vK (cx f) f.eats.length) (setB f.start))):=by
   rw[List.getElem?_map,hg]; rfl
  rw[s59 (by omega) (by rw[BV]; omega) (BV f) ⟨by have:=hs.2.1; omega,fun p hp'=>by have:=lX h8 hst p hp'; omega⟩ (by simp; omega),aj,az,aj,az,aj,bk,List.length_map,qz (by simp only[List.length_map,qiq]; omega),aj,hgm,aj,cj,bY,binD_eql_u,aj]
 have hin:=fold_in (near:=cx f) (plan.map setB) (setB f.start) (setB_in (by omega) (by rw[he]; exact hst):inB f.eats.length (setB f.start))
 have hlp:=last_pads h0
 generalize (plan.map setB).foldl (vK (cx f) f.eats.length) (setB f.start)=z at hcl hin hlp
 have hzz:decide (z=0#64)=decide (aL f f.start plan=[]):=by
  rw[← hlp]
  by_cases h:z=0#64
  ·subst h
   have:fJ 0#64=[]:=by
    unfold fJ
    rw[List.map_eq_nil_iff,List.filter_eq_nil_iff]
    intro a _; simp
   rw[this]; simp
  ·have := pads_ne (n := f.eats.length) (by omega) hin h
   simp [h,this]
 obtain⟨c,hc,hc8⟩:=sHands (l:=l+1) (by omega) (ws:=plan.map setB) (by simpa using hp) (fun s hs=>by
  obtain⟨x,hx,rfl⟩:=List.mem_map.1 hs
  rw[List.all_eq_true] at hall
  have:=setB_in h8 (hall x hx)
  intro i hi hb
  have:=this i hi hb
  omega)
 have hle:decide (c≤8)=true:=decide_eq_true hc8
 rw[cw,aj,cut5,aj,s57 (by omega) hs (by omega) hx,aj,if_pos h0,t0,aj,t1,aj,t2,aj,gY,aj,hz,fK,hcl,aj,hzz,cY]
 by_cases h:aL f f.start plan=[]
 ·rw [if_pos h, hc, aj, lK, aj, hle]
  simp [h]
 ·rw [if_neg h]
  simp [h]
end Go.Proofs.YtnnkcjolgbpklaaGreat.L
end
section
open Go Go.Ev
set_option maxRecDepth 100000
namespace Go.Proofs.YtnnkcjolgbpklaaGreat.L
def BX(near:List (BitVec 64))(n:Nat):List Int→List (BitVec 64)→BitVec 64→Bool→Bool
 | [],ws,_,fnd=>decide (ws.length=0) || fnd
 | p::ps,ws,may,_=>match ws with
  | []=>false
  | wk::ws=>may.getLsbD p.toNat && BX near n ps ws (lw near n (BitVec.twoPow 64 p.toNat) &&& ~~~wk) (Pz (lw near n (BitVec.twoPow 64 p.toNat)) wk)
theorem l65{l:Nat}(hl:6≤l){f:Fld}{near:List (BitVec 64)}(h8:near.length=8)(hn:f.eats.length≤8)(hg:f.g.pads.length=f.eats.length):∀(suf pre:List Int) (wsuf wpre:List (BitVec 64)) (may:BitVec 64) (fnd:Bool) (m:Nat),wpre.length=pre.length→suf.length≤wsuf.length→suf.length<m→pre.length+suf.length≤1000→(∀ x ∈ suf,0≤x∧x<f.eats.length) →
  S65_1 (K l) 19999 m (dH f near) (.sl ((wpre++wsuf).map uB)) (dL (pre++suf)) (uB may) (dB fnd) (dL (pre++suf)) (dI ((pre++suf).map dI).length) (dI pre.length)=some (dB (BX near f.eats.length suf wsuf may fnd))
 | [],pre,wsuf,wpre,may,fnd,0,_,_,hm,_,_=>by simp at hm
 | [],pre,wsuf,wpre,may,fnd,m+1,hw,_,hm,hb,_=>by
  rw[r65_1]
  unfold C65_1 B65_1
  simp only[List.append_nil]
  rw[dj,aj,dq,az,aj,az,aj,bk,bk,gY,aj,cY]
  unfold BX
  by_cases h:wsuf.length=0
  ·rw[if_pos (by simp; omega)]; simp [h]
  ·rw[if_neg (by simp; omega)]; simp [h]
 | x::suf,pre,wsuf,wpre,may,fnd,0,_,_,hm,_,_=>by simp at hm
 | x::suf,pre,[],wpre,may,fnd,m+1,_,h,_,_,_=>by simp at h
 | x::suf,pre,wk::wsuf,wpre,may,fnd,m+1,hw,hsl,hm,hb,hx=>by
  rw[r65_1]
  unfold C65_1 B65_1
  simp only[List.length_cons] at hm hb hsl
  have hx0:=hx x (by simp)
  have e:((x.toNat:Nat):Int)=x:=by omega
  have hh:=s94 (l:=l) (by omega) (a:=may) (p:=x.toNat) (by omega)
  rw[e] at hh
  have hp:hasP f.g.pads.length x=true:=jJ.2 (by omega)
  have hso:=s83 (l:=l) (by omega) (xs:=[x]) (by simp) (fun y hy=>by simp at hy; omega)
  have hso':pcD P (K l) 83 [.sl [dI x]]=some (uB (BitVec.twoPow 64 x.toNat)):=by
   refine hso.trans ?_
   rw[BJ]
  have hat:∀ k:D→Option D,(bindO (idxD (.v (.int .i64 (pre.length:Nat))) ((wpre++wk::wsuf).map uB).length) fun i=>bindO (((wpre++wk::wsuf).map uB)[i]?) k)=k (uB wk):=by
   intro k
   rw[← hw]
   exact fw
  have ih:=l65 hl h8 hn hg suf (pre++[x]) wsuf (wpre++[wk]) (lw near f.eats.length (BitVec.twoPow 64 x.toNat) &&& ~~~wk) (Pz (lw near f.eats.length (BitVec.twoPow 64 x.toNat)) wk) m (by simp [hw]) (by omega) (by omega) (by simp; omega) (fun y hy=>hx y (by simp [hy]))
  simp only[List.append_assoc,List.cons_append,List.nil_append] at ih
  rw[dJ,aj,fK,az,aj,fw,cj,bY,oX,eY,aj,cutH,aj,s93 (by omega),aj,ew,aj,hp,Bool.not_true,dq,hh,aj,ew,aj]
  unfold C65_2 B65_2
  rw[gw]
  rw[BX]
  cases hbit:may.getLsbD x.toNat with
  | false=>simp
  | true=>
   simp only[Bool.not_true,Bool.false_eq_true,if_false,Bool.true_and]
   rw[cj,bY,hso',aj,s85 (by omega) (by omega) h8,aj,az,aj,hat,cj,bY,aj,hat,cj,bY,s86 (by omega),aj,s95 (by omega),aj,cZ (a:=x) (by omega),aj]
   exact ih
theorem s65{l:Nat}(hl:7≤l){f:Fld}{near:List (BitVec 64)}(h8:near.length=8)(hn:f.eats.length≤8)(hg:f.g.pads.length=f.eats.length){ws:List (BitVec 64)}{path:List Int}(hp:path.length≤1000)(hpw:path.length≤ws.length)(hx:∀ x ∈ path,0≤x∧x<f.eats.length)(hst:dZ f.eats.length f.start=true)(hsl:f.start.length<1000) :
  pcD P (K l) 65 [dH f near,.sl (ws.map uB),dL path]=some (dB (BX near f.eats.length path ws (setB f.start) false)):=by
 obtain⟨l,rfl⟩:=lev (show 1≤l by omega)
 refine dK ?_
 rw[c65]
 unfold C65_0 B65_0
 have hlt:=lX hn hst
 have e3:(List.drop 3 (hC f near))[0]?=some (dL f.start):=rfl
 have hgt:decide (((ws.map uB).length:Int)<((path.map dI).length:Nat))=false:=by simp; omega
 rw[az,aj,az,aj,bk,bk,kK,aj,hgt,dq,oX,eY,aj,e3,aj,s83 (by omega) hsl (fun x hx=>by have:=hlt x hx; omega),aj,aj]
 exact l65 (l:=l) (by omega) h8 hn hg path [] ws [] (setB f.start) false 19999 rfl hpw (by omega) (by simp; omega) hx
theorem s26{l:Nat}(hl:12≤l){f:Fld}(hs:oz f){plan:List (List Int)}(hp:plan.length<900)(hx:∀ x ∈ plan,x.length<1000)(h0:aErr f plan=0){path:List Int}(hpl:path.length≤plan.length)(hpx:∀ x ∈ path,0≤x∧x<f.eats.length){n:Int} :
  pcD P (K l) 26 [dF f,dLL plan,dL path,dI n]=some (dB (BX (cx f) f.eats.length path (plan.map setB) (setB f.start) false && decide (n≤sumE f path))):=by
 obtain⟨l,rfl⟩:=lev (show 2≤l by omega)
 refine dK ?_
 rw[show l+2=(l+1)+1 from rfl,c26]
 unfold C26_0 B26_0
 obtain⟨hf,h3,hall⟩:=yK h0
 obtain⟨h8,hne,he,hst,hj⟩:=vZ hf
 have hea:=eats_ok hf
 have t0:tupD (.tup [dH f (cx f),.sl ((plan.map setB).map uB),dI 0]) 0=some (dH f (cx f)):=rfl
 have t1:tupD (.tup [dH f (cx f),.sl ((plan.map setB).map uB),dI 0]) 1=some (.sl ((plan.map setB).map uB)):=rfl
 have t2:tupD (.tup [dH f (cx f),.sl ((plan.map setB).map uB),dI 0]) 2=some (dI 0):=rfl
 have hz:decide ((0:Int)=0)=true:=rfl
 rw[cw,aj,cut5,aj,s57 (by omega) hs (by omega) hx,aj,if_pos h0,t0,aj,t1,aj,t2,aj,gY,aj,hz,fK,s65 (by omega) (BV f) (by omega) he.symm (by omega) (by simpa using hpl) hpx (by rw[he]; exact hst) (by have:=hs.2.1; omega),aj,gw]
 cases hb:BX (cx f) f.eats.length path (plan.map setB) (setB f.start) false with
 | false=>simp
 | true=>
  simp only[if_true,Bool.true_and]
  rw[s64 (by omega) hea (by omega) hpx,aj,qv,aj]
theorem l30{l k:Nat}{f:Fld}(he:∀ x ∈ f.eats,0≤x∧x≤100):∀(suf pre:List Int) (a:Int) (m:Nat),suf.length<m→pre.length+suf.length≤1000→0≤a→a≤100 * pre.length→(∀ x ∈ suf,0≤x∧x<f.eats.length) →
  S30_1 (K l) k m (dL (pre++suf)) (dI a) (dI pre.length) (fC f)=some (dI (a+sumE f suf))
 | [],pre,a,0,hm,_,_,_,_=>by simp at hm
 | [],pre,a,m+1,_,_,_,_,_=>by
  rw[r30_1]
  unfold C30_1 B30_1
  rw[List.append_nil,az,aj,ZZ,aj,dq]
  simp [sumE]
 | x::suf,pre,a,0,hm,_,_,_,_=>by simp at hm
 | x::suf,pre,a,m+1,hm,hb,h0,h1,hx=>by
  rw[r30_1]
  unfold C30_1 B30_1
  simp only[List.length_cons] at hm hb
  have hx0:=hx x (by simp)
  have e:((x.toNat:Nat):Int)=x:=by omega
  have hget:f.eats[x.toNat]?=some (f.eats.getD x.toNat 0):=by
   rw[List.getD_eq_getElem?_getD,List.getElem?_eq_getElem (by omega)]; rfl
  have hv:=he (f.eats.getD x.toNat 0) (by
   rw[List.getD_eq_getElem?_getD,List.getElem?_eq_getElem (by omega)]
   exact List.getElem_mem _)
  have hat:∀ k:D→Option D,(bindO (idxD (dI x) (f.eats.map dI).length) fun i=>bindO ((f.eats.map dI)[i]?) k)=k (dI (f.eats.getD x.toNat 0)):=by
   intro k
   have:=pJ (f:=dI) (kk:=k) hget
   rw[e] at this
   exact this
  have elen:(pre++[x]).length=pre.length+1:=by simp
  have hstep:a+f.eats.getD x.toNat 0≤100 * ((pre++[x]).length:Int):=by rw[elen]; omega
  have ih:=l30 (l:=l) (k:=k) he suf (pre++[x]) (a+f.eats.getD x.toNat 0) m (by omega) (by simp; omega) (by omega) hstep (fun y hy=>hx y (by simp [hy]))
  simp only[List.append_assoc,List.cons_append,List.nil_append] at ih
  have e4:(fC f)[4]?=some (dL f.eats):=rfl
  rw[az,aj,lss_mid,aj,fK,e4,aj,aj,fw,cj,bY,az,aj,hat,cj,bY,Ij (by unfold I64; omega),aj,cZ (a:=x) (by omega),aj,ih,qjq,Int.add_assoc]
theorem s30{l:Nat}(hl:1≤l){f:Fld}(he:∀ x ∈ f.eats,0≤x∧x≤100){ps:List Int}(hp:ps.length≤1000)(hx:∀ x ∈ ps,0≤x∧x<f.eats.length) :
  pcD P (K l) 30 [dF f,dL ps]=some (dI (sumE f ps)):=by
 obtain⟨l,rfl⟩:=lev hl
 refine dK ?_
 rw[c30]
 unfold C30_0 B30_0
 rw[cw,aj]
 have:=l30 (l:=l) (k:=19999) he ps [] 0 19999 (by omega) (by simp; omega) (Int.le_refl 0) (by simp) hx
 rw[Int.zero_add] at this
 exact this
end Go.Proofs.YtnnkcjolgbpklaaGreat.L
end
section
open Go Go.Ev
set_option maxRecDepth 100000
namespace Go.Proofs.YtnnkcjolgbpklaaGreat.L
def dW(x:Int):D:=.v (.int .u16 x)
theorem conv_w{x:Int}(h:0≤x∧x<65536):semD P (dW x) (convert 79 3)=some (dI x):=by
 have e:semD P (dW x) (convert 79 3)=some (dI (IntKind.i64.wrap x)):=by rfl
 rw[e,qlz (by unfold I64; omega)]
theorem s72{l:Nat}(hl:1≤l){ws:List Int}(hw:∀ x ∈ ws,0≤x∧x<65536){n:Nat}:∃ c:Nat,pcD P (K l) 72 [.sl (ws.map dW),dI (n:Int)]=some (dI (c:Int)):=by
 obtain⟨l,rfl⟩:=lev hl
 cases ws with
 | nil=>
  refine⟨0,dK ?_⟩
  rw[c72]
  unfold C72_0 B72_0
  rfl
 | cons w ws=>
  have hlt:n % (w::ws).length<(w::ws).length:=Nat.mod_lt _ (by simp)
  have hg:(w::ws)[n % (w::ws).length]?=some ((w::ws)[n % (w::ws).length]):=List.getElem?_eq_getElem hlt
  have hv:=hw _ (List.getElem_mem hlt)
  generalize (w::ws)[n % (w::ws).length]=v at hg hv
  refine⟨v.toNat,dK ?_⟩
  rw[c72]
  unfold C72_0 B72_0
  have hl:((w::ws).map dW).length=(w::ws).length:=List.length_map _
  have h0:decide ((((w::ws).length:Nat):Int)=0)=false:=by simp; omega
  have e:((v.toNat:Nat):Int)=v:=by omega
  rw[az,aj,bk,hl,gY,aj,h0,dq,aj,bk,hl,UW (by simp),aj,aj,pJ hg]
  have lf:bz (dW v)=true:=rfl
  rw[lf,bY,conv_w hv,aj,e]
def toL(f:Fld)(a:Int)(i r:Nat):List Int:=((List.range' i r).filter (fun p:Nat=>mq f a p)).map (fun p:Nat=>(p:Int))
theorem PJ{f:Fld}{a x:Int}{n:Nat}:x ∈ toL f a 0 n→0≤x∧x<n∧mq f a x=true:=by
 unfold toL
 simp only[List.mem_map,List.mem_filter,List.mem_range'_1]
 rintro⟨p,⟨h1,h2⟩,rfl⟩
 exact⟨by omega,by omega,h2⟩
theorem toL_self{f:Fld}{a:Int}{n:Nat}(h:0≤a∧a<n):a ∈ toL f a 0 n:=by
 unfold toL
 simp only[List.mem_map,List.mem_filter,List.mem_range'_1]
 refine⟨a.toNat,⟨by omega,?_⟩,by omega⟩
 have e:((a.toNat:Nat):Int)=a:=by omega
 rw[e]
 unfold mq
 simp
theorem toL_len{f:Fld}{a:Int}{i r:Nat}:(toL f a i r).length≤r:=by
 unfold toL
 rw[List.length_map]
 exact Nat.le_trans (List.length_filter_le _ _) (by simp)
def walk(f:Fld):List (List Int)→Int→List Int→Prop
 | [],_,path=>path=[]
 | w::ws,a,path=>∃(ps:List Int) (q:Int),path=a::ps∧0≤q∧q<f.g.pads.length∧mq f a q=true∧((hasL w q=true∧ps=[])∨(hasL w q=false∧walk f ws q ps))
theorem l38_2{l k m1:Nat}(hl:2≤l){f:Fld}(hg:f.g.joins.length<1000)(hn:f.g.pads.length<1000){b1:D→D→D→D→List D→List D→Option D}{u1 u2 u9:D}{a:Int}{l31:List D}:∀(r i m:Nat) (acc:List Int),i+r=f.g.pads.length→acc.length≤i →
  S38_2 (K l) k m1 b1 (m+r) u1 u2 (dI a) u9 (dI (i:Int)) (fC f) l31 (acc.map dI)=S38_2 (K l) k m1 b1 m u1 u2 (dI a) u9 (dI ((i+r:Nat):Int)) (fC f) l31 ((acc++toL f a i r).map dI)
 | 0,i,m,acc,_,_=>by
  have:toL f a i 0=[]:=rfl
  rw[this,List.append_nil]
  rfl
 | r+1,i,m,acc,hi,ha=>by
  have i1:=l38_2 (k:=k) (m1:=m1) (b1:=b1) (u1:=u1) (u2:=u2) (u9:=u9) (a:=a) (l31:=l31) hl hg hn r (i+1) m (acc++[(i:Int)]) (by omega) (by simp; omega)
  have i2:=l38_2 (k:=k) (m1:=m1) (b1:=b1) (u1:=u1) (u2:=u2) (u9:=u9) (a:=a) (l31:=l31) hl hg hn r (i+1) m acc (by omega) (by omega)
  simp only[List.map_append,List.map_cons,List.map_nil] at i1
  have e0:(fC f)[0]?=some (.sl (f.g.pads.map dPad)):=rfl
  have ec:cutD (fC f) 0 5=some (fC f):=rfl
  have es:(i+1+r:Nat)=i+(r+1):=by omega
  rw[es] at i1 i2
  rw[show m+(r+1)=(m+r)+1 from rfl,r38_2]
  unfold C38_2 B38_2
  rw[e0,aj,az,aj,bk,ek,aj,cY,if_pos (by simp; omega),ec,aj,s41 (f:=f) hl hg,aj,gw]
  unfold C38_3 B38_3
  unfold toL at i1 i2 ⊢
  rw[List.range'_succ,List.filter_cons]
  cases h:mq f a (i:Int) with
  | true=>
   simp only[if_true]
   rw[cj,bY,appI (by simp; omega),aj,fY (by omega),aj,i1]
   simp
  | false=>
   simp only[Bool.false_eq_true,if_false]
   rw[fY (by omega),aj,i2]
theorem l38_1{l k:Nat}(hl:2≤l){f:Fld}(hg:f.g.joins.length<1000)(hn:f.g.pads.length<1000){words:List Int}(hw:∀ x ∈ words,0≤x∧x<65536):∀(suf pre:List (List Int)) (don:List Int) (a:Int) (m:Nat),suf.length+1000<m→pre.length+suf.length<1000→don.length≤pre.length→0≤a→a<f.g.pads.length→(∀ w ∈ suf,w.length<1000) →
  ∃ ps,Wz (K l) k m (dLL (pre++suf)) (.sl (words.map dW)) (dI a) (dI (pre.length:Nat)) (fC f) (don.map dI)=some (dL (don++ps))∧walk f suf a ps
 | [],pre,don,a,0,hm,_,_,_,_,_=>by simp at hm
 | [],pre,don,a,m+1,_,_,_,_,_,_=>by
  refine⟨[],?_,rfl⟩
  rw[r38_1]
  unfold C38_1 B38_1
  rw[List.append_nil,az,aj,ZZ,aj,dq]
  unfold C38_4 B38_4
  rw[List.append_nil]
 | w::suf,pre,don,a,0,hm,_,_,_,_,_=>by simp at hm
 | w::suf,pre,don,a,m+1,hm,hb,hd,h0,h1,hx=>by
  simp only[List.length_cons] at hm hb
  rw[r38_1]
  unfold C38_1 B38_1
  rw[az,aj,lss_mid,aj,fK,cj,bY,appI (by simp; omega),aj]
  have inner:=l38_2 (k:=k) (m1:=m+1) hl hg hn (b1:=Wz (K l) k m) (u1:=dLL (pre++w::suf)) (u2:=.sl (words.map dW)) (u9:=dI (pre.length:Nat)) (a:=a) (l31:=don.map dI++[dI a]) f.g.pads.length 0 (m-f.g.pads.length+1) [] (by omega) (by simp)
  rw[show m-f.g.pads.length+1+f.g.pads.length=m+1 by omega,Nat.zero_add,List.nil_append] at inner
  have hm2:m-f.g.pads.length+1=(m-f.g.pads.length)+1:=rfl
  have e0:(fC f)[0]?=some (.sl (f.g.pads.map dPad)):=rfl
  have ec:cutD (fC f) 0 5=some (fC f):=rfl
  have hself:=toL_self (f:=f) (n:=f.g.pads.length) (a:=a) ⟨h0,h1⟩
  have hlt:=toL_len (f:=f) (a:=a) (i:=0) (r:=f.g.pads.length)
  have hmem:∀ x ∈ toL f a 0 f.g.pads.length,0≤x∧x<f.g.pads.length∧mq f a x=true:=fun x hx=>PJ hx
  generalize toL f a 0 f.g.pads.length=to at inner hself hlt hmem
  have hto:to.length≠0:=by
   intro z
   rw[List.length_eq_zero_iff.1 z] at hself
   cases hself
  obtain⟨c,hc⟩:=s72 (l:=l) (by omega) hw (n:=pre.length+1)
  have hcl:c % to.length<to.length:=Nat.mod_lt _ (by omega)
  have hq:to[c % to.length]?=some (to[c % to.length]):=List.getElem?_eq_getElem hcl
  have hqm:=hmem _ (List.getElem_mem hcl)
  generalize to[c % to.length]=q at hq hqm
  have hgo:S38_2 (K l) k (m+1) (Wz (K l) k m) (m-f.g.pads.length+1) (dLL (pre++w::suf)) (.sl (words.map dW)) (dI a) (dI (pre.length:Nat)) (dI (f.g.pads.length:Nat)) (fC f) (don.map dI++[dI a]) (to.map dI) =
    if hasL w q then some (dL (don++[a])) else Wz (K l) k m (dLL (pre++w::suf)) (.sl (words.map dW)) (dI q) (dI ((pre++[w]).length:Nat)) (fC f) ((don++[a]).map dI):=by
   rw[r38_2]
   unfold C38_2 B38_2
   have lfL:bz (dL w)=true:=rfl
   have hll:(to.map dI).length=to.length:=List.length_map _
   have hat:∀ kk:D→Option D,(bindO (idxD (.v (.int .i64 ((c % to.length:Nat):Int))) to.length) fun i=>bindO ((to.map dI)[i]?) kk)=kk (dI q):=by
    intro kk
    have:=pJ (f:=dI) (kk:=kk) hq
    rw[hll] at this
    exact this
   rw[e0,aj,az,aj,bk,ek,aj,cY,if_neg (by simp),fY (by omega),aj,hc,aj,bk,hll,UW hto,aj,hat,cj,bY,az,aj,fw,lfL,bY,s39 (by omega) (hx w (by simp)),aj,gw]
   unfold C38_4 B38_4
   have hmap:dL (don++[a])=D.sl (don.map dI++[dI a]):=congrArg D.sl (by simp)
   have hmap2:(don++[a]).map dI=don.map dI++[dI a]:=by simp
   rw[cZ (a:=w) (by omega),aj,hmap,hmap2]
  obtain⟨ps,e1,e2⟩:=l38_1 (k:=k) hl hg hn hw suf (pre++[w]) (don++[a]) q m (by omega) (by simp; omega) (by simp; omega) hqm.1 hqm.2.1 (fun w hw'=>hx w (by simp [hw']))
  simp only[List.append_assoc,List.cons_append,List.nil_append] at e1
  cases hh:hasL w q with
  | true=>
   refine⟨[a],inner.trans (hgo.trans ?_),[],q,rfl,hqm.1,hqm.2.1,hqm.2.2,.inl ⟨hh,rfl⟩⟩
   rw[hh,if_pos rfl]
  | false=>
   refine⟨a::ps,inner.trans (hgo.trans ?_),ps,q,rfl,hqm.1,hqm.2.1,hqm.2.2,.inr ⟨hh,e2⟩⟩
   rw[hh,if_neg (by simp)]
   exact e1
theorem s38{l:Nat}(hl:3≤l){f:Fld}(hg:f.g.joins.length<1000)(hn:f.g.pads.length<1000){words:List Int}(hw:∀ x ∈ words,0≤x∧x<65536){plan:List (List Int)}(hp:plan.length<1000)(hx:∀ w ∈ plan,w.length<1000)(hs:f.start≠[])(hst:∀ x ∈ f.start,0≤x∧x<f.g.pads.length) :
  ∃ path a,pcD P (K l) 38 [dF f,dLL plan,.sl (words.map dW)]=some (dL path)∧a ∈ f.start∧walk f plan a path:=by
 obtain⟨l,rfl⟩:=lev (show 1≤l by omega)
 have hs0:f.start.length≠0:=fun z=>hs (List.length_eq_zero_iff.1 z)
 obtain⟨c,hc⟩:=s72 (l:=l) (by omega) hw (n:=0)
 have hcl:c % f.start.length<f.start.length:=Nat.mod_lt _ (by omega)
 have hq:f.start[c % f.start.length]?=some (f.start[c % f.start.length]):=List.getElem?_eq_getElem hcl
 have hqm:=List.getElem_mem hcl
 generalize f.start[c % f.start.length]=a at hq hqm
 obtain⟨ps,e1,e2⟩:=l38_1 (l:=l) (k:=19999) (by omega) hg hn hw plan [] [] a 19999 (by omega) (by simp; omega) (by simp) (hst a hqm).1 (hst a hqm).2 hx
 refine⟨ps,a,wj ?_ (by kernel_rfl),hqm,e2⟩
 rw[c38]
 unfold C38_0 B38_0
 have e3:(fC f)[3]?=some (dL f.start):=rfl
 have hll:(f.start.map dI).length=f.start.length:=List.length_map _
 have hat:∀ kk:D→Option D,(bindO (idxD (.v (.int .i64 ((c % f.start.length:Nat):Int))) f.start.length) fun i=>bindO ((f.start.map dI)[i]?) kk)=kk (dI a):=by
  intro kk
  have:=pJ (f:=dI) (kk:=kk) hq
  rw[hll] at this
  exact this
 have hc:pcD P (K l) 72 [.sl (words.map dW),.v (.int .i64 0)]=some (dI (c:Int)):=hc
 rw[cw,aj,e3,aj,aj,az,aj,hc,aj,bk,hll,UW hs0,aj,aj,hll,hat,cj,bY]
 exact e1
end Go.Proofs.YtnnkcjolgbpklaaGreat.L
end
section
open Go Go.Ev
set_option maxRecDepth 100000
namespace Go.Proofs.YtnnkcjolgbpklaaGreat.L
theorem UK{f:Fld}(h0:fErr f=0){a q:Int}(ha:0≤a∧a<f.g.pads.length)(hq:0≤q∧q<f.g.pads.length):(lw (cx f) f.eats.length (BitVec.twoPow 64 a.toNat)).getLsbD q.toNat=mq f a q:=by
 obtain⟨h8,hne,he,hst,hj⟩:=vZ h0
 have hj':∀ j ∈ f.g.joins,(0≤j.a∧j.a<8)∧0≤j.b∧j.b<8:=fun j hjm=>by
  have:=hj j hjm
  rw[jJ,jJ] at this
  omega
 have e1:((q.toNat:Nat):Int)=q:=by omega
 have e2:((a.toNat:Nat):Int)=a:=by omega
 rw[UY (by omega)]
 have hd:decide (q.toNat<f.eats.length)=true:=by simp; omega
 rw[hd,Bool.true_and]
 unfold Hv
 rw[Bool.eq_iff_iff,BW]
 have hb:=qiz hj' (by omega) (p:=q.toNat) (q:=a.toNat) (by omega) (by omega)
 rw[e1,e2,qix] at hb
 constructor
 ·rintro ⟨i, hi, b1, b2⟩
  rw[zZ hi] at b2
  have:=of_decide_eq_true b2
  subst this
  rw[hb] at b1; exact b1
 ·intro hg
  exact⟨a.toNat,by omega,by rw[hb]; exact hg,by rw[zZ (by omega)]; simp⟩
theorem ZV{f:Fld}(h0:fErr f=0){w:List Int}(hw:dZ f.g.pads.length w=true){q:Int}(hq:0≤q∧q<f.g.pads.length):(setB w).getLsbD q.toNat=hasL w q:=by
 obtain⟨h8,hne,he,hst,hj⟩:=vZ h0
 have hlt:=lX h8 hw
 rw[yZ (fun x hx=>by have:=hlt x hx; omega) (by omega)]
 have e1:((q.toNat:Nat):Int)=q:=by omega
 rw[e1]
theorem qjj{f:Fld}(h0:fErr f=0){w:List Int}(hw:dZ f.g.pads.length w=true){a q:Int}(ha:0≤a∧a<f.g.pads.length)(hq:0≤q∧q<f.g.pads.length) :
  (lw (cx f) f.eats.length (BitVec.twoPow 64 a.toNat) &&& ~~~(setB w)).getLsbD q.toNat=(mq f a q && !hasL w q):=by
 obtain⟨h8,_⟩:=vZ h0
 rw[BitVec.getLsbD_and,BitVec.getLsbD_not,UK h0 ha hq,ZV h0 hw hq]
 have:decide (q.toNat<64)=true:=by simp; omega
 rw[this,Bool.true_and]
theorem walk_len{f:Fld}:∀(ws:List (List Int)) (a:Int) (path:List Int),walk f ws a path→path.length≤ws.length
 | [],a,path,h=>by
  have h:path=[]:=h
  rw[h]; simp
 | w::ws,a,path,h=>by
  obtain⟨ps,q,rfl,_,_,_,hh⟩:=h
  rcases hh with⟨_,rfl⟩ | ⟨_,h⟩
  ·simp
  ·have := walk_len ws q ps h
   simp; omega
theorem walk_rg{f:Fld}:∀(ws:List (List Int)) (a:Int) (path:List Int),walk f ws a path→0≤a→a<f.g.pads.length→∀ x ∈ path,0≤x∧x<f.g.pads.length
 | [],a,path,h,_,_,x,hx=>by
  have h:path=[]:=h
  rw[h] at hx; cases hx
 | w::ws,a,path,h,h0,h1,x,hx=>by
  obtain⟨ps,q,rfl,q0,q1,_,hh⟩:=h
  rcases List.mem_cons.1 hx with e | e
  ·rw[e]; exact⟨h0,h1⟩
  ·rcases hh with ⟨_, rfl⟩ | ⟨_, h⟩
   ·cases e
   ·exact walk_rg ws q ps h q0 q1 x e
theorem walk_path{f:Fld}(h0:fErr f=0):∀(ws:List (List Int)) (a:Int) (path:List Int) (may:BitVec 64) (fnd:Bool),walk f ws a path→0≤a→a<f.g.pads.length→(∀ w ∈ ws,dZ f.g.pads.length w=true)→may.getLsbD a.toNat=true→BX (cx f) f.eats.length path (ws.map setB) may fnd=true
 | [],a,path,may,fnd,h,_,_,_,_=>by
  have h:path=[]:=h
  subst h
  rfl
 | w::ws,a,path,may,fnd,h,a0,a1,hw,hm=>by
  obtain⟨h8,_⟩:=vZ h0
  obtain⟨ps,q,rfl,q0,q1,hg,hh⟩:=h
  rw[List.map_cons,BX]
  simp only[hm,Bool.true_and]
  rcases hh with⟨hl,rfl⟩ | ⟨hl,h⟩
  ·unfold BX
   rw[Bool.or_eq_true]
   right
   refine BW.2 ⟨q.toNat,by omega,?_,?_⟩
   ·rw[UK h0 ⟨a0,a1⟩ ⟨q0,q1⟩]; exact hg
   ·rw[ZV h0 (hw w (by simp)) ⟨q0,q1⟩]; exact hl
  ·refine walk_path h0 ws q ps _ _ h q0 q1 (fun w hw' => hw w (by simp [hw'])) ?_
   rw[qjj h0 (hw w (by simp)) ⟨a0,a1⟩ ⟨q0,q1⟩,hg,hl]; rfl
theorem walk_sum{f:Fld}(h0:fErr f=0):∀(ws:List (List Int)) (a:Int) (path:List Int),walk f ws a path→0≤a→a<f.g.pads.length→(∀ w ∈ ws,dZ f.g.pads.length w=true)→sumE f path≤oJ f (cx f) (ws.map setB) a.toNat
 | [],a,path,h,_,_,_=>by
  have h:path=[]:=h
  subst h
  exact Int.le_refl 0
 | w::ws,a,path,h,a0,a1,hw=>by
  obtain⟨h8,hne,he,hst,hj⟩:=vZ h0
  obtain⟨ps,q,rfl,q0,q1,hg,hh⟩:=h
  rw[List.map_cons,oJ,qjq,later_mx (by omega)]
  have hle:=Nk.1 (Int.le_refl (mxB (oJ f (cx f) (ws.map setB)) (fJ (lw (cx f) f.eats.length (BitVec.twoPow 64 a.toNat) &&& ~~~(setB w)))))
  rcases hh with⟨hl,rfl⟩ | ⟨hl,h⟩
  ·have : sumE f [] = 0 := rfl
   have:=hle.1
   omega
  ·have i1 := walk_sum h0 ws q ps h q0 q1 (fun w hw' => hw w (by simp [hw']))
   have i2:=hle.2 q (oK.2 ⟨q0,by omega,by rw[qjj h0 (hw w (by simp)) ⟨a0,a1⟩ ⟨q0,q1⟩,hg,hl]; rfl⟩)
   omega
theorem Vj{f:Fld}{b w:List Int}{a q:Int}(ha:a ∈ b)(q0:0≤q)(q1:q<f.g.pads.length)(hg:mq f a q=true)(hl:hasL w q=false):q ∈ Hw f b w 0 f.g.pads.length:=by
 unfold Hw
 simp only[List.mem_map,List.mem_filter,List.mem_range'_1]
 have e:((q.toNat:Nat):Int)=q:=by omega
 refine⟨q.toNat,⟨by omega,?_⟩,e⟩
 rw[e,hl,Bool.not_false,Bool.and_true,List.any_eq_true]
 exact⟨a,ha,hg⟩
theorem walk_may{f:Fld}:∀(ws:List (List Int)) (a:Int) (path b:List Int) (k:Nat) (x:Int),walk f ws a path→a ∈ b→path[k]?=some x→∃ row,(mayL f b ws)[k]?=some row∧hasL row x=true
 | [],a,path,b,k,x,h,ha,hk=>by
  have h:path=[]:=h
  subst h
  simp at hk
 | w::ws,a,path,b,k,x,h,ha,hk=>by
  obtain⟨ps,q,rfl,q0,q1,hg,hh⟩:=h
  unfold mayL
  cases k with
  | zero=>
   simp at hk
   subst hk
   refine⟨b,rfl,?_⟩
   unfold hasL
   rw[List.any_eq_true]
   exact⟨a,ha,by simp⟩
  | succ k=>
   rw[List.getElem?_cons_succ] at hk ⊢
   rcases hh with⟨hl,rfl⟩ | ⟨hl,h⟩
   ·simp at hk
   ·exact walk_may ws q ps _ k x h (Vj ha q0 q1 hg hl) hk
theorem walk_last{f:Fld}:∀(ws:List (List Int)) (a:Int) (path b:List Int) (k:Nat) (x p:Int) (w:List Int),walk f ws a path→a ∈ b→path.length=ws.length→ws.length=k+1→path[k]?=some x→ws[k]?=some w→0≤p→p<f.g.pads.length→mq f x p=true→hasL w p=false→p ∈ aL f b ws
 | [],a,path,b,k,x,p,w,h,ha,hl,hk,_,_,_,_,_,_=>by simp at hk
 | v::ws,a,path,b,k,x,p,w,h,ha,hl,hk,h1,h2,p0,p1,hg,hw=>by
  obtain⟨ps,q,rfl,q0,q1,hgq,hh⟩:=h
  unfold aL
  rw[List.foldl_cons]
  cases k with
  | zero=>
   have e:ws=[]:=List.length_eq_zero_iff.1 (by simpa using hk)
   subst e
   simp at h1 h2
   subst h1; subst h2
   exact Vj ha p0 p1 hg hw
  | succ k=>
   rw[List.getElem?_cons_succ] at h1 h2
   simp only[List.length_cons] at hl hk
   rcases hh with⟨_,rfl⟩ | ⟨hlq,h⟩
   ·simp at h1
   ·exact walk_last ws q ps _ k x p w h (Vj ha q0 q1 hgq hlq) (by omega) (by omega) h1 h2 p0 p1 hg hw
theorem wPath_path{f:Fld}(h0:fErr f=0):∀(ws:List (List Int)) (may:BitVec 64) (fnd:Bool),(∀ w ∈ ws,dZ f.g.pads.length w=true)→inB f.eats.length may→(fJ may=[]→fnd=true)→BX (cx f) f.eats.length (oQ f (cx f) (ws.map setB) may) (ws.map setB) may fnd=true
 | [],may,fnd,_,_,_=>rfl
 | w::ws,may,fnd,hw,hin,hf=>by
  obtain⟨h8,hne,he,hst,hj⟩:=vZ h0
  rw[List.map_cons,oQ]
  cases hp:fJ may with
  | nil=>
   simp only
   unfold BX
   rw[hf hp,Bool.or_true]
  | cons x xs=>
   simp only
   have hm:=Hy (v:=fun q=>oJ f (cx f) (setB w::ws.map setB) q.toNat) xs x
   generalize maxB (fun q=>oJ f (cx f) (setB w::ws.map setB) q.toNat) x xs=p at hm
   rw[← hp] at hm
   have hpr:=pads_in hin hm
   have hb:=(oK.1 hm).2.2
   have p1:0≤p∧p<f.g.pads.length:=by omega
   rw[BX]
   simp only[hb,Bool.true_and]
   refine wPath_path h0 ws _ _ (fun w hw'=>hw w (by simp [hw'])) Pk fun hz=>?_
   have hg:mq f p p=true:=by unfold mq; simp
   have hpw:hasL w p=true:=by
    cases hh:hasL w p with
    | true=>rfl
    | false=>
     have:p ∈ fJ (lw (cx f) f.eats.length (BitVec.twoPow 64 p.toNat) &&& ~~~(setB w)):=oK.2 ⟨p1.1,by omega,by rw[qjj h0 (hw w (by simp)) p1 p1,hg,hh]; rfl⟩
     rw[hz] at this; cases this
   exact BW.2 ⟨p.toNat,by omega,by rw[UK h0 p1 p1]; exact hg,by rw[ZV h0 (hw w (by simp)) p1]; exact hpw⟩
end Go.Proofs.YtnnkcjolgbpklaaGreat.L
end
section
open Go Go.Ev
set_option maxRecDepth 100000
namespace Go.Proofs.YtnnkcjolgbpklaaGreat.L
theorem sAwake:pcD P (K 39) 16 []=some (dB true):=dK (pcR_man (l:=38) (f:=16) (p:=fun ds=>match ds with | []=>some (.v (.bool true)) | _=>none) (by rfl))
theorem eql_bool{x y:Operand}{b c:Bool}:binD P .eql 4 x y (dB b) (dB c)=some (dB (decide (b=c))):=by
 cases b <;> cases c <;> rfl
theorem lfL{x:List Int}:bz (dL x)=true:=rfl
theorem ecF{f:Fld}:cutD (fC f) 0 5=some (fC f):=rfl
theorem last_i{t:TypeId}{x y:Operand}{α:Type}{g:α→D}{xs:List α}{k:Nat}(h:xs.length=k+1)(hb:k<100000):binD P .sub t x y (lenD (xs.map g)) (.v (.int .i64 1))=some (dI (k:Int)):=by
 have e:((xs.map g).length:Int)-1=(k:Int):=by rw[List.length_map,h]; omega
 rw[bk,zw (by rw[e]; unfold I64; omega),e]
theorem e25{k:Nat}{f:Fld}{plan:List (List Int)}(hp:plan.length<1000):C7_25 (K 39) k (dLL plan) (dLL (mayL f f.start plan)) (dB (decide (aL f f.start plan=[])))=some (dB true):=by
 unfold C7_25 B7_25
 have hg:(mayL f f.start plan)[plan.length]?=some (aL f f.start plan):=by
  rw[qij _ _ _ (Nat.le_refl _),List.take_length]
 have hl:(plan.map dL).length=plan.length:=List.length_map _
 have hz:decide ((((aL f f.start plan).map dI).length:Int)=0)=decide (aL f f.start plan=[]):=by
  rw[decide_eq_decide]
  constructor
  ·intro h
   exact List.length_eq_zero_iff.1 (by simpa using h)
  ·intro h; rw[h]; rfl
 rw[az,aj,az,aj,bk,hl,pJ hg,lfL,bY,az,aj,bk,gY,aj,hz,eql_bool,aj,decide_eq_true rfl,fK,sAwake,aj]
theorem l7_20{k:Nat}{f:Fld}(hg:f.g.joins.length<1000)(hn:f.g.pads.length<1000){plan:List (List Int)}{kk:Nat}(hk:plan.length=kk+1)(hb:kk<1000){w:List Int}(hw:plan[kk]?=some w)(hwl:w.length<1000){u8 u14:D}{x:Int}
  (hx:∀ p:Int,0≤p→p<f.g.pads.length→mq f x p=true→hasL w p=true):∀(r i m:Nat),i+r=f.g.pads.length→r<m →
  S7_20 (K 39) k m (dLL plan) u8 u14 (dI x) (dI (i:Int)) (fC f)=C7_25 (K 39) k (dLL plan) u8 u14
 | 0,i,0,_,hm=>by omega
 | 0,i,m+1,hi,_=>by
  have e0:(fC f)[0]?=some (.sl (f.g.pads.map dPad)):=rfl
  rw[r7_20]
  unfold C7_20 B7_20 C7_21 B7_21
  rw[e0,aj,az,aj,bk,ek,aj,cY,if_neg (by simp; omega)]
 | r+1,i,0,_,hm=>by omega
 | r+1,i,m+1,hi,hm=>by
  have e0:(fC f)[0]?=some (.sl (f.g.pads.map dPad)):=rfl
  have ih:=l7_20 (k:=k) hg hn hk hb hw hwl (u8:=u8) (u14:=u14) hx r (i+1) m (by omega) (by omega)
  rw[r7_20]
  unfold C7_20 B7_20 C7_21 B7_21
  rw[e0,aj,az,aj,bk,ek,aj,cY,if_pos (by simp; omega)]
  unfold C7_22 B7_22
  rw[ecF,aj,s41 (f:=f) (by omega) hg,aj,gw]
  cases h:mq f x (i:Int) with
  | false=>
   simp only[Bool.false_eq_true,if_false]
   unfold C7_23 B7_23 C7_24 B7_24
   rw[dq,fY (by omega),aj,ih]
  | true=>
   simp only[if_true]
   rw[az,aj,last_i hk (by omega),aj,aj,pJ hw,lfL,bY,s39 (by omega) hwl,aj,ew,aj,hx (i:Int) (by omega) (by omega) h]
   unfold C7_23 B7_23 C7_24 B7_24
   rw[Bool.not_true,dq,fY (by omega),aj,ih]
theorem e16{f:Fld}(hs:oz f){plan:List (List Int)}(hp:plan.length≤300)(hx:∀ x ∈ plan,x.length<1000){path:List Int}{a:Int}(ha:a ∈ f.start)(hwk:walk f plan a path) :
  C7_16 (K 39) 19999 (dLL plan) (dL path) (dLL (mayL f f.start plan)) (dB (decide (aL f f.start plan=[]))) (fC f)=some (dB true):=by
 have hend:=e25 (k:=19999) (f:=f) (plan:=plan) (by omega)
 have h17:C7_17 (K 39) 19999 (dLL plan) (dL path) (dLL (mayL f f.start plan)) (dB (decide (aL f f.start plan=[]))) (.v (.bool false)) (fC f)=some (dB true):=by
  unfold C7_17 B7_17
  rw[dq]
  exact hend
 unfold C7_16 B7_16
 rw[az,aj,az,aj,bk,bk,gY,aj,cY]
 by_cases h1:(((path.map dI).length:Nat):Int)=((plan.map dL).length:Nat)
 ·rw [if_pos h1, aj, bk, kK, aj, cY]
  by_cases h2:(0:Int)<((plan.map dL).length:Nat)
  ·rw [if_pos h2]
   simp only[List.length_map] at h1 h2
   obtain⟨kk,hk⟩:∃ kk,plan.length=kk+1:=⟨plan.length-1,by omega⟩
   by_cases h3:aL f f.start plan=[]
   ·have hq : path[kk]? = some (path[kk]'(by omega)) := List.getElem?_eq_getElem (by omega)
    have hw:plan[kk]?=some (plan[kk]'(by omega)):=List.getElem?_eq_getElem (by omega)
    have hwm:=hx _ (List.getElem_mem (show kk<plan.length by omega))
    generalize path[kk]'(by omega)=x at hq
    generalize plan[kk]'(by omega)=w at hw hwm
    have hxx:∀ p:Int,0≤p→p<f.g.pads.length→mq f x p=true→hasL w p=true:=by
     intro p p0 p1 hg
     cases hh:hasL w p with
     | true=>rfl
     | false=>
      have:=walk_last plan a path f.start kk x p w hwk ha (by omega) hk hq hw p0 p1 hg hh
      rw[h3] at this; cases this
    have h20:=l7_20 (k:=19999) (f:=f) (by have:=hs.1.2.1; omega) (by have:=hs.1.1; omega) hk (by omega) hw hwm (u8:=dLL (mayL f f.start plan)) (u14:=dB (decide (aL f f.start plan=[]))) hxx f.g.pads.length 0 19999 (by omega) (by have:=hs.1.1; omega)
    have hpl:path.length=kk+1:=by omega
    rw[decide_eq_true h3] at h20 hend ⊢
    unfold C7_17 B7_17
    rw[fK,az,aj,last_i hpl (by omega),aj,aj,pJ hq,cj,bY]
    unfold C7_18 B7_18 C7_19 B7_19
    exact h20.trans hend
   ·rw [decide_eq_false h3] at h17 ⊢
    exact h17
  ·rw[if_neg h2]; exact h17
 ·rw[if_neg h1]; exact h17
theorem e15{f:Fld}(hs:oz f){plan:List (List Int)}(h0:aErr f plan=0)(hp:plan.length≤300)(hx:∀ x ∈ plan,x.length<1000){path:List Int}{a:Int}(ha:a ∈ f.start)(hwk:walk f plan a path) :
  C7_15 (K 39) 19999 (dLL plan) (dL path) (dLL (mayL f f.start plan)) (fC f)=some (dB true):=by
 unfold C7_15 B7_15
 rw[ecF,aj,s18 (f:=f) (by omega) hs,aj,s20 (by omega) (by omega) (fun x h=>by have:=hx x h; unfold big; omega),aj,s40 (by omega) hs (by omega) hx h0,aj]
 exact e16 hs hp hx ha hwk
theorem l7_10{f:Fld}{plan:List (List Int)}{path:List Int}{ms:List (List Int)}(hm8:∀ x ∈ ms,x.length≤8):∀(suf pre:List Int) (m:Nat),path=pre++suf→suf.length<m→path.length<1000→(∀(k:Nat) (x:Int),path[k]?=some x→∃ row,ms[k]?=some row∧hasL row x=true) →
  S7_10 (K 39) 19999 m (dLL plan) (dL path) (dLL ms) (dI (pre.length:Nat)) (fC f)=C7_15 (K 39) 19999 (dLL plan) (dL path) (dLL ms) (fC f)
 | [],pre,0,_,hm,_,_=>by simp at hm
 | [],pre,m+1,hp,_,_,_=>by
  rw[r7_10]
  unfold C7_10 B7_10 C7_11 B7_11
  rw[List.append_nil] at hp
  subst hp
  rw[az,aj,ZZ,aj,dq]
 | x::suf,pre,0,_,hm,_,_=>by simp at hm
 | x::suf,pre,m+1,hp,hm,hb,hr=>by
  simp only[List.length_cons] at hm
  have ih:=l7_10 (plan:=plan) (f:=f) hm8 suf (pre++[x]) m (by rw[hp]; simp) (by omega) hb hr
  have hq:path[pre.length]?=some x:=by rw[hp]; simp
  obtain⟨row,h1,h2⟩:=hr _ _ hq
  have hlt:pre.length<path.length:=by rw[hp]; simp
  have hrl:=hm8 row (List.mem_of_getElem? h1)
  have hlss:∀ {t:TypeId} {x y:Operand},binD P .lss t x y (dI (pre.length:Nat)) (lenD (path.map dI))=some (.v (.bool true)):=by
   intro t x y
   rw[bk,ek,decide_eq_true (by simp; omega)]
  rw[r7_10]
  unfold C7_10 B7_10 C7_11 B7_11
  rw[az,aj,hlss,aj,fK]
  unfold C7_12 B7_12
  rw[az,aj,pJ h1,lfL,bY,az,aj,pJ hq,cj,bY,s39 (by omega) (by omega),aj,ew,aj,h2,Bool.not_true]
  unfold C7_13 B7_13 C7_14 B7_14
  rw[dq,cZ (a:=x) (by omega),aj,ih]
end Go.Proofs.YtnnkcjolgbpklaaGreat.L
end
section
open Go Go.Ev
set_option maxRecDepth 100000
namespace Go.Proofs.YtnnkcjolgbpklaaGreat.L
theorem worst_bd{f:Fld}(he:∀ x ∈ f.eats,0≤x∧x≤100){plan:List (List Int)}(hp:plan.length≤300):0≤vV f plan∧vV f plan≤30000:=by
 have h1:=(Nk.1 (Int.le_refl (vV f plan))).1
 refine⟨h1,?_⟩
 unfold vV
 refine Nk.2 ⟨by omega,fun q _=>?_⟩
 have:=(ZQ (f:=f) (near:=cx f) he (plan.map setB) q.toNat).2
 rw[List.length_map] at this
 omega
theorem e6{f:Fld}(hs:oz f){plan:List (List Int)}(h0:aErr f plan=0)(hp:plan.length≤300)(hx:∀ x ∈ plan,x.length<1000)(hne:f.start≠[]){path:List Int}{a:Int}(ha:a ∈ f.start)(hwk:walk f plan a path) :
  C7_6 (K 39) 19999 (dLL plan) (dL path) (dLL (mayL f f.start plan)) (dI 0) (dI (vV f plan)) (dL (oQ f (cx f) (plan.map setB) (setB f.start))) (dI 0) (fC f)=some (dB true):=by
 obtain⟨hf,h3,hall⟩:=yK h0
 obtain⟨h8,hn0,he,hst,hj⟩:=vZ hf
 have hea:=eats_ok hf
 have hst2:=hst
 unfold dZ at hst2
 simp only[Bool.and_eq_true,List.all_eq_true] at hst2
 have ha0:=jJ.1 (hst2.1 a ha)
 rw[List.all_eq_true] at hall
 have hall':∀ w ∈ plan,dZ f.g.pads.length w=true:=hall
 have hlen:=walk_len plan a path hwk
 have hin:=walk_rg plan a path hwk ha0.1 ha0.2
 have hin':∀ x ∈ path,0≤x∧x<f.eats.length:=fun x h=>by have:=hin x h; omega
 have hsb:(setB f.start).getLsbD a.toNat=true:=by
  rw[ZV hf hst ha0]
  unfold hasL
  rw[List.any_eq_true]
  exact⟨a,ha,by simp⟩
 have hpath:=walk_path hf plan a path (setB f.start) false hwk ha0.1 ha0.2 hall' hsb
 have hsum:=walk_sum hf plan a path hwk ha0.1 ha0.2 hall'
 have hle:sumE f path≤vV f plan:=by
  have:=(Nk.1 (Int.le_refl (vV f plan))).2 a ha
  omega
 have hib:inB f.eats.length (setB f.start):=by
  have:=setB_in h8 hst
  intro i hi hb
  have:=this i hi hb
  omega
 have hps:fJ (setB f.start)=f.start:=DX h8 hst
 have hwp:=wPath_path hf plan (setB f.start) false hall' hib (fun h=>absurd (hps ▸ h) hne)
 have hwl:=UX (f:=f) (near:=cx f) (plan.map setB) (setB f.start)
 rw[List.length_map] at hwl
 have hwi:=qiv (f:=f) (near:=cx f) (plan.map setB) (setB f.start) hib
 have hws:=qjz (near:=cx f) (by omega) hea (plan.map setB) (setB f.start)
 rw[hps] at hws
 have hws:sumE f (oQ f (cx f) (plan.map setB) (setB f.start))=vV f plan:=hws
 have hbd:=worst_bd hea (plan:=plan) hp
 generalize oQ f (cx f) (plan.map setB) (setB f.start)=wp at hwp hwl hwi hws ⊢
 have eF:=s18 (l:=39) (f:=f) (by omega) hs
 have eR:=s20 (l:=39) (by omega) (xs:=plan) (by omega) (fun x h=>by have:=hx x h; unfold big; omega)
 have eL1:=s27 (l:=39) (by omega) (xs:=path) (by unfold big; omega)
 have eL2:=s27 (l:=39) (by omega) (xs:=wp) (by unfold big; omega)
 have eS:=s30 (l:=39) (by omega) (f:=f) hea (ps:=path) (by omega) hin'
 have eP:=fun n=>s26 (l:=39) (by omega) hs (plan:=plan) (by omega) hx h0 (path:=path) hlen hin' (n:=n)
 have eW:=fun n=>s26 (l:=39) (by omega) hs (plan:=plan) (by omega) hx h0 (path:=wp) hwl hwi (n:=n)
 simp only[hpath,Bool.true_and] at eP
 simp only[hwp,Bool.true_and] at eW
 have hz:(!decide ((0:Int)=0))=false:=rfl
 have hml:(!decide ((((mayL f f.start plan).map dL).length:Int)=(((plan.map dL).length+1:Nat):Int)))=false:=by
  rw[List.length_map,List.length_map,mayL_len]; simp
 have hgt:decide (vV f plan<sumE f path)=false:=decide_eq_false (by omega)
 have hpp:decide (sumE f path≤sumE f path)=true:=decide_eq_true (Int.le_refl _)
 have hww:decide (vV f plan≤sumE f wp)=true:=decide_eq_true (by omega)
 have hno:decide (vV f plan+1≤sumE f path)=false:=decide_eq_false (by omega)
 have h7:C7_7 (K 39) 19999 (dLL plan) (dL path) (dLL (mayL f f.start plan)) (.v (.bool false)) (fC f)=some (dB true):=by
  unfold C7_7 B7_7 C7_8 B7_8 C7_9 B7_9
  rw[dq]
  exact(l7_10 (f:=f) (plan:=plan) (path:=path) (ms:=mayL f f.start plan) (mayL_short h8 plan f.start hst) path [] 19999 rfl (by omega) (by omega) (fun k x hk=>walk_may plan a path f.start k x hwk ha hk)).trans (e15 hs h0 hp hx ha hwk)
 unfold C7_6 B7_6
 rw[jX,aj,hz,dq,az,aj,az,aj,bk,bk,fY (by simp; omega),aj,jX,aj,hml,dq,jX,aj,hz,dq,ecF,aj,eS,aj,kK,aj,hgt,dq]
 simp only[aj,eF,eR,eL1,eL2,eS,eP,eW,hpp,hww,ew,Bool.not_true,dq]
 rw[Ij (by unfold I64; omega)]
 simp only[aj,eP,hno]
 exact h7
theorem every_law{f:Fld}{plan:List (List Int)}{words:List Int}(hw:∀ x ∈ words,0≤x∧x<65536):K 40 7 [dF f,dLL plan,.sl (words.map dW)]=some (dB true):=by
 rw[show(40:Nat)=39+1 from rfl,c7]
 unfold C7_0 B7_0 C7_1 B7_1
 obtain⟨b,eb,hb⟩:=sReady (l:=39) (by omega) (f:=f) (plan:=plan)
 have e3:(fC f)[3]?=some (dL f.start):=rfl
 rw[cw,aj,ecF,aj,eb,aj,ew,aj,gw]
 cases b with
 | false=>
  simp only[Bool.not_false,if_true]
  unfold C7_2 B7_2
  rw[fK,sAwake,aj]
 | true=>
  obtain⟨hs,t6,t7,h0⟩:=hb rfl
  have hx:∀ x ∈ plan,x.length<1000:=fun x h=>by have:=t7 x h; omega
  obtain⟨hf,h3,hall⟩:=yK h0
  obtain⟨h8,hn0,he,hst,hj⟩:=vZ hf
  simp only[Bool.not_true,Bool.false_eq_true,if_false]
  rw[e3,aj,az,aj,bk,gY,aj]
  by_cases hne:f.start=[]
  ·have hd : decide (((f.start.map dI).length : Int) = 0) = true := by rw [hne]; rfl
   rw[hd]
   unfold C7_2 B7_2
   rw[fK,sAwake,aj]
  ·have hd : decide (((f.start.map dI).length : Int) = 0) = false := decide_eq_false (by
    rw[List.length_map]
    have:f.start.length≠0:=fun z=>hne (List.length_eq_zero_iff.1 z)
    omega)
   rw[hd]
   have hst2:=hst
   unfold dZ at hst2
   simp only[Bool.and_eq_true,List.all_eq_true] at hst2
   obtain⟨path,a,hp,ha,hwk⟩:=s38 (l:=39) (by omega) (f:=f) (by have:=hs.1.2.1; omega) (by omega) hw (plan:=plan) (by omega) hx hne (fun x hx=>jJ.1 (hst2.1 x hx))
   have eF:=s18 (l:=39) (f:=f) (by omega) hs
   have eR:=s20 (l:=39) (by omega) (xs:=plan) (by omega) (fun x h=>by have:=hx x h; unfold big; omega)
   have eM:=sMayL (l:=39) (by omega) hs (plan:=plan) (by omega) hx h0
   have eL:=s25 (l:=39) (by omega) hs (plan:=plan) (by omega) hx h0
   rw[if_neg hne] at eL
   have t0:∀ d e:D,tupD (.tup [d,e]) 0=some d:=fun _ _=>rfl
   have t1:∀ d e:D,tupD (.tup [d,e]) 1=some e:=fun _ _=>rfl
   have r0:∀ d e g:D,tupD (.tup [d,e,g]) 0=some d:=fun _ _ _=>rfl
   have r1:∀ d e g:D,tupD (.tup [d,e,g]) 1=some e:=fun _ _ _=>rfl
   have r2:∀ d e g:D,tupD (.tup [d,e,g]) 2=some g:=fun _ _ _=>rfl
   unfold C7_2 B7_2
   rw[dq]
   unfold C7_3 B7_3
   rw[ecF,aj,hp,aj]
   unfold C7_4 B7_4
   rw[ecF,aj,eF,aj,eR,aj,eM,aj,t0,aj,t1,aj]
   unfold C7_5 B7_5
   rw[ecF,aj,eF,aj,eR,aj,eL,aj,r0,aj,r1,aj,r2,aj]
   exact e6 hs h0 h3 hx hne ha hwk
def toPad(x:Int × (Int × Unit)):Pad:=⟨x.1,x.2.1⟩
def toJoin(x:Int × (Int × Unit)):Join:=⟨x.1,x.2.1⟩
def toKd(x:Int × ((Int × (Int × Unit)) × ((Int × (Int × Unit)) × Unit))):Kd:=⟨x.1,x.2.1.1,x.2.1.2.1,x.2.2.1.1,x.2.2.1.2.1⟩
end Go.Proofs.YtnnkcjolgbpklaaGreat.L
end
section
open Go Go.Ev
set_option maxRecDepth 100000
namespace Go.Proofs.YtnnkcjolgbpklaaGreat.L
theorem every_els(pads:List (Int × (Int × Unit)))(joins:List (Int × (Int × Unit)))(kinds:List (Int × ((Int × (Int × Unit)) × ((Int × (Int × Unit)) × Unit))))(start eats:List Int)(plan:List (List Int))(words:List Int) :
  elsL preyEvery.Ts (((pads,joins,kinds,()),start,eats,()),plan,words,())=[dF ⟨⟨List.map toPad pads,List.map toJoin joins,List.map toKd kinds⟩,start,eats⟩,dLL plan,.sl (words.map dW)]:=by
 have h1:List.map dPad (List.map toPad pads)=List.map (fun y=>D.agg [dI y.1,dI y.2.1]) pads:=by rw[List.map_map]; rfl
 have h2:List.map tW (List.map toJoin joins)=List.map (fun y=>D.agg [dI y.1,dI y.2.1]) joins:=by rw[List.map_map]; rfl
 have h3:List.map dKd (List.map toKd kinds)=List.map (fun y=>D.agg [dI y.1,dI y.2.1.1,dI y.2.1.2.1,dI y.2.2.1.1,dI y.2.2.1.2.1]) kinds:=by rw[List.map_map]; rfl
 unfold dF fC
 simp only
 rw[h1,h2,h3]
 rfl
theorem man7:man (39+1) 7=none:=rfl
theorem u16_of{x:Int}(h:(Lit.int .u16 x).wf=true):0≤x∧x<65536:=by
 simp only[Lit.wf,Bool.and_eq_true,IntKind.min,IntKind.max,IntKind.signed,IntKind.bits] at h
 simp at h
 omega
theorem every_says:preyEvery.Law:=by
 unfold preyEvery.Law Says
 intro xs hx
 refine⟨39,man7,?_⟩
 have:=every_els xs.1.1.1 xs.1.1.2.1 xs.1.1.2.2.1 xs.1.2.1 xs.1.2.2.1 xs.2.1 xs.2.2.1
 refine(congrArg (fun z=>pcR P LA 20000 man (39+1) 7 z) this).trans ?_
 have hw:@List.length Int xs.2.2.1<capV∧∀ x:Int,@Membership.mem Int (List Int) _ xs.2.2.1 x→(Lit.int .u16 x).wf=true:=hx.2.2.1
 exact every_law (fun x hm=>u16_of (hw.2 x hm))
end Go.Proofs.YtnnkcjolgbpklaaGreat.L
end
section
open Go Go.Ev
set_option maxRecDepth 1000000
namespace Go.Proofs.YtnnkcjolgbpklaaGreat.L
noncomputable def alt:Alt:=⟨G.A,G.tab.get,fun f=>Nat.beq f 16⟩
theorem awake_run:Go.Ev.runT ((calE G.P G.A (G.KK+1) G.tab.get (38+1)).call 16 [] .nil 0)=true:=by kernel_rfl
theorem tab_ok:EX P alt.A 20000 alt.tab:=G.tab_ok
theorem awake_res:Cv P 16=false:=by kernel_rfl
theorem awake_flat:iJ P 16=true:=by kernel_rfl
theorem none_spec{b:Bool}{call:List Value→Hp→Nat→Res}:nx b call (fun _=>none):=by
 intro ds d F H n vs e hx hF hv
 cases e
theorem manOk:ManOk P alt 20000 man where
 no l f h:=by
  have h:Nat.beq f 16=true:=h
  unfold man
  rw[h]
  cases Nat.beq l 39 <;> simp
 res f h:=by
  have:f=16:=Nat.eq_of_beq_eq_true h
  subst this
  exact awake_res
 yes l f p h:=by
  unfold man at h
  cases hf:Nat.beq f 16 with
  | false=>rw[hf] at h; cases h
  | true=>
   have:f=16:=Nat.eq_of_beq_eq_true hf
   subst this
   rw[hf] at h
   cases hl:Nat.beq l 39 with
   | false=>
    rw[hl] at h
    cases h
    exact none_spec
   | true=>
    have:l=39:=Nat.eq_of_beq_eq_true hl
    subst this
    rw[hl] at h
    cases h
    exact man_run awake_flat ((congrArg Go.Ev.runT (calR_alt (q:=alt) (f:=16) rfl)).trans awake_run)
theorem everyProved:Rows.PreyEverySaid:=preyEvery.said tab_ok manOk every_says
end Go.Proofs.YtnnkcjolgbpklaaGreat.L
end
