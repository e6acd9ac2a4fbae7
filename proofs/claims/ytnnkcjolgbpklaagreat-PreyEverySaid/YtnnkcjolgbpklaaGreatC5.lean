import Derived.Test.YtnnkcjolgbpklaaGreatC4
set_option linter.unusedVariables false
section
namespace Go.Ev
open Go
variable {σ σ':Nat→Option Si} {F F' F0:Nat→Prop} {H H':Hp} {ρ:Type} {H0:KI ρ} {n n' n0:Nat} {G G':Tr Bx} {T:Tm} {A A':Tr AV} {P:Program}
 {kc:Value→Hp→Nat→Option ρ} {k:KO}
theorem reT_ok{Qx:D→Prop}{e:TypeId}{c':List D}{vs:List Value}{f:D→Option D}(hc:bj F H c' vs)(hl:c'.all bz=true)
  (hk:∀ w u,datD w=true→DRel F H w u→aV u=vs→OutP Qx (f w)):OutP Qx (reT P e c' f):=by
 unfold reT
 split
 ·exact hk _ (.agg ⟨vs⟩) rfl (by unfold DRel; exact⟨hl,vs,rfl,hc⟩) rfl
 ·split
  ·rename_i x
   unfold bj at hc
   obtain⟨w,vs',rfl,g1,g2⟩:=hc
   unfold bj at g2; subst g2
   simp only[List.all_cons,Bool.and_eq_true] at hl
   exact hk x w (VV hl.1) g1 (g1.leaf hl.1).2.2.2
  ·exact Out.no
 ·exact Out.no
theorem DNew.set{l:List D}{c:List Value}{s i o:Nat}{d:D}{v u:Value}{dv:List Value}(h:DNew F H l c s)(_:l[i]?=some d)(_:DRel F H d v)(hvl:(aV v).length=s)(hvc:∀(j:Nat) w,(aV v)[j]?=some w→c[i * s+j]?=some w)
  {d':D} (hd':datD d'=true) (hu:DRel F H d' u) (huc:aV u=(aV v).take o++dv++(aV v).drop (o+dv.length)) (ho:o+dv.length≤s) :
  DNew F H (l.set i d') (c.take (i * s+o)++dv++c.drop (i * s+o+dv.length)) s:=by
 have hlast:i * s+s≤c.length:=by
  rcases Nat.eq_zero_or_pos s with q | q
  ·subst q
   by_cases hc:0<c.length
   ·omega
   ·omega
  ·have := hvc (s - 1) _ (List.getElem?_eq_getElem (by omega))
   have:=nz this; omega
 have hget:∀(k:Nat),(c.take (i * s+o)++dv++c.drop (i * s+o+dv.length))[k]?=if k<i * s+o then c[k]? else if k<i * s+o+dv.length then dv[k-(i * s+o)]? else c[k]?:=by
  intro k
  by_cases q1:k<i * s+o
  ·rw[if_pos q1,List.getElem?_append_left (by simp; omega),List.getElem?_append_left (by simp; omega),List.getElem?_take,if_pos q1]
  ·rw [if_neg q1]
   by_cases q2:k<i * s+o+dv.length
   ·rw [if_pos q2, List.getElem?_append_left (by simp; omega), List.getElem?_append_right (by simp; omega)]
    congr 1; simp; omega
   ·rw [if_neg q2, List.getElem?_append_right (by simp; omega), List.getElem?_drop]
    congr 1; simp; omega
 intro k x hx
 rw[List.getElem?_set] at hx
 by_cases q:i=k
 ·subst q
  rw[if_pos rfl] at hx
  split at hx
  ·cases hx
   refine⟨hd',u,hu,by rw[huc]; simp; omega,fun j w hj=>?_⟩
   have hjl:=nz hj
   rw[huc] at hj hjl
   simp at hjl
   rw[hget]
   by_cases q1:j<o
   ·rw [if_pos (by omega)]
    rw[List.getElem?_append_left (by simp; omega),List.getElem?_append_left (by simp; omega),List.getElem?_take,if_pos q1] at hj
    exact hvc j w hj
   ·rw [if_neg (by omega)]
    by_cases q2:j<o+dv.length
    ·rw [if_pos (by omega)]
     rw[List.getElem?_append_left (by simp; omega),List.getElem?_append_right (by simp; omega)] at hj
     rw[← hj]; congr 1; simp; omega
    ·rw [if_neg (by omega)]
     rw[List.getElem?_append_right (by simp; omega),List.getElem?_drop] at hj
     refine hvc j w ?_
     rw[← hj]; congr 1; simp; omega
  ·cases hx
 ·rw [if_neg q] at hx
  obtain⟨g0,w,g1,g2,g3⟩:=h k x hx
  refine⟨g0,w,g1,g2,fun j y hj=>?_⟩
  have hj':=nz hj
  rw[hget]
  rcases Nat.lt_or_gt_of_ne q with q | q
  ·have : (i + 1) * s ≤ k * s := Nat.mul_le_mul_right s (by omega)
   rw[Nat.succ_mul] at this
   rw[if_neg (by omega),if_neg (by omega)]; exact g3 j y hj
  ·have : (k + 1) * s ≤ i * s := Nat.mul_le_mul_right s (by omega)
   rw[Nat.succ_mul] at this
   rw[if_pos (by omega)]; exact g3 j y hj
noncomputable def addrS:AV→Option Nat
 | .loc s _=>some s
 | .elo s _ _=>some s
 | _=>none
theorem storeA_run{t:TypeId}{a x:AV}{av v:Value}(h:Rs n0 H0 F0 σ F H n G)(ha:VRel σ F H a av)(hv:VRel σ F H x v) :
  OutP (fun y=>∃ w,addrS a=some w∧StRes P t av v n0 H0 F0 σ F H n k w y) (storeA P t a x G k):=by
 unfold storeA
 split
 ·rename_i sz hs
  cases a with
  | loc s o=>
   simp only
   unfold VRel at ha
   obtain⟨i,hi,hnil,rfl⟩:=ha
   split
   ·rename_i c hg
    obtain⟨j,hj,hB⟩:=h.site _ _ hg
    rw[hi] at hj; cases hj
    obtain⟨b1,b2,b3,cs,el,vec,b4,b5⟩:=hB
    have hF:¬ F i.b:=fun z=>by have:=b2.1 z; cases this
    have wired:∀ {x:AV},VRel σ F H x v→OutP (fun y=>∃ w,addrS (.loc s o)=some w∧StRes P t (.pointer (some ⟨i.b,o,none⟩)) v n0 H0 F0 σ F H n k w y) (storeB s o (c.map .d) sz x G k):=fun hv y e=>
     ⟨s,rfl,storeB_run h hi hnil hF b4 (bW.of_D b5) (by rw[List.all_map]; exact b3) hs hv y e⟩
    cases x with
    | d y=>
     refine putD_ok b5 b3 hv.un fun c' r1 r2 r3 r4 r5=>?_
     intro y ey
     refine⟨s,rfl,i,some (.cells (cs.take o++aV v++cs.drop (o+sz)) el false vec),_,hi,hnil,hF,fun Hm hm=>?_,fun H' hH'=>?_,ey⟩
     ·rw[VY hs r1,Cj (hm.trans b4) r2 (by omega),r1]
     ·exact h.write (B':=.dat c' false) hi hnil hF ⟨_,_,_,_,rfl⟩ hH' (fun hfz=>
       ⟨hnil,⟨fun z=>absurd z hF,fun z=>by cases z⟩,r5,_,el,vec,by rw[hH',if_pos rfl],r4.mono (fun _ z=>z) hfz⟩)
    | _=>exact wired hv
   ·rename_i c hg
    obtain⟨j,hj,b1,b2,b3,cs,el,vec,b4,b5⟩:=h.site _ _ hg
    rw[hi] at hj; cases hj
    exact fun y e=>⟨s,rfl,storeB_run h hi hnil b2 b4 b5 b3 hs hv y e⟩
   ·exact Out.no
  | elo s q o=>
   simp only
   unfold VRel at ha
   obtain⟨i,hi,hnil,rfl⟩:=ha
   split
   ·rename_i els e z hg
    cases x with
    | d y=>
     refine Out.bindO fun el hel=>BZ fun _=>?_
     obtain⟨j,hj,b1,b2,b3,b4⟩:=h.site _ _ hg
     rw[hi] at hj; cases hj
     rcases b4 with⟨b4,_⟩ | ⟨_,b4,b5,b6,c,vec,b7,b8⟩
     ·rw[hnil] at b4; cases b4
     ·have hF : ¬ F i.b := fun z => by have := b4.1 z; cases this
      have hnew:=b6.new b7
      obtain⟨g0,w,g1,g2,g3⟩:=hnew q el hel
      have hce:=g1.cells g0
      refine putD_ok hce.1 hce.2 hv.un fun c' r1 rl r2 r3 r4=>reT_ok r3 r4 fun d' u u0 u1 u2=>?_
      have hlast:q * z+z≤c.length:=by
       have:=g3 (z-1) _ (List.getElem?_eq_getElem (by omega))
       have:=nz this; omega
      have hset:=hnew.set (o:=o) (dv:=aV v) hel g1 g2 g3 u0 u1 (by rw[u2,r1]) (by omega)
      intro y ey
      refine⟨s,rfl,i,some (.cells (c.take (q * z+o)++aV v++c.drop (q * z+o+(aV v).length)) e false vec),_,hi,hnil,hF,fun Hm hm=>?_,fun H' hH'=>?_,ey⟩
      ·rw[b2,VY hs r1,Cj (hm.trans b7) rl (by omega)]
      ·exact h.write (B':=.vec (els.set q d') e z false) hi hnil hF ⟨_,_,_,_,rfl⟩ hH' (fun hfz=>by
        have hg':H'.get i.b=some (.cells (c.take (q * z+o)++aV v++c.drop (q * z+o+(aV v).length)) e false vec):=by rw[hH',if_pos rfl]
        refine⟨by simp [b1],b2,b3,.inr ⟨hnil,⟨fun y=>absurd y hF,fun y=>by cases y⟩,by simp [b5],hset.at (fun _ z=>z) hfz hg',_,vec,hg',?_⟩⟩
        simp only[List.length_append,List.length_take,List.length_drop,List.length_set]
        rcases b8 with⟨x1,x2,x3⟩ | ⟨x1,x2⟩
        ·exact .inl ⟨x1,x2,by omega⟩
        ·exact .inr ⟨x1,by omega⟩)
    | _=>exact Out.no
   ·exact Out.no
  | _=>exact Out.no
 ·exact Out.no
theorem storeA_ok{t:TypeId}{a x:AV}{av v:Value}(h:Rs n0 H0 F0 σ F H n G)(ha:VRel σ F H a av)(hv:VRel σ F H x v)(hk:KOk n0 H0 F0 σ F H n kc k) :
  Out n0 H0 F0 (bindO (dQ P t av v H) fun H=>kc undef H n) (storeA P t a x G k):=by
 intro y e
 obtain⟨w,_,i,x,G',h1,h2,_,h3,h4,h5⟩:=storeA_run (P:=P) h ha hv y e
 rw[h3 H rfl,aj]
 obtain⟨r1,r2⟩:=h4 (H.set i.b x) (fun b=>by rw[Tr.get_set])
 exact hk _ _ _ _ _ _ _ none r1 tup0 r2 y h5
noncomputable def appT(P:Program)(t t2:TypeId):Option (TypeId × Nat):=match eZ P t with
 | some e=>match eZ P t2 with
  | some _=>match szT P e,xV P e,kV P e with
   | some s,some b,some z=>match Nat.beq (aV z).length s && Nat.blt s 1048576 && Nat.blt b 1048576 && Nat.ble 1 s with
    | true=>some (e,s)
    | false=>none
   | _,_,_=>none
  | none=>none
 | none=>none
noncomputable def srcA(y:AV)(s:Nat)(G:Tr Bx)(k:List D→Option D):Option D:=match y with
 | .d u=>bindO (elsD u) fun l=>chkK (l.all (szOk s)) (k l)
 | .osl w=>match G.get w with
  | some (.vec els _ sz _)=>match Nat.beq sz s with
   | true=>k els
   | false=>none
  | _=>none
 | _=>none
theorem loadN_zero{a:Addr}:loadN H a 0=none∨loadN H a 0=some []:=by
 have hc:∀ c:List Value,cut c a.off 0=some []:=fun c=>by unfold cut; simp
 unfold loadN
 split
 ·exact .inl rfl
 ·split
  ·rw[hc]; exact .inr rfl
  ·rw[hc]; exact .inr rfl
  ·exact .inl rfl
theorem Qw{s cap:Nat}{a:Option Addr}:pW H s (.slice a 0 cap)=some ([],0):=by
 cases a with
 | none=>simp [pW]
 | some a=>
  simp only[pW,Nat.zero_mul]
  rcases loadN_zero (H:=H) (a:=a) with q | q <;> rw[q] <;> rfl
theorem srcA_ok{Qx:D→Prop}{y:AV}{yv:Value}{s:Nat}{f:List D→Option D}(h:Rs n0 H0 F0 σ F H n G)(hy:VRel σ F H y yv)(hs:1≤s)
  (hk:∀ l new,pW H s yv=some (new,l.length)→DNew F H l new s→new.length=l.length * s→OutP Qx (f l)):OutP Qx (srcA y s G f):=by
 cases y with
 | d u=>
  refine Out.bindO fun l hl=>Out.chk fun hsz=>?_
  rcases Jk hy.un hl with⟨rfl,rfl⟩ | ⟨b,o,cap,s',rfl,g1,g2,g3⟩ | ⟨rfl,a,cap,rfl,_⟩
  rotate_left 2
  ·exact hk [] [] Qw DNew.nil (by simp)
  ·exact hk [] [] Qw DNew.nil (by simp)
  ·by_cases hne : l = []
   ·subst hne; exact hk [] [] Qw DNew.nil (by simp)
   ·obtain ⟨g3, g4⟩ := g3.resolve_left hne
    have hss:s'=s:=by
     cases l with
     | nil=>exact absurd rfl hne
     | cons d l=>
      simp only[List.all_cons,Bool.and_eq_true] at hsz
      have:=Nat.eq_of_beq_eq_true hsz.1
      unfold DAt at g4
      obtain⟨⟨q0,v,q1,q2,_⟩,_⟩:=g4
      rw[← q2,(q1.cells q0).1.length]; exact this
    subst hss
    obtain⟨c,c1,c2,c3,c4⟩:=g4.flatS hne
    refine hk l c ?_ c3 c1
    have:=loadN_at (k:=0) (s:=l.length * s') c2 (by omega) c4
    simp only[Nat.add_zero,List.drop_zero] at this
    rw[← c1,List.take_length] at this
    simp only[pW,← c1,this]
 | osl w=>
  simp only[srcA]
  split
  ·rename_i els e sz fz hg
   split
   ·rename_i q
    have:=Nat.eq_of_beq_eq_true q; subst this
    obtain⟨i,hi,b1,b2,b3,b4⟩:=h.site _ _ hg
    unfold VRel at hy
    obtain⟨j,hj,hy⟩:=hy
    rw[hi] at hj; cases hj
    rcases b4 with⟨b4,rfl⟩ | ⟨b4,b5,b6,b7,c,vec,b8,b9⟩
    ·rcases hy with ⟨_, rfl⟩ | ⟨z, _⟩
     ·exact hk [] [] Qw DNew.nil (by simp)
     ·rw[b4] at z; cases z
    ·rcases hy with ⟨z, _⟩ | ⟨_, rfl⟩
     ·rw[b4] at z; cases z
     ·have hle : els.length * sz ≤ c.length := by
       rcases b9 with⟨_,_,x⟩ | ⟨_,x⟩
       ·omega
       ·rw[x]; exact Nat.mul_le_mul_right sz b6
      refine hk els (c.take (els.length * sz)) ?_ ((b7.new b8).pre) (by simp; omega)
      have:loadN H ⟨i.b,0,none⟩ (els.length * sz)=some (c.take (els.length * sz)):=by
       unfold loadN
       simp only[b8]
       rw[HY (by omega)]; rfl
      simp only[pW,b1,this]
   ·exact Out.no
  ·exact Out.no
 | _=>exact Out.no
noncomputable def poiA(w:Nat)(a:AV):AV:=match okA (notS w) a with
 | true=>a
 | false=>.bad
noncomputable def poiB(w:Nat):Bx→Bx
 | .box l=>.box (l.map (poiA w))
 | .env l=>.env (l.filter fun x=>okA (notS w) x.2)
 | B=>B
theorem poiA_ok{w:Nat}{a:AV}:okA (notS w) (poiA w a)=true∧(oW a=true→oW (poiA w a)=true):=by
 unfold poiA
 split
 ·rename_i h; exact⟨h,id⟩
 ·exact⟨rfl,fun _=>rfl⟩
theorem poiL{w:Nat}:∀ {l:List AV} {vs:List Value},bW σ F H l vs→l.all oW=true→bW σ F H (l.map (poiA w)) vs∧(l.map (poiA w)).all oW=true∧okAL (notS w) (l.map (poiA w))=true
 | [],vs,h,_=>⟨h,rfl,by simp [okAL]⟩
 | a::l,vs,h,hl=>by
  unfold bW at h
  obtain⟨v,vs',rfl,h1,h2⟩:=h
  simp only[List.all_cons,Bool.and_eq_true] at hl
  obtain⟨i1,i2,i3⟩:=poiL (w:=w) h2 hl.2
  refine⟨?_,?_,?_⟩
  ·simp only [List.map_cons, bW]
   refine⟨v,vs',rfl,?_,i1⟩
   unfold poiA
   split
   ·exact h1
   ·unfold VRel; exact(h1.leaf hl.1).1
  ·simp only[List.map_cons,List.all_cons,Bool.and_eq_true]; exact⟨poiA_ok.2 hl.1,i2⟩
  ·simp only[List.map_cons,okAL,Bool.and_eq_true]; exact⟨poiA_ok.1,i3⟩
theorem Rs.poison(h:Rs n0 H0 F0 σ F H n G)(w:Nat):Rs n0 H0 F0 σ F H n (mapT (poiB w) G)∧∀ s B,(mapT (poiB w) G).get s=some B→okB (notS w) B=true:=by
 have key:∀ s B,(mapT (poiB w) G).get s=some B→∃ B0,G.get s=some B0∧B=poiB w B0:=by
  intro s B e
  rw[mapT_get] at e
  cases hg:G.get s with
  | none=>rw[hg] at e; cases e
  | some B0=>rw[hg] at e; cases e; exact⟨B0,rfl,rfl⟩
 refine⟨⟨h.le,h.keep,h.sub,h.fin,h.low,fun s B e=>?_,fun s i e=>?_,h.own,h.inj,h.ownC,h.finC,h.fs,fun s l e i hi=>?_⟩,fun s B e=>?_⟩
 ·obtain ⟨B0, h1, rfl⟩ := key s B e
  obtain⟨i,hi,hB⟩:=h.site s B0 h1
  refine⟨i,hi,?_⟩
  cases B0 with
  | box l=>
   obtain⟨b1,b2,b3,c,e,vec,b4,b5⟩:=hB
   have:=poiL (w:=w) b5 b3
   exact⟨b1,b2,this.2.1,c,e,vec,b4,this.1⟩
  | env l=>exact⟨hB.1,fun x hx=>hB.2 x (List.mem_filter.1 hx).1⟩
  | _=>exact hB
 ·obtain ⟨B, hB⟩ := h.back s i e
  rw[mapT_get,hB]; exact⟨_,rfl⟩
 ·obtain ⟨B0, h1, h2⟩ := key s _ e
  cases B0 with
  | env l0=>exact h.tms s l0 h1 i hi
  | _=>cases h2
 ·obtain ⟨B0, h1, rfl⟩ := key s B e
  obtain⟨i,hi,hB⟩:=h.site s B0 h1
  cases B0 with
  | box l=>
   obtain⟨b1,b2,b3,c,e,vec,b4,b5⟩:=hB
   exact(poiL (w:=w) b5 b3).2.2
  | env l=>exact List.all_eq_true.2 fun x hx=>(List.mem_filter.1 hx).2
  | _=>rfl
noncomputable def appendA(P:Program)(t t2:TypeId)(x y:AV)(dst:Option Tmp)(G:Tr Bx)(k:KO):Option D:=getK (appT P t t2) fun p=>srcA y p.2 G fun els2=>match x with
 | .d (.v (.slice none 0 0))=>Kv dst G fun w=>bindO (appD [] els2) fun l=>k (.osl w) none (G.set w (some (.vec l p.1 p.2 false)))
 | .osl w=>match G.get w with
  | some (.vec els e s false)=>match Nat.beq e p.1 && Nat.beq s p.2 with
   | true=>bindO (appD els els2) fun l=>k (.osl w) (some w) ((mapT (poiB w) G).set w (some (.vec l p.1 p.2 false)))
   | false=>none
  | _=>none
 | _=>none
theorem appT_ok{t t2 e:TypeId}{s:Nat}(h:appT P t t2=some (e,s)):∃ e2 b z,eZ P t=some e∧eZ P t2=some e2∧szT P e=some s∧xV P e=some b∧kV P e=some z∧Nat.beq (aV z).length s=true∧s<1048576∧b<1048576∧1≤s:=by
 unfold appT at h
 split at h
 ·rename_i e' h1
  split at h
  ·rename_i e2 h2
   split at h
   ·rename_i s' b z h3 h4 h5
    split at h
    ·rename_i h6
     cases h
     simp only[Bool.and_eq_true] at h6
     exact⟨e2,b,z,h1,h2,h3,h4,h5,h6.1.1.1,by simpa using h6.1.1.2,by simpa using h6.1.2,Nat.le_of_ble_eq_true h6.2⟩
    ·cases h
   ·cases h
  ·cases h
 ·cases h
theorem appD_ok{l l' r:List D}(h:appD l l'=some r):r=l++l'∧l.length+l'.length<1048576:=by
 unfold appD at h
 split at h
 ·cases h; exact⟨rfl,by assumption⟩
 ·cases h
theorem osl_ok{w:Nat}{i:Si}(hi:i.nil=false){m cap b:Nat}(h1:i.b=b)(h2:i.len=m)(h3:i.cap=cap):VRel (upd σ w i) F H (.osl w) (.slice (some ⟨b,0,none⟩) m cap):=by
 subst h1; subst h2; subst h3
 unfold VRel; exact⟨i,gX,.inr ⟨hi,rfl⟩⟩
theorem Qy{v:Value}{s:St}{f:Value→Hp→Nat→Option ρ}:stK (some (v,s)) f=f v s.H s.n:=rfl
theorem killT{w:Nat}{i':Si}(hfz:Fz F H H')(ht:TRl σ F H T A):TRl (upd σ w i') F H' T (Aj (some w) A):=fun t a e=>by
 obtain⟨h1,h2⟩:=filtT_get e
 obtain⟨v,h3,h4⟩:=ht t a h1
 exact⟨v,h3,VRel.put hfz (.inr (.inr h2)) h4⟩
theorem appNil{t t2 e:TypeId}{s:Nat}{yv:Value}{new:List Value}{m:Nat}(hT:appT P t t2=some (e,s))(hsrc:pW H s yv=some (new,m))(hm:m<1048576) :
  stK (eJ P (bare H n) t t2 (.slice none 0 0) yv) kc=if m=0 then kc (.slice none 0 0) H n else kc (.slice (some ⟨n,0,none⟩) m capV) (H.set n (some (.cells new e false (some s)))) (n+1):=by
 obtain⟨e2,b,z,h1,h2,h3,h4,h5,h6,h7,h8,h9⟩:=appT_ok hT
 have e1:(bare H n).H=H:=rfl
 unfold eJ
 simp only[h1,h2,h3,h4,h5,h6,e1,hsrc]
 cases m with
 | zero=>rfl
 | succ m=>
  have hb:OW (m+1) s b=true:=by
   unfold OW
   simp [h7,h8,hm]
  simp only[hb]
  rfl
theorem appendA_ok{t t2:TypeId}{x y:AV}{xv yv:Value}{dst:Option Tmp}(h:Rs n0 H0 F0 σ F H n G)(hx:VRel σ F H x xv)(hy:VRel σ F H y yv)(hk:KOk n0 H0 F0 σ F H n kc k) :
  Out n0 H0 F0 (stK (eJ P (bare H n) t t2 xv yv) kc) (appendA P t t2 x y dst G k):=by
 unfold appendA
 refine Out.getK fun p hp=>?_
 obtain⟨e,s⟩:=p
 obtain⟨e2,b,z,h1,h2,h3,h4,h5,h6,h7,h8,h9⟩:=appT_ok hp
 simp only
 refine srcA_ok h hy h9 fun els2 new hsrc hnew hnl=>?_
 have fresh:∀ {w:Nat} {G1:Tr Bx} {l:List D} {c:List Value} {H1:Hp} {q:Option Nat},Rs n0 H0 F0 σ F H n G1→DNew F H l c s→c.length=l.length * s →
   (∀ b,b<n→(∀ i,σ w=some i→i.nil=false→b≠i.b)→H1.get b=H.get b)→(∀ i,σ w=some i→i.nil=false→¬ F i.b)→(σ w=none∨q=some w∧∀ s' B,G1.get s'=some B→okB (notS w) B=true) →
   (q=none→σ w=none)→(∀ T A,TRl σ F H T A→Fz F H (H1.set n (some (.cells c e false (some s))))→TRl (upd σ w ⟨n,l.length,capV,s,false,.nil⟩) F (H1.set n (some (.cells c e false (some s)))) T (Aj q A))→l.length<1048576 →
   Out n0 H0 F0 (kc (.slice (some ⟨n,0,none⟩) l.length capV) (H1.set n (some (.cells c e false (some s)))) (n+1)) (k (.osl w) q (G1.set w (some (.vec l e s false)))):=by
  intro w G1 l c H1 q hR hd hcl hH1 hnF hmen hq htr hlen
  have hp:=hR.put (H':=H1.set n (some (.cells c e false (some s)))) (n':=n+1) (s:=w) (i':=⟨n,l.length,capV,s,false,.nil⟩) (B':=.vec l e s false) (Nat.le_succ _)
   (fun b hb hne=>by rw[Tr.get_set,if_neg (by omega)]; exact hH1 b hb hne) (fun i hi hnil=>.inl (hnF i hi hnil)) (fun _=>.inl ⟨Nat.le_refl _,by simp⟩)
   (by
    rcases hmen with z | ⟨_,z⟩
    ·exact .inl z
    ·exact .inr (.inr fun s' B _ hB=>z s' B hB))
   (fun hfz=>by
    have hg:(H1.set n (some (.cells c e false (some s)))).get n=some (.cells c e false (some s)):=by rw[Tr.get_set,if_pos rfl]
    exact⟨rfl,rfl,h9,.inr ⟨rfl,⟨fun z=>absurd (hR.lt z) (by simp),fun z=>by cases z⟩,by simp only[capV]; omega,hd.at (fun _ z=>z) hfz hg,c,some s,hg,.inl ⟨rfl,rfl,hcl⟩⟩⟩)
  refine hk _ _ _ _ _ _ _ q hp.2 (osl_ok rfl rfl rfl rfl) ⟨Nat.le_succ _,fun _ z=>z,fun T A ht=>htr T A ht hp.1,fun hqn=>?_⟩
  have hnone:=hq hqn
  refine⟨fun b hb hpr=>hpr.of_eq ?_,fun t i hi=>⟨i,by rw[lz (fun z=>by subst z; rw[hnone] at hi; cases hi)]; exact hi,rfl,rfl⟩⟩
  rw[Tr.get_set,if_neg (by omega)]
  exact hH1 b hb fun i hi=>by rw[hnone] at hi; cases hi
 split
 ·
  refine BK fun w _ hw=>Out.bindO fun l hl=>?_
  obtain⟨hle,hlen⟩:=appD_ok hl
  simp only[List.nil_append] at hle
  simp only[List.length_nil,Nat.zero_add] at hlen
  rw[hle]
  have hx:=hx.un
  unfold DRel at hx
  obtain⟨rfl,_⟩:=hx
  have hnone:=h.none_of hw
  rw[appNil hp hsrc hlen]
  by_cases hz:els2.length=0
  ·rw [if_pos hz]
   have hnil:els2=[]:=List.length_eq_zero_iff.1 hz
   subst hnil
   have hp:=h.put (H':=H) (n':=n) (s:=w) (i':=⟨0,0,0,s,true,.nil⟩) (B':=.vec [] e s false) (Nat.le_refl _) (fun _ _ _=>rfl) (fun _ _ _=>.inr rfl) (fun z=>by cases z) (.inl hnone)
    (fun _=>⟨rfl,rfl,h9,.inl ⟨rfl,rfl⟩⟩)
   have hσ:∀ t i,σ t=some i→upd σ w ⟨0,0,0,s,true,.nil⟩ t=some i:=fun t i hx=>by rw[lz (fun z=>by subst z; rw[hnone] at hx; cases hx)]; exact hx
   exact hk _ _ _ _ _ _ _ none hp.2 (by unfold VRel; exact⟨_,gX,.inl ⟨rfl,rfl⟩⟩) ⟨Nat.le_refl _,fun _ z=>z,fun T A ht=>ht.mono hσ (fun _ z=>z) hp.1,fun _=>⟨fun _ _ z=>z,fun t i hx=>⟨i,hσ t i hx,rfl,rfl⟩⟩⟩
  ·rw [if_neg hz]
   exact fresh (H1:=H) h hnew hnl (fun _ _ _=>rfl) (fun i hi=>by rw[hnone] at hi; cases hi) (.inl hnone) (fun _=>hnone)
    (fun T A ht hfz=>ht.mono (fun t i hx=>by rw[lz (fun z=>by subst z; rw[hnone] at hx; cases hx)]; exact hx) (fun _ z=>z) hfz) hlen
 ·
  rename_i w
  split
  ·rename_i els e' s' hg
   split
   ·rename_i hes
    rw[Bool.and_eq_true] at hes
    have q1:=Nat.eq_of_beq_eq_true hes.1
    have q2:=Nat.eq_of_beq_eq_true hes.2
    subst q1; subst q2
    refine Out.bindO fun l hl=>?_
    obtain⟨rfl,hlen⟩:=appD_ok hl
    obtain⟨i,hi,b1,b2,b3,b4⟩:=h.site _ _ hg
    unfold VRel at hx
    obtain⟨j,hj,hx⟩:=hx
    rw[hi] at hj; cases hj
    obtain⟨hpo,hpo2⟩:=h.poison w
    rcases b4 with⟨b4,rfl⟩ | ⟨b4,b5,b6,b7,c,vec,b8,b9⟩
    ·rcases hx with ⟨_, rfl⟩ | ⟨z, _⟩
     ·simp only [List.nil_append, List.length_nil, Nat.zero_add] at hlen ⊢
      rw[appNil hp hsrc hlen]
      by_cases hz:els2.length=0
      ·rw [if_pos hz]
       have hnil:els2=[]:=List.length_eq_zero_iff.1 hz
       subst hnil
       have hup:upd σ w i=σ:=by
        funext y; unfold upd; split
        ·rename_i q; rw[q,hi]
        ·rfl
       have hp:=hpo.put (H':=H) (n':=n) (s:=w) (i':=i) (B':=.vec [] e' s' false) (Nat.le_refl _) (fun _ _ _=>rfl) (fun _ _ _=>.inr rfl) (fun z=>by rw[b4] at z; cases z) (.inr (.inl hi))
        (fun _=>⟨b1,b2,b3,.inl ⟨b4,rfl⟩⟩)
       rw[hup] at hp
       exact hk _ _ _ _ _ _ _ (some w) hp.2 (by unfold VRel; exact⟨i,hi,.inl ⟨b4,rfl⟩⟩) ⟨Nat.le_refl _,fun _ z=>z,fun T A ht=>fun t a e=>ht t a (filtT_get e).1,fun z=>by cases z⟩
      ·rw [if_neg hz]
       exact fresh (H1:=H) hpo hnew hnl (fun _ _ _=>rfl) (fun j hj hn=>by rw[hi] at hj; cases hj; rw[b4] at hn; cases hn) (.inr ⟨rfl,hpo2⟩) (fun z=>by cases z) (fun T A ht hfz=>killT hfz ht) hlen
     ·rw[b4] at z; cases z
    ·rcases hx with ⟨z, _⟩ | ⟨_, rfl⟩
     ·rw[b4] at z; cases z
     ·have hF : ¬ F i.b := fun z => by have := b5.1 z; cases this
      have hle:els.length * s'≤c.length:=by
       rcases b9 with⟨_,_,x⟩ | ⟨_,x⟩
       ·omega
       ·rw[x]; exact Nat.mul_le_mul_right s' b6
      have hold:loadN H ⟨i.b,0,none⟩ (els.length * s')=some (c.take (els.length * s')):=by
       unfold loadN
       simp only[b8]
       rw[HY (by omega)]; rfl
      have hb:OW (els.length+els2.length) s' b=true:=by
       unfold OW
       simp [h7,h8,hlen]
      have hdn:DNew F H (els++els2) (c.take (els.length * s')++new) s':=((b7.new b8).pre).app (by simp; omega) hnew
      have hll:(c.take (els.length * s')++new).length=(els++els2).length * s':=by simp [hnl,Nat.add_mul]; omega
      have e1:(bare H n).H=H:=rfl
      have hgrow:Out n0 H0 F0 (kc (.slice (some ⟨n,0,none⟩) (els.length+els2.length) capV) (H.set n (some (.cells (c.take (els.length * s')++new) e' false (some s')))) (n+1)) (k (.osl w) (some w) ((mapT (poiB w) G).set w (some (.vec (els++els2) e' s' false)))):=by
       have:=fresh (H1:=H) (w:=w) (q:=some w) hpo hdn hll (fun _ _ _=>rfl) (fun j hj hn=>by rw[hi] at hj; cases hj; exact hF) (.inr ⟨rfl,hpo2⟩) (fun z=>by cases z) (fun T A ht hfz=>killT hfz ht) (by simpa using hlen)
       rw[List.length_append] at this
       exact this
      rcases b9 with⟨x1,rfl,x3⟩ | ⟨x1,x2⟩
      ·have hap : eJ P (bare H n) t t2 (.slice (some ⟨i.b, 0, none⟩) i.len i.cap) yv = some (Fq (bare H n) (H.set i.b none) (els.length + els2.length) s' (c.take (els.length * s') ++ new) e') := by
        unfold eJ
        simp only[h1,h2,h3,h4,h5,h6,e1,hsrc,b1,hold,hb]
        unfold sy
        rw[x1]
        have c1:Nat.blt capV capV=false:=by kernel_rfl
        have c2:Nat.beq capV capV=true:=Nat.beq_refl _
        have c3:Nat.beq e' e'=true:=Nat.beq_refl _
        have c4:Nat.beq s' s'=true:=Nat.beq_refl _
        simp only[c1,c2,e1,b8,c3,c4,Bool.true_and,hnew.leaf h9 hnl]
       rw[hap,Fq,Qy]
       have hne:i.b≠n:=by have:=(h.own w i hi b4).2; omega
       have:=fresh (H1:=H.set i.b none) (w:=w) (q:=some w) hpo hdn hll (fun b hb hne=>by rw[Tr.get_set,if_neg (hne i hi b4)]) (fun j hj hn=>by rw[hi] at hj; cases hj; exact hF) (.inr ⟨rfl,hpo2⟩) (fun z=>by cases z) (fun T A ht hfz=>killT hfz ht) (by simpa using hlen)
       rw[List.length_append] at this
       exact this
      ·have c1 : Nat.blt i.cap capV = true := by simpa using x1
       by_cases hroom:els.length+els2.length≤i.cap
       ·have c2 : Nat.ble (els.length + els2.length) i.cap = true := by simpa using hroom
        have hm:(els.length+els2.length) * s'≤i.cap * s':=Nat.mul_le_mul_right s' hroom
        rw[Nat.add_mul] at hm
        have hst:xW H ⟨i.b,els.length * s',none⟩ new=some (H.set i.b (some (.cells (c.take (els.length * s')++new++c.drop (els.length * s'+new.length)) e' false vec))):=Cj b8 (hnew.leaf h9 hnl) (by omega)
        have hap:eJ P (bare H n) t t2 (.slice (some ⟨i.b,0,none⟩) i.len i.cap) yv=some (.slice (some ⟨i.b,0,none⟩) (els.length+els2.length) i.cap,{ bare H n with H:=H.set i.b (some (.cells (c.take (els.length * s')++new++c.drop (els.length * s'+new.length)) e' false vec)) }):=by
         unfold eJ
         simp only[h1,h2,h3,h4,h5,h6,e1,hsrc,b1,hold,hb]
         unfold sy
         simp only[c1,c2,addA,Nat.zero_add,e1,hst]
        rw[hap,Qy]
        have hp:=hpo.put (H':=H.set i.b (some (.cells (c.take (els.length * s')++new++c.drop (els.length * s'+new.length)) e' false vec))) (n':=n) (s:=w) (i':={ i with len:=(els++els2).length }) (B':=.vec (els++els2) e' s' false) (Nat.le_refl _)
         (fun b hb hne=>by rw[Tr.get_set,if_neg (hne i hi b4)]) (fun j hj _=>.inl (by rw[hi] at hj; cases hj; exact hF)) (fun z=>.inr ⟨i,hi,b4,rfl⟩) (.inr (.inr fun s' B _ hB=>hpo2 s' B hB))
         (fun hfz=>by
          have hg':(H.set i.b (some (.cells (c.take (els.length * s')++new++c.drop (els.length * s'+new.length)) e' false vec))).get i.b=some (.cells (c.take (els.length * s')++new++c.drop (els.length * s'+new.length)) e' false vec):=by rw[Tr.get_set,if_pos rfl]
          refine⟨rfl,b2,b3,.inr ⟨b4,⟨fun z=>absurd z hF,fun z=>by cases z⟩,by simpa using hroom,(hdn.ext _).at (fun _ z=>z) hfz hg',_,vec,hg',.inr ⟨x1,?_⟩⟩⟩
          simp; omega)
        refine hk _ _ _ _ _ _ _ (some w) hp.2 (osl_ok (i:={ i with len:=(els++els2).length }) b4 rfl List.length_append rfl) ⟨Nat.le_refl _,fun _ z=>z,fun T A ht=>killT hp.1 ht,fun z=>by cases z⟩
       ·have c2 : Nat.ble (els.length + els2.length) i.cap = false := by rw [Bool.eq_false_iff]; intro z; exact hroom (Nat.le_of_ble_eq_true z)
        have hap:eJ P (bare H n) t t2 (.slice (some ⟨i.b,0,none⟩) i.len i.cap) yv=some (Fq (bare H n) H (els.length+els2.length) s' (c.take (els.length * s')++new) e'):=by
         unfold eJ
         simp only[h1,h2,h3,h4,h5,h6,e1,hsrc,b1,hold,hb]
         unfold sy
         simp only[c1,c2,e1]
        rw[hap,Fq,Qy]
        exact hgrow
   ·exact Out.no
  ·exact Out.no
 ·exact Out.no
end Go.Ev
end
section
namespace Go.Ev
open Go
variable {σ σ':Nat→Option Si} {F F' F0:Nat→Prop} {H H':Hp} {ρ:Type} {H0:KI ρ} {n n' n0:Nat} {G G':Tr Bx} {T:Tm} {A A':Tr AV} {P:Program}
 {kc:Value→Hp→Nat→Option ρ} {k:KO}
noncomputable def Kw(z:List D):List (Nat × Nat × D)→Option (List D)
 | []=>some z
 | (o,s,d)::l=>match datD d with
  | true=>match splD z o (nW d) s with
   | some z'=>Kw z' l
   | none=>none
  | false=>none
noncomputable def fillB(z:List AV)(k:List AV→Option D):List (Nat × Nat × AV)→Option D
 | []=>k z
 | (o,s,a)::l=>cellsK s a fun c=>getK (splA z o c s) fun z'=>fillB z' k l
noncomputable def placeA(pl:Nat→Option (Nat × Nat)):List (Nat × AV)→Option (List (Nat × Nat × AV))
 | []=>some []
 | (i,a)::l=>match pl i with
  | some (o,s)=>match placeA pl l with
   | some r=>some ((o,s,a)::r)
   | none=>none
  | none=>none
noncomputable def oneP:List (Nat × Nat × AV)→Bool
 | []=>true
 | (_,s,_)::l=>match Nat.beq s 1 with
  | true=>oneP l
  | false=>false
noncomputable def allP:List (Nat × Nat × AV)→Option (List (Nat × Nat × D))
 | []=>some []
 | (o,s,.d x)::l=>match allP l with
  | some r=>some ((o,s,x)::r)
  | none=>none
 | _::_=>none
noncomputable def placesT(P:Program)(t:TypeId):Option (Nat→Option (Nat × Nat)):=match P.underlying t with
 | some (.struct fs)=>match Kz P fs.toList with
  | some pl=>some (pl[·]?)
  | none=>none
 | some (.array _ e)=>match szT P e with
  | some s=>some fun i=>some (i * s,s)
  | none=>none
 | _=>none
noncomputable def selW{α:Type}(c:Bool)(p q:α):α:=match c with
 | true=>p
 | false=>q
noncomputable def buildA(P:Program)(t:TypeId)(ps:List (Nat × AV))(k:AV→Option D):Option D:=
 getK (zeroD P t) fun z=>getK (placesT P t) fun pl=>getK (placeA pl ps) fun qs=>match selW (oneP qs) none (allP qs) with
  | some ds=>bindO (Kw (nW z) ds) fun c=>k (.d (.agg c))
  | none=>fillB ((nW z).map .d) (fun c=>k (mkAgg c)) qs
def QRel(σ:Nat→Option Si)(F:Nat→Prop)(H:Hp)(pl:Nat→Option (Nat × Nat)):List (Nat × Nat × AV)→List (Nat × Value)→Prop
 | [],vs=>vs=[]
 | (o,s,a)::l,vs=>∃ i v vs',vs=(i,v)::vs'∧pl i=some (o,s)∧VRel σ F H a v∧QRel σ F H pl l vs'
theorem placeA_ok{pl:Nat→Option (Nat × Nat)}:∀ {ps:List (Nat × AV)} {vs:List (Nat × Value)} {qs:List (Nat × Nat × AV)},PRel σ F H ps vs→placeA pl ps=some qs→QRel σ F H pl qs vs
 | [],vs,qs,h,e=>by cases e; exact h
 | (i,a)::l,vs,qs,h,e=>by
  obtain⟨v,vs',rfl,h1,h2⟩:=h
  simp only[placeA] at e
  split at e
  ·rename_i o s hp
   split at e
   ·rename_i r hr
    cases e
    exact⟨i,v,vs',rfl,hp,h1,placeA_ok h2 hr⟩
   ·cases e
  ·cases e
theorem Oq{pl:Nat→Option (Nat × Nat)}{c:List Value}{i o s:Nat}{v:Value}{vs:List (Nat × Value)}(hp:pl i=some (o,s))(hl:(aV v).length=s)(ho:o+s≤c.length) :
  nY pl c ((i,v)::vs)=nY pl (c.take o++aV v++c.drop (o+s)) vs:=by
 simp only[nY,hp,hl,if_true]
 rw[splice_cut (by omega),hl]
theorem fillD_ok{pl:Nat→Option (Nat × Nat)}:∀ {qs:List (Nat × Nat × AV)} {ds:List (Nat × Nat × D)} {vs:List (Nat × Value)} {z c:List D} {zv:List Value},QRel σ F H pl qs vs→allP qs=some ds→bj F H z zv→z.all bz=true →
  Kw z ds=some c→∃ cv,nY pl zv vs=some cv∧bj F H c cv∧c.all bz=true
 | [],ds,vs,z,c,zv,h,e,hz,hl,ef=>by
  cases e; cases ef; unfold QRel at h; subst h
  exact⟨zv,rfl,hz,hl⟩
 | (o,s,a)::l,ds,vs,z,c,zv,h,e,hz,hl,ef=>by
  unfold QRel at h
  obtain⟨i,v,vs',rfl,hp,h1,h2⟩:=h
  cases a with
  | d x=>
   simp only[allP] at e
   split at e
   ·rename_i r hr
    cases e
    simp only[Kw] at ef
    split at ef
    ·rename_i hd
     split at ef
     ·rename_i z' hz'
      have hc:=h1.un.cells hd
      obtain⟨r1,r2,r3⟩:=splD_rel hz' hz hc.1
      obtain⟨cv,g1,g2⟩:=fillD_ok h2 hr r3 (splD_leaf hz' hl hc.2) ef
      exact⟨cv,by rw[Oq hp r1 r2]; exact g1,g2⟩
     ·cases ef
    ·cases ef
   ·cases e
  | _=>simp [allP] at e
theorem fillB_ok{pl:Nat→Option (Nat × Nat)}{f:List AV→Option D}{g:List Value→Option ρ}(hk:∀ c cv,bW σ F H c cv→c.all oW=true→Out n0 H0 F0 (g cv) (f c)) :
  ∀ {qs:List (Nat × Nat × AV)} {vs:List (Nat × Value)} {z:List AV} {zv:List Value},QRel σ F H pl qs vs→bW σ F H z zv→z.all oW=true→Out n0 H0 F0 (bindO (nY pl zv vs) g) (fillB z f qs)
 | [],vs,z,zv,h,hz,hl=>by unfold QRel at h; subst h; exact hk z zv hz hl
 | (o,s,a)::l,vs,z,zv,h,hz,hl=>by
  unfold QRel at h
  obtain⟨i,v,vs',rfl,hp,h1,h2⟩:=h
  simp only[fillB]
  refine cellsK_ok h1 fun c hc hcl=>Out.getK fun z' hz'=>?_
  unfold splA at hz'
  split at hz'
  ·rename_i q1
   split at hz'
   ·rename_i q2
    cases hz'
    have q1:=Nat.eq_of_beq_eq_true q1
    have q2:=Nat.le_of_ble_eq_true q2
    have e1:=hc.length
    have e2:=hz.length
    rw[Oq hp (by omega) (by omega)]
    refine fillB_ok hk h2 (((hz.take o).append hc).append (hz.drop (o+s))) ?_
    rw[List.all_eq_true] at hl hcl ⊢
    intro y hy
    simp only[List.mem_append] at hy
    rcases hy with(hy | hy) | hy
    ·exact hl y (List.mem_of_mem_take hy)
    ·exact hcl y hy
    ·exact hl y (List.mem_of_mem_drop hy)
   ·cases hz'
  ·cases hz'
theorem buildP_eq{t:TypeId}{z:Value}{pl:Nat→Option (Nat × Nat)}{vs:List (Nat × Value)}(hz:kV P t=some z)(hp:placesT P t=some pl) :
  nV P t vs=(nY pl (aV z) vs).map fun c=>.agg ⟨c⟩:=by
 unfold placesT at hp
 unfold nV
 rw[hz]
 split at hp
 ·rename_i fs hu
  split at hp
  ·rename_i pl' hpl; cases hp; simp only[hu,hpl]; cases nY (fun x=>pl'[x]?) (aV z) vs <;> rfl
  ·cases hp
 ·rename_i e hu
  split at hp
  ·rename_i s hs; cases hp; simp only[hu,hs]; cases nY (fun i=>some (i * s,s)) (aV z) vs <;> rfl
  ·cases hp
 ·cases hp
theorem buildA_ok{t:TypeId}{ps:List (Nat × AV)}{vs:List (Nat × Value)}{kc:Value→Option ρ}{ka:AV→Option D}(hp:PRel σ F H ps vs)(hk:PK n0 H0 F0 σ F H kc ka) :
  Out n0 H0 F0 (bindO (nV P t vs) kc) (buildA P t ps ka):=by
 unfold buildA
 refine Out.getK fun z hz=>Out.getK fun pl hpl=>Out.getK fun qs hqs=>?_
 obtain⟨zv,z1,z2,z3⟩:=HX (F:=F) (H:=H) hz
 have hc:=z2.cells z3
 have hq:=placeA_ok hp hqs
 rw[buildP_eq z1 hpl]
 cases hds0:selW (oneP qs) none (allP qs) with
 | some ds=>
  have hds:allP qs=some ds:=by
   cases hw:oneP qs with
   | true=>rw[hw] at hds0; cases hds0
   | false=>rw[hw] at hds0; exact hds0
  refine Out.bindO fun c ec=>?_
  obtain⟨cv,c1,c2,c3⟩:=fillD_ok hq hds hc.1 hc.2 ec
  rw[c1]
  exact hk _ _ (.dat (by unfold DRel; exact⟨c3,cv,rfl,c2⟩))
 | none=>
  have:=fillB_ok (n0:=n0) (H0:=H0) (F0:=F0) (pl:=pl) (f:=fun c=>ka (mkAgg c)) (g:=fun cv=>kc (.agg ⟨cv⟩)) (fun c cv h1 h2=>hk _ _ (.mkAgg h1 h2)) hq (bW.of_D hc.1) (by rw[List.all_map]; exact hc.2)
  cases hf:nY pl (aV zv) vs with
  | none=>rw[hf] at this; exact this
  | some c=>rw[hf] at this; exact this
noncomputable def rowZ(P:Program)(t:TypeId)(len:Nat):Option (TypeId × Nat × D):=match eZ P t with
 | some e=>match szT P e with
  | some s=>match zeroD P e with
   | some z=>match Nat.ble (len * s) 16777216 && Nat.beq (nW z).length s && Nat.blt len capV && Nat.ble 1 s with
    | true=>some (e,s,z)
    | false=>none
   | none=>none
  | none=>none
 | none=>none
noncomputable def elsK(P:Program)(e:TypeId)(s:Nat)(l:List D)(k:List D→Option D):List (Nat × D)→Option D
 | []=>k l
 | (i,d)::ps=>match Nat.blt i l.length with
  | true=>NZ P e d fun c=>chkK (Nat.beq c.length s) (elsK P e s (l.set i d) k ps)
  | false=>none
noncomputable def zipI:List (Nat × AV)→List D→List (Nat × D)
 | (i,_)::l,d::ds=>(i,d)::zipI l ds
 | _,_=>[]
noncomputable def rowA(P:Program)(t:TypeId)(len:Nat)(ps:List (Nat × AV))(dst:Option Tmp)(G:Tr Bx)(k:KO):Option D:=
 getK (rowZ P t len) fun z=>getK (fzL (fzV 9) (ps.map (·.2)) G) fun r=>elsK P z.1 z.2.1 (List.replicate len z.2.2) (fun l=>Kv dst r.2 fun w=>k (.osl w) none (r.2.set w (some (.vec l z.1 z.2.1 false)))) (zipI ps r.1)
theorem PRel.vals:∀ {ps:List (Nat × AV)} {vs:List (Nat × Value)},PRel σ F H ps vs→bW σ F H (ps.map (·.2)) (vs.map (·.2))
 | [],vs,h=>by unfold PRel at h; subst h; simp only[List.map_nil,bW]
 | (i,a)::l,vs,h=>by
  obtain⟨v,vs',rfl,h1,h2⟩:=h
  simp only[List.map_cons,bW]
  exact⟨v,_,rfl,h1,PRel.vals h2⟩
def IRel(F:Nat→Prop)(H:Hp):List (Nat × D)→List (Nat × Value)→Prop
 | [],vs=>vs=[]
 | (i,d)::l,vs=>∃ v vs',vs=(i,v)::vs'∧DRel F H d v∧IRel F H l vs'
theorem zipI_ok:∀ {ps:List (Nat × AV)} {vs:List (Nat × Value)} {ds:List D},PRel σ F H ps vs→bj F' H ds (vs.map (·.2))→IRel F' H (zipI ps ds) vs
 | [],vs,ds,h,g=>by unfold PRel at h; subst h; simp [zipI,IRel]
 | (i,a)::l,vs,ds,h,g=>by
  obtain⟨v,vs',rfl,h1,h2⟩:=h
  cases ds with
  | nil=>unfold bj at g; simp at g
  | cons d ds=>
   simp only[List.map_cons,bj] at g
   obtain⟨v',us,e,g1,g2⟩:=g
   cases e
   exact⟨v,vs',rfl,g1,zipI_ok h2 g2⟩
theorem elsK_ok{e:TypeId}{s len:Nat}{f:List D→Option D}{g:List Value→Option ρ}(hs:1≤s)(hk:∀ l c,l.length=len→c.length=len * s→DNew F H l c s→Out n0 H0 F0 (g c) (f l)) :
  ∀ {ps:List (Nat × D)} {vs:List (Nat × Value)} {l:List D} {c:List Value},IRel F H ps vs→l.length=len→c.length=len * s→DNew F H l c s→Out n0 H0 F0 (bindO (nY (fun i=>some (i * s,s)) c vs) g) (elsK P e s l f ps)
 | [],vs,l,c,h,h1,h2,h3=>by unfold IRel at h; subst h; exact hk l c h1 h2 h3
 | (i,d)::ps,vs,l,c,h,h1,h2,h3=>by
  obtain⟨v,vs',rfl,g1,g2⟩:=h
  simp only[elsK]
  split
  ·rename_i hi
   refine BZ fun hd1=>Out.chk fun hd2=>?_
   have hi:i<l.length:=by simpa using hi
   have hsz:(aV v).length=s:=by rw[(g1.cells hd1).1.length]; exact Nat.eq_of_beq_eq_true hd2
   have hm:(i+1) * s≤len * s:=Nat.mul_le_mul_right s (by omega)
   rw[Nat.succ_mul] at hm
   rw[Oq rfl hsz (by omega)]
   refine elsK_ok hs hk g2 (by simpa using h1) (by simp; omega) ?_
   obtain⟨q0,w,q1,q2,q3⟩:=h3 i _ (List.getElem?_eq_getElem hi)
   have:=h3.set (o:=0) (dv:=aV v) (d':=d) (u:=v) (List.getElem?_eq_getElem hi) q1 q2 q3 hd1 g1 (by simp [hsz,q2]) (by omega)
   simp only[Nat.add_zero,hsz] at this
   exact this
  ·exact Out.no
theorem qmw{z:List Value}:∀ m,(repl m z).length=m * z.length
 | 0=>by simp [repl]
 | m+1=>by simp [repl,qmw m,Nat.succ_mul]; omega
theorem qnq{z:D}{zv:Value}{s:Nat}(hz:DRel F H z zv)(hd:datD z=true)(hs:(aV zv).length=s):∀ m,DNew F H (List.replicate m z) (repl m (aV zv)) s
 | 0=>DNew.nil
 | m+1=>by
  have one:DNew F H [z] (aV zv) s:=fun i x hx=>by
   cases i with
   | zero=>cases hx; exact⟨hd,zv,hz,hs,fun j u hj=>by simpa using hj⟩
   | succ i=>cases hx
  exact one.app (by simp [hs]) (qnq hz hd hs m)
theorem Rs.newRow{l:List D}{c:List Value}{e:TypeId}{s w m cap:Nat}(h:Rs n0 H0 F0 σ F H n G)(hg:G.get w=none)(hs:1≤s)(hd:DNew F H l c s)(hm:m=l.length)(hcap:m≤cap)(hc:cap<capV)(hl:c.length=cap * s) :
  ∃ σ',Rs n0 H0 F0 σ' F (H.set n (some (.cells c e false none))) (n+1) (G.set w (some (.vec l e s false)))∧VRel σ' F (H.set n (some (.cells c e false none))) (.osl w) (.slice (some ⟨n,0,none⟩) m cap) ∧
   Nx σ F H n σ' F (H.set n (some (.cells c e false none))) (n+1) none∧σ' w=some ⟨n,m,cap,s,false,.nil⟩:=by
 subst hm
 have:=h.new hg (i':=⟨n,l.length,cap,s,false,.nil⟩) (B':=.vec l e s false) (x:=some (.cells c e false none)) (fun _=>rfl) (fun hfz=>by
  have hg:(H.set n (some (.cells c e false none))).get n=some (.cells c e false none):=by rw[Tr.get_set,if_pos rfl]
  exact⟨rfl,rfl,hs,.inr ⟨rfl,⟨fun z=>absurd (h.lt z) (by simp),fun z=>by cases z⟩,hcap,hd.at (fun _ z=>z) hfz hg,c,none,hg,.inr ⟨hc,hl⟩⟩⟩)
 exact⟨_,this.1,osl_ok rfl rfl rfl rfl,this.2,gX⟩
theorem rowZ_ok{t e:TypeId}{len s:Nat}{z:D}(h:rowZ P t len=some (e,s,z)):∃ zv,eZ P t=some e∧szT P e=some s∧kV P e=some zv∧DRel F H z zv∧datD z=true∧(aV zv).length=s∧len * s≤16777216∧len<capV∧1≤s:=by
 unfold rowZ at h
 split at h
 ·rename_i e' h1
  split at h
  ·rename_i s' h2
   split at h
   ·rename_i z' h3
    split at h
    ·rename_i h4
     cases h
     simp only[Bool.and_eq_true] at h4
     obtain⟨zv,q1,q2,q3⟩:=HX (F:=F) (H:=H) h3
     refine⟨zv,h1,h2,q1,q2,q3,?_,Nat.le_of_ble_eq_true h4.1.1.1,by simpa using h4.1.2,Nat.le_of_ble_eq_true h4.2⟩
     rw[(q2.cells q3).1.length]; exact Nat.eq_of_beq_eq_true h4.1.1.2
    ·cases h
   ·cases h
  ·cases h
 ·cases h
theorem Nx.frz(h:∀ b,F b→F' b):Nx σ F H n σ F' H n none:=⟨Nat.le_refl _,h,fun _ _ ht=>ht.mono (fun _ _ z=>z) h Fz.refl,fun _=>⟨fun _ _ z=>z,fun _ i z=>⟨i,z,rfl,rfl⟩⟩⟩
theorem Nx.then{σ1 σ2:Nat→Option Si}{F1 F2:Nat→Prop}{H1 H2:Hp}{n1 n2:Nat}{q:Option Nat}(h:Nx σ F H n σ1 F1 H1 n1 none)(g:Nx σ1 F1 H1 n1 σ2 F2 H2 n2 q):Nx σ F H n σ2 F2 H2 n2 q:=by
 refine⟨Nat.le_trans h.le g.le,fun b hb=>g.fr b (h.fr b hb),fun T A ht=>g.tr T A (h.tr T A ht),fun hq=>⟨fun b hb hp=>(g.keep hq).1 b (by have:=h.le; omega) ((h.keep rfl).1 b hb hp),fun s i hi=>?_⟩⟩
 obtain⟨i1,a1,a2,a3⟩:=(h.keep rfl).2 s i hi
 obtain⟨i2,b1,b2,b3⟩:=(g.keep hq).2 s i1 a1
 exact⟨i2,b1,b2.trans a2,b3.trans a3⟩
theorem rowA_ok{t:TypeId}{len:Nat}{ps:List (Nat × AV)}{vs:List (Nat × Value)}{dst:Option Tmp}(h:Rs n0 H0 F0 σ F H n G)(hp:PRel σ F H ps vs)(hk:KOkN dst n0 H0 F0 σ F H n kc k) :
  Out n0 H0 F0 (rowK P t len vs H n kc) (rowA P t len ps dst G k):=by
 unfold rowA
 refine Out.getK fun z hz=>Out.getK fun r hr=>?_
 obtain⟨e,s,z⟩:=z
 obtain⟨ds,G1⟩:=r
 obtain⟨⟨⟨F1,r1,r2,r3⟩,_⟩,_⟩:=Ey (fun a F G d G' v h hv e=>AJ 9 a F G d G' v h hv e) _ F G ds G1 _ h hp.vals hr
 obtain⟨zv,z1,z2,z3,z4,z5,z6,z7,z8,z9⟩:=rowZ_ok (F:=F1) (H:=H) hz
 have hI:=zipI_ok hp r3
 have:=elsK_ok (n0:=n0) (H0:=H0) (F0:=F0) (P:=P) (e:=e) (len:=len) (f:=fun l=>Kv dst G1 fun w=>k (.osl w) none (G1.set w (some (.vec l e s false)))) (g:=fun c=>kc (.slice (some ⟨n,0,none⟩) len len) (H.set n (some (.cells c e false none))) (n+1)) z9
  (fun l c l1 l2 l3=>BK fun w hd0 hw=>by
   obtain⟨σ',t1,t2,t3,t4⟩:=r1.newRow (e:=e) hw z9 l3 l1.symm (Nat.le_refl _) z8 l2
   exact hk _ _ _ _ _ _ _ none t1 t2 ((Nx.frz r2).then t3) ⟨w,_,hd0,t4,rfl,rfl,Nat.lt_succ_self _⟩) hI (by simp) (by rw[qmw,z6]) (qnq z4 z5 z6 len)
 have hc:zK P t len vs=(nY (fun i=>some (i * s,s)) (repl len (aV zv)) vs).map fun c=>(c,e):=by
  unfold zK
  simp only[z1,z2,z3]
  rw[if_pos ⟨z7,z6,z8⟩]
  cases nY (fun i=>some (i * s,s)) (repl len (aV zv)) vs <;> rfl
 unfold rowK
 rw[hc]
 cases hf:nY (fun i=>some (i * s,s)) (repl len (aV zv)) vs with
 | none=>rw[hf] at this; exact this
 | some c=>rw[hf] at this; exact this
noncomputable def natD(x:D):Option Nat:=match x with
 | .v (.int .i64 (.ofNat n))=>some n
 | _=>none
noncomputable def makeT(P:Program)(t:TypeId):Option (TypeId × Nat × D):=match eZ P t with
 | some e=>match szT P e with
  | some s=>match xV P e with
   | some b=>match zeroD P e with
    | some z=>match Nat.blt s 1048576 && Nat.blt b 1048576 && Nat.beq (nW z).length s && Nat.ble 1 s with
     | true=>some (e,s,z)
     | false=>none
    | none=>none
   | none=>none
  | none=>none
 | none=>none
noncomputable def makeA(P:Program)(t:TypeId)(l c:D)(dst:Option Tmp)(G:Tr Bx)(k:KO):Option D:=getK (makeT P t) fun z=>Kv dst G fun w=>bindO (natD l) fun l=>bindO (natD c) fun c=>
 chkK (Nat.ble l c && Nat.blt c 1048576) (k (.osl w) none (G.set w (some (.vec (List.replicate l z.2.2) z.1 z.2.1 false))))
theorem qnz{t:TypeId}{l c:D}{lv cv:Value}{dst:Option Tmp}(h:Rs n0 H0 F0 σ F H n G)(hl:DRel F H l lv)(hc:DRel F H c cv)(hk:KOkN dst n0 H0 F0 σ F H n kc k) :
  Out n0 H0 F0 (stK (jQ P t lv cv (bare H n)) kc) (makeA P t l c dst G k):=by
 unfold makeA
 refine Out.getK fun z hz=>BK fun w hd0 hw=>Out.bindO fun l' el=>Out.bindO fun c' ec=>Out.chk fun hle=>?_
 obtain⟨e,s,z⟩:=z
 have nat:∀ {x:D} {v:Value} {m:Nat},DRel F H x v→natD x=some m→v=.int .i64 (.ofNat m):=by
  intro x v m hx e
  unfold natD at e
  split at e
  ·cases e; unfold DRel at hx; exact hx.1
  ·cases e
 rw[nat hl el,nat hc ec]
 simp only[Bool.and_eq_true] at hle
 have q1:=Nat.le_of_ble_eq_true hle.1
 have q2:c'<1048576:=by simpa using hle.2
 unfold makeT at hz
 split at hz
 ·rename_i e' h1
  split at hz
  ·rename_i s' h2
   split at hz
   ·rename_i b h3
    split at hz
    ·rename_i z' h4
     split at hz
     ·rename_i h5
      cases hz
      simp only[Bool.and_eq_true] at h5
      obtain⟨zv,z1,z2,z3⟩:=HX (F:=F) (H:=H) h4
      have z6:(aV zv).length=s:=by rw[(z2.cells z3).1.length]; exact Nat.eq_of_beq_eq_true h5.1.2
      have h9:=Nat.le_of_ble_eq_true h5.2
      have hs:s<1048576:=by simpa using h5.1.1.1
      have hb:b<1048576:=by simpa using h5.1.1.2
      have hsm:zJ c' s b=true:=by unfold zJ; simp [q2,hs,hb]
      have:jQ P t (.int .i64 (.ofNat l')) (.int .i64 (.ofNat c')) (bare H n)=some (.slice (some ⟨n,0,none⟩) l' c',nq (bare H n) (repl c' (aV zv)) e none):=by
       unfold jQ
       simp only[h1,h2,h3,z1]
       rw[if_pos ⟨q1,hsm,z6⟩]; rfl
      rw[this,Qy]
      have hd:DNew F H (List.replicate l' z) (repl c' (aV zv)) s:=by
       intro i d hd
       have hi:=nz hd
       simp at hi
       have e:d=z:=by
        rw[List.getElem?_replicate,if_pos hi] at hd
        exact(Option.some.inj hd).symm
       subst e
       exact qnq z2 z3 z6 c' i d (by rw[List.getElem?_replicate,if_pos (by omega)])
      obtain⟨σ',t1,t2,t3,t4⟩:=h.newRow (e:=e) (m:=l') (cap:=c') hw h9 hd (by simp) q1 (by simp only[capV]; omega) (by rw[qmw,z6])
      exact hk _ _ _ _ _ _ _ none t1 t2 t3 ⟨w,_,hd0,t4,rfl,rfl,Nat.lt_succ_self _⟩
     ·cases hz
    ·cases hz
   ·cases hz
  ·cases hz
 ·cases hz
end Go.Ev
end
section
namespace Go.Ev
open Go
variable {σ σ':Nat→Option Si} {F F' F0:Nat→Prop} {H H':Hp} {ρ:Type} {H0:KI ρ} {n n' n0:Nat} {G G':Tr Bx} {T:Tm} {A A':Tr AV} {P:Program}
 {kc:Value→Hp→Nat→Option ρ} {k:KO} {ka:AV→Option D} {cal:Cal} {pc:FuncId→List D→Option D}
def OutC(n0:Nat)(H0:Hp)(F0:Nat→Prop)(r:Option (Value × Hp × Nat))(d:Option D):Prop:=
 OutP (fun x=>∃ v H n F,r=some (v,H,n)∧n0≤n∧Keep n0 H0 H∧(∀ b,F0 b→F b)∧(∀ b,F b→F0 b∨(n0≤b∧b<n))∧DRel F H x v) d
def PStr(call:List Value→Hp→Nat→Res)(p:List D→Option D):Prop:=
 ∀ ds d F H n vs,p ds=some d→(∀ b,F b→b<n)→bj F H ds vs→OutC n H F (call vs H n) (some d)
def nx(fl:Bool)(call:List Value→Hp→Nat→Res)(p:List D→Option D):Prop:=
 ∀ ds d F H n vs,p ds=some d→(fl=true→eQ vs=true→H=.nil∧n=0)→(∀ b,F b→b<n)→bj F H ds vs→OutC n H F (call vs H n) (some d)
theorem PStr.spec{fl:Bool}{call:List Value→Hp→Nat→Res}{p:List D→Option D}(h:PStr call p):nx fl call p:=fun ds d F H n vs e _ hF hv=>h ds d F H n vs e hF hv
mutual
noncomputable def Aq:D→Bool
 | .v _=>true
 | .agg l | .tup l=>flatDL l
 | _=>false
noncomputable def flatDL:List D→Bool
 | []=>true
 | d::l=>Aq d && flatDL l
end
mutual
theorem qnx:∀(d:D) (v:Value),DRel F H d v→Aq d=true→bQ v=true∧DRel F' H' d v
 | .v x,v,h,_=>by
  unfold DRel at h ⊢
  exact⟨by rw[h.1]; exact(uk h.2).2.2.2.1,h⟩
 | .agg l,v,h,hf=>by
  unfold Aq at hf
  unfold DRel at h ⊢
  obtain⟨h0,vs,rfl,h1⟩:=h
  have:=VZ l vs h1 hf
  exact⟨by simp only[bQ,lQ]; exact this.1,h0,vs,rfl,this.2⟩
 | .tup l,v,h,hf=>by
  unfold Aq at hf
  unfold DRel at h ⊢
  obtain⟨vs,rfl,h1⟩:=h
  have:=VZ l vs h1 hf
  exact⟨by simp only[bQ,lQ]; exact this.1,vs,rfl,this.2⟩
 | .sl _,_,_,hf=>by simp [Aq] at hf
 | .ref _,_,_,hf=>by simp [Aq] at hf
 | .fn _ _ _,_,_,hf=>by simp [Aq] at hf
 | .opq,_,_,hf=>by simp [Aq] at hf
 | .yld _,_,_,hf=>by simp [Aq] at hf
theorem VZ:∀(l:List D) (vs:List Value),bj F H l vs→flatDL l=true→eQ vs=true∧bj F' H' l vs
 | [],vs,h,_=>by unfold bj at h ⊢; subst h; exact⟨rfl,rfl⟩
 | d::l,vs,h,hf=>by
  unfold flatDL at hf
  rw[Bool.and_eq_true] at hf
  unfold bj at h ⊢
  obtain⟨v,vs',rfl,h1,h2⟩:=h
  have a:=qnx d v h1 hf.1
  have b:=VZ l vs' h2 hf.2
  exact⟨by simp only[eQ,Bool.and_eq_true]; exact⟨a.1,b.1⟩,v,vs',rfl,a.2,b.2⟩
end
noncomputable def pcD(P:Program)(pc:FuncId→List D→Option D)(f:FuncId)(ds:List D):Option D:=match pc f ds with
 | some d=>match iJ P f with
  | true=>match Aq d with
   | true=>some d
   | false=>none
  | false=>some d
 | none=>none
theorem call_run{f:FuncId}{ds:List D}{d:D}{vs:List Value}(hpc:nx (iJ P f) (cal.call f) (pc f))(e:pcD P pc f ds=some d)(hF:∀ b,F b→b<n)(hv:bj F H ds vs) :
  ∃ v H' n' F',(∀ {ρ:Type} (k:Value→Hp→Nat→Option ρ),aK P cal f vs H n k=k v H' n')∧n≤n'∧Keep n H H'∧(∀ b,F b→F' b)∧(∀ b,F' b→F b∨(n≤b∧b<n'))∧DRel F' H' d v:=by
 unfold pcD at e
 split at e
 ·rename_i d' hd
  cases hb:iJ P f && eQ vs with
  | false=>
   have hdd:d'=d:=by
    split at e
    ·split at e
     ·cases e; rfl
     ·cases e
    ·cases e; rfl
   subst hdd
   obtain⟨v,H',n',F',h1,h2,h3,h4,h5,h6⟩:=hpc ds d' F H n vs hd (fun q1 q2=>by rw[q1,q2] at hb; cases hb) hF hv d' rfl
   exact⟨v,H',n',F',fun k=>by unfold aK; rw[hb,h1]; rfl,h2,h3,h4,h5,h6⟩
  | true=>
   have hb':=hb
   rw[Bool.and_eq_true] at hb'
   rw[hb'.1] at e
   simp only at e
   split at e
   ·rename_i hfl
    cases e
    obtain⟨v,H',n',F',h1,h2,h3,h4,h5,h6⟩:=hpc ds d noF .nil 0 vs hd (fun _ _=>⟨rfl,rfl⟩) (fun _ z=>z.elim) (bj.pure ds vs hv hb'.2) d rfl
    have:=qnx (F':=F) (H':=H) d v h6 hfl
    refine⟨v,H,n,F,fun k=>?_,Nat.le_refl _,Keep.refl _ _,fun _ z=>z,fun _ z=>.inl z,this.2⟩
    unfold aK
    rw[hb,h1]
    simp only[aj,this.1]
   ·cases e
 ·cases e
theorem Rs.call(h:Rs n0 H0 F0 σ F H n G)(hn:n≤n')(hk:Keep n H H')(hF:∀ b,F b→F' b)(hF':∀ b,F' b→F b∨(n≤b∧b<n')):Rs n0 H0 F0 σ F' H' n' G∧Nx σ F H n σ F' H' n' none:=by
 have hfz:Fz F H H':=Fz.of_eq fun b hb=>hk b (h.lt hb)
 refine⟨⟨Nat.le_trans h.le hn,⟨H0.st _ _ (fun b hb=>hk b (h.keep.2 b hb)) h.keep.1,fun b hb=>by have:=h.keep.2 b hb; omega⟩,fun b hb=>hF b (h.sub b hb),fun b hb=>?_,h.low,fun s B e=>?_,h.back,fun s i hi hnil=>?_,h.inj,fun s i h1 h2=>(h.ownC s i h1 h2).imp id (hF _),fun b hb=>?_,fun b hb=>hF b (h.fs b hb),h.tms⟩,
  hn,hF,fun T A ht=>ht.mono (fun _ _ z=>z) hF hfz,fun _=>⟨fun b hb=>pres.of_eq (hk b hb),fun s i hi=>⟨i,hi,rfl,rfl⟩⟩⟩
 ·rcases hF' b hb with q | q
  ·rcases h.fin b q with z | z
   ·exact .inl z
   ·exact .inr ⟨z.1,by omega⟩
  ·have:=h.le; exact .inr ⟨by omega,q.2⟩
 ·obtain ⟨i, hi, hB⟩ := h.site s B e
  refine⟨i,hi,hB.only (Q:=fun _=>true) (fun _ _ _ z=>z) hF (fun hnil z=>?_) hfz (fun hnil=>hk _ (h.own s i hi hnil).2) (vw _)⟩
  rcases hF' _ z with q | q
  ·exact q
  ·have:=(h.own s i hi hnil).2; omega
 ·have:=h.own s i hi hnil; omega
 ·rcases hF' b hb with q | q
  ·exact h.finC b q
  ·exact .inr fun z=>by have:=h.keep.2 b (H0.oc b z); omega
noncomputable def fnK(d:D)(f:FuncId→List D→List D→Option D):Option D:=match d with
 | .fn g a b=>f g a b
 | _=>none
noncomputable def callA(P:Program)(pc:FuncId→List D→Option D)(ck:Tr Bx→Bool)(th:Bool)(fa:AV)(aS:List AV)(G:Tr Bx)(k:KO):Option D:=
 getK (fzV 9 fa G) fun r0=>getK (fzL (fzV 9) aS r0.2) fun r=>fnK r0.1 fun g a b=>chkK (ck r.2) (bindO (pcD P pc g (a++r.1++b)) fun d=>k (.d d) none (selW th G r.2))
theorem pcD_flat{f:FuncId}{ds:List D}{d:D}(e:pcD P pc f ds=some d)(h:iJ P f=true):Aq d=true:=by
 unfold pcD at e
 split at e
 ·rw [h] at e
  simp only at e
  split at e
  ·rename_i hf; cases e; exact hf
  ·cases e
 ·cases e
theorem callA_run{ck:Tr Bx→Bool}{th:Bool}{fa:AV}{aS:List AV}{fv:Value}{vs:List Value}{x:D}(hpc:∀ f,nx (iJ P f) (cal.call f) (pc f))(h:Rs n0 H0 F0 σ F H n G)(hf:VRel σ F H fa fv)(ha:bW σ F H aS vs)
  (hth:th=true→∃ g,fa=.d (.fn g [] [])∧iJ P g=true) (e:callA P pc ck th fa aS G k=some x) :
  ∃ F1 G1 F2 G2 d,Rs n0 H0 F0 σ F1 H n G1∧(∀ b,F b→F1 b)∧ck G1=true∧Rs n0 H0 F0 σ F2 H n G2∧(∀ b,F b→F2 b)∧(F2=F1∨Aq d=true)∧k (.d d) none G2=some x ∧
   ∀ Hm,Fz F1 H Hm→∃ v H' n' F',(∀ {ρ:Type} (k:Value→Hp→Nat→Option ρ),iW P cal fv vs Hm n k=k v H' n')∧n≤n'∧Keep n Hm H'∧(∀ b,F1 b→F' b)∧(∀ b,F' b→F1 b∨(n≤b∧b<n'))∧DRel F' H' d v:=by
 unfold callA at e
 cases h0:fzV 9 fa G with
 | none=>rw[h0] at e; cases e
 | some r0=>
  obtain⟨d0,G0⟩:=r0
  obtain⟨⟨⟨F1,r1,r2,r3⟩,_⟩,_⟩:=AJ 9 fa F G d0 G0 fv h hf h0
  rw[h0] at e
  have e:getK (fzL (fzV 9) aS G0) (fun r=>fnK d0 fun g a b=>chkK (ck r.2) (bindO (pcD P pc g (a++r.1++b)) fun d=>k (.d d) none (selW th G r.2)))=some x:=e
  cases h1:fzL (fzV 9) aS G0 with
  | none=>rw[h1] at e; cases e
  | some r=>
   obtain⟨ds,G1⟩:=r
   obtain⟨⟨⟨F2,t1,t2,t3⟩,_⟩,_⟩:=Ey (fun a F G d G' v h hv e=>AJ 9 a F G d G' v h hv e) aS F1 G0 ds G1 vs r1 (ha.mono (fun _ _ z=>z) r2 Fz.refl) h1
   rw[h1] at e
   cases d0 with
   | fn g a b=>
    have e:chkK (ck G1) (bindO (pcD P pc g (a++ds++b)) (fun d=>k (.d d) none (selW th G G1)))=some x:=e
    cases hck:ck G1 with
    | false=>rw[hck] at e; cases e
    | true=>
     rw[hck] at e
     have e:bindO (pcD P pc g (a++ds++b)) (fun d=>k (.d d) none (selW th G G1))=some x:=e
     cases h2:pcD P pc g (a++ds++b) with
     | none=>rw[h2] at e; cases e
     | some d=>
      rw[h2] at e
      have e9:k (.d d) none (selW th G G1)=some x:=e
      have r3':=r3.mono t2 Fz.refl
      unfold DRel at r3'
      obtain⟨va,vb,rfl,q1,q2⟩:=r3'
      have run:∀ Hm,Fz F2 H Hm→∃ v H' n' F',(∀ {ρ:Type} (k:Value→Hp→Nat→Option ρ),iW P cal (.func (.func g) ⟨va⟩ ⟨vb⟩) vs Hm n k=k v H' n')∧n≤n'∧Keep n Hm H'∧(∀ b,F2 b→F' b)∧(∀ b,F' b→F2 b∨(n≤b∧b<n'))∧DRel F' H' d v:=fun Hm hm=>by
       obtain⟨v,H',n',F',g1,g2,g3,g4,g5,g6⟩:=call_run (P:=P) (vs:=va++vs++vb) (hpc g) h2 (fun b hb=>t1.lt hb) ((((q1.mono (fun _ z=>z) hm)).append (t3.mono (fun _ z=>z) hm)).append (q2.mono (fun _ z=>z) hm))
       exact⟨v,H',n',F',fun k=>g1 k,g2,g3,g4,g5,g6⟩
      cases th with
      | false=>exact⟨F2,G1,F2,G1,d,t1,fun b hb=>t2 b (r2 b hb),hck,t1,fun b hb=>t2 b (r2 b hb),.inl rfl,e9,run⟩
      | true=>
       obtain⟨g',hg1,hg2⟩:=hth rfl
       subst hg1
       have h0':fzV 9 (.d (.fn g' [] [])) G=some (.fn g' [] [],G):=rfl
       rw[h0'] at h0
       simp only[Option.some.injEq,Prod.mk.injEq,D.fn.injEq] at h0
       obtain⟨⟨rfl,rfl,rfl⟩,rfl⟩:=h0
       exact⟨F2,G1,F,G,d,t1,fun b hb=>t2 b (r2 b hb),hck,h,fun _ z=>z,.inr (pcD_flat h2 hg2),e9,run⟩
   | _=>cases e
theorem call_next{F1 F2:Nat→Prop}{G2:Tr Bx}{d:D}{v:Value}(h2:Rs n0 H0 F0 σ F2 H n G2)(hF2:∀ b,F b→F2 b)(ho:F2=F1∨Aq d=true)(hn:n≤n')(hk:Keep n H H')(hF:∀ b,F1 b→F' b)(hF':∀ b,F' b→F1 b∨(n≤b∧b<n'))(hd:DRel F' H' d v) :
  ∃ F3,Rs n0 H0 F0 σ F3 H' n' G2∧VRel σ F3 H' (.d d) v∧Nx σ F H n σ F3 H' n' none:=by
 rcases ho with rfl | ho
 ·obtain ⟨q1, q2⟩ := h2.call hn hk hF hF'
  exact⟨F',q1,.dat hd,(Nx.frz hF2).then q2⟩
 ·obtain ⟨q1, q2⟩ := h2.call hn hk (fun _ z => z) (fun _ z => .inl z)
  exact⟨F2,q1,.dat (qnx d v hd ho).2,(Nx.frz hF2).then q2⟩
noncomputable def natI(x:D):Option Nat:=match x with
 | .v (.int _ (.ofNat n))=>some n
 | _=>none
noncomputable def loK(x:Option AV)(k:Nat→Option D):Option D:=match x with
 | none=>k 0
 | some (.d u)=>bindO (natI u) k
 | _=>none
noncomputable def hiK(x:Option AV)(m:Nat)(k:Nat→Option D):Option D:=match x with
 | none=>k m
 | some (.d u)=>bindO (natI u) k
 | _=>none
noncomputable def sliceA(P:Program)(t:TypeId)(a:AV)(lo hi:Option AV)(G:Tr Bx)(k:KO):Option D:=match rowT P t with
 | some (none,_,s)=>getK (fzV 9 a G) fun r=>bindO (elsD r.1) fun l=>loK lo fun i=>hiK hi l.length fun j=>
   chkK (Nat.ble i j && Nat.ble j l.length && l.all (szOk s)) (k (.d (.sl ((l.drop i).take (j-i)))) none r.2)
 | some (some len,_,1)=>match a with
  | .loc w o=>match lo with
   | none=>hiK hi len fun j=>chkK (Nat.blt 0 len && Nat.ble j len && Nat.blt len capV) (k (.asl w o j len) none G)
   | _=>none
  | _=>none
 | _=>none
def ORel(σ:Nat→Option Si)(F:Nat→Prop)(H:Hp):Option AV→Option Value→Prop
 | none,v=>v=none
 | some a,v=>∃ w,v=some w∧VRel σ F H a w
theorem natI_ok{x:D}{v:Value}{n:Nat}(h:DRel F H x v)(e:natI x=some n):∃ k,v=.int k (.ofNat n):=by
 unfold natI at e
 split at e
 ·cases e; unfold DRel at h; exact⟨_,h.1⟩
 ·cases e
theorem loK_ok{Qx:D→Prop}{x:Option AV}{v:Option Value}{f:Nat→Option D}(h:ORel σ F H x v)(hk:∀ i,(∀ r,i≤r→loV r v=some i)→OutP Qx (f i)):OutP Qx (loK x f):=by
 cases x with
 | none=>unfold ORel at h; subst h; exact hk 0 (fun _ _=>rfl)
 | some a=>
  cases a with
  | d u=>
   obtain⟨w,rfl,h⟩:=h
   refine Out.bindO fun i hi=>hk i fun r hr=>?_
   obtain⟨k,rfl⟩:=natI_ok h.un hi
   simp only[loV,bndIn,if_pos hr]
  | _=>exact Out.no
theorem hiK_ok{Qx:D→Prop}{x:Option AV}{v:Option Value}{m:Nat}{f:Nat→Option D}(h:ORel σ F H x v)(hk:∀ j,(∀ c,j≤c→hiV m c v=some j)→OutP Qx (f j)):OutP Qx (hiK x m f):=by
 cases x with
 | none=>unfold ORel at h; subst h; exact hk m (fun _ _=>rfl)
 | some a=>
  cases a with
  | d u=>
   obtain⟨w,rfl,h⟩:=h
   refine Out.bindO fun i hi=>hk i fun r hr=>?_
   obtain⟨k,rfl⟩:=natI_ok h.un hi
   simp only[hiV,bndIn,if_pos hr]
  | _=>exact Out.no
theorem sliceV_empty{t e:TypeId}{s len cap i:Nat}{a:Addr}{lov hiv:Option Value}(hu:P.underlying t=some (.slice e))(hs:szT P e=some s)(hlen:len≤cap)(hcap:cap≤capE)(hil:i≤len)(hsp:a.spot=none∨len=0)
  (hj0:∀ c,i≤c→hiV len c hiv=some i) (hi0:∀ r,i≤r→loV r lov=some i):∃ u,lV P t (.slice (some a) len cap) lov hiv=some u∧DRel F H (.sl []) u:=by
 have emp:∀ {a:Addr} {c:Nat},c≤capE→DRel F H (.sl []) (.slice (some a) 0 c):=fun {a c} hc=>by
  unfold DRel
  exact .inr (.inr ⟨rfl,a,c,rfl,hc⟩)
 cases hsp':a.spot with
 | none=>
  by_cases hc:cap<capV
  ·refine ⟨.slice (some (if cap = i then a else addA a (i * s))) (i - i) (cap - i), ?_, ?_⟩
   ·unfold lV
    simp only[hu,hs,hsp',if_pos hc,if_pos hlen,mz,hj0 cap (by omega),hi0 i (Nat.le_refl _)]
   ·rw[Nat.sub_self]; exact emp (by omega)
  ·refine ⟨QY, ?_, emp (Nat.le_refl _)⟩
   unfold lV
   simp only[hu,hs,hsp',if_neg hc,mz,hj0 len hil,hi0 i (Nat.le_refl _),if_true]
 | some sp=>
  rw[hsp'] at hsp
  rcases hsp with z | z
  ·cases z
  ·subst z
   have hi:i=0:=by omega
   subst hi
   refine⟨QY,?_,emp (Nat.le_refl _)⟩
   unfold lV
   simp only[hu,hs,hsp',mz,hj0 0 (Nat.le_refl _),hi0 0 (Nat.le_refl _),if_true]
theorem sliceA_ok{t:TypeId}{a:AV}{v:Value}{lo hi:Option AV}{lov hiv:Option Value}{kp:Value→Option ρ}(h:Rs n0 H0 F0 σ F H n G)(hv:VRel σ F H a v)(hlo:ORel σ F H lo lov)(hhi:ORel σ F H hi hiv)
  (hk:∀ F' G' v a,Rs n0 H0 F0 σ F' H n G'→(∀ b,F b→F' b)→VRel σ F' H a v→Out n0 H0 F0 (kp v) (k a none G')):Out n0 H0 F0 (bindO (lV P t v lov hiv) kp) (sliceA P t a lo hi G k):=by
 unfold sliceA
 split
 ·rename_i e s ht
  obtain⟨hu,hs⟩:=VW ht
  refine Out.getK fun r hr=>Out.bindO fun l hl=>loK_ok hlo fun i hi0=>hiK_ok hhi fun j hj0=>Out.chk fun hc=>?_
  obtain⟨⟨⟨F1,r1,r2,r3⟩,_⟩,_⟩:=AJ 9 a F G r.1 r.2 v h hv hr
  simp only[Bool.and_eq_true] at hc
  have q0:=Nat.le_of_ble_eq_true hc.1.1
  have q2:=Nat.le_of_ble_eq_true hc.1.2
  by_cases hij:i=j
  ·subst hij
   have key:∃ u,lV P t v lov hiv=some u∧DRel F1 H (.sl []) u:=by
    rcases Jk r3 hl with⟨rfl,rfl⟩ | ⟨b,o,cap,s',rfl,g1,g2,_⟩ | ⟨rfl,a,cap,rfl,g2⟩
    ·have hi : i = 0 := by simpa using q2
     subst hi
     refine⟨.slice none 0 0,?_,by unfold DRel; exact .inl ⟨rfl,rfl⟩⟩
     have h1:hiV 0 0 hiv=some 0:=hj0 0 (Nat.le_refl _)
     unfold lV
     simp only[hu,hs,mz,h1,hi0 0 (Nat.le_refl _)]
    ·exact sliceV_empty hu hs g1 (by unfold capR at g2; unfold capE; omega) q2 (.inl rfl) hj0 hi0
    ·exact sliceV_empty hu hs (Nat.zero_le _) g2 q2 (.inr rfl) hj0 hi0
   obtain⟨u,u1,u2⟩:=key
   rw[u1,aj]
   have hz:List.take (i-i) (List.drop i l)=[]:=by simp
   rw[hz]
   exact hk F1 r.2 _ _ r1 r2 (.dat u2)
  have q1:i<j:=by omega
  rcases Jk r3 hl with⟨_,rfl⟩ | ⟨b,o,cap,s',rfl,g1,g2,g3⟩ | ⟨rfl,_⟩
  rotate_left 2
  ·simp at q2; omega
  ·simp at q2; omega
  ·obtain ⟨g3, g4⟩ := g3.resolve_left (fun z => by subst z; simp at q2; omega)
   have hss:s'=s:=by
    cases l with
    | nil=>simp at q2; omega
    | cons d l=>
     have hc2:=hc.2
     simp only[List.all_cons,Bool.and_eq_true] at hc2
     have:=Nat.eq_of_beq_eq_true hc2.1
     unfold DAt at g4
     obtain⟨⟨q0,v,q1,q2,_⟩,_⟩:=g4
     rw[← q2,(q1.cells q0).1.length]; exact this
   subst hss
   have hlen:((l.drop i).take (j-i)).length=j-i:=by simp; omega
   have hat:DAt F1 H ((l.drop i).take (j-i)) b (o+i * s') s':=by
    refine DAt.of_get fun k d hd=>?_
    have hk':=nz hd
    rw[hlen] at hk'
    rw[List.getElem?_take,if_pos hk'] at hd
    exact(g4.drop i).get hd
   have go:∀ cap',j-i≤cap'→cap'≤capR→DRel F1 H (.sl ((l.drop i).take (j-i))) (.slice (some ⟨b,o+i * s',none⟩) (j-i) cap'):=by
    intro cap' c1 c2
    unfold DRel
    exact .inr (.inl ⟨b,o+i * s',cap',s',by rw[hlen],by omega,c2,.inr ⟨g3,hat⟩⟩)
   by_cases hcap:cap<capV
   ·have : lV P t (.slice (some ⟨b, o, none⟩) l.length cap) lov hiv = some (.slice (some ⟨b, o + i * s', none⟩) (j - i) (cap - i)) := by
     unfold lV
     simp only[hu,hs,if_pos hcap,if_pos g1,mz,hj0 cap (by omega),hi0 j (by omega)]
     rw[if_neg (by omega)]; rfl
    rw[this,aj]
    exact hk F1 r.2 _ _ r1 r2 (.dat (go _ (by omega) (by omega)))
   ·by_cases hz : i = 0
    ·subst hz
     have:lV P t (.slice (some ⟨b,o,none⟩) l.length cap) lov hiv=some (.slice (some ⟨b,o,none⟩) j (if cap=capV then capV else capR)):=by
      unfold lV
      simp only[hu,hs,if_neg hcap,mz,hj0 l.length (by omega),hi0 j (by omega),if_true]
      have hj:¬ 0=j:=by omega
      by_cases hcv:cap=capV
      ·rw[if_pos hcv,if_pos hcv,if_neg hj]
      ·rw[if_neg hcv,if_neg hcv,if_neg hj]
     rw[this,aj]
     refine hk F1 r.2 _ _ r1 r2 (.dat ?_)
     have:=go (if cap=capV then capV else capR) (by split <;> omega) (by split <;> simp [capV,capR])
     simpa using this
    ·have : lV P t (.slice (some ⟨b, o, none⟩) l.length cap) lov hiv = some (.slice (some ⟨b, o + i * s', none⟩) (j - i) capR) := by
      unfold lV
      simp only[hu,hs,if_neg hcap,mz,hj0 l.length (by omega),hi0 j (by omega),if_neg hz,if_neg hij]
      rfl
     rw[this,aj]
     exact hk F1 r.2 _ _ r1 r2 (.dat (go _ (by omega) (Nat.le_refl _)))
 ·rename_i len e ht
  obtain⟨hu,hs⟩:=VX ht
  split
  ·rename_i w o
   split
   ·refine hiK_ok hhi fun j hj0 => Out.chk fun hc => ?_
    simp only[Bool.and_eq_true] at hc
    have q1:0<len:=by simpa using hc.1.1
    have q2:=Nat.le_of_ble_eq_true hc.1.2
    have q3:len<capV:=by simpa using hc.2
    unfold ORel at hlo; subst hlo
    unfold VRel at hv
    obtain⟨i,hi,hnil,rfl⟩:=hv
    have:lV P t (.pointer (some ⟨i.b,o,none⟩)) none hiv=some (.slice (some ⟨i.b,o,none⟩) j len):=by
     unfold lV
     simp only[hu,hs,mz,hj0 len q2,loV,if_pos q3,Nat.sub_zero,Nat.zero_mul]
     rw[if_neg (by omega)]; rfl
    rw[this,aj]
    exact hk F G _ _ h (fun _ z=>z) (by unfold VRel; exact⟨i,hi,hnil,q2,q3,rfl⟩)
   ·exact Out.no
  ·exact Out.no
 ·exact Out.no
noncomputable def YY:AV→AV
 | .b c=>.d (.v (.bool c))
 | a=>a
theorem Cq{a:AV}{v:Value}(h:VRel σ F H a v):VRel σ F H (YY a) v:=by
 cases a with
 | b c=>unfold VRel at h; subst h; exact .dat (.scal rfl)
 | _=>exact h
noncomputable def opdN(x:Operand)(A:Tr AV):Option AV:=match opdA x A with
 | some a=>some (YY a)
 | none=>none
theorem dY{x:Operand}{a:AV}(ht:TRl σ F H T A)(e:opdN x A=some a):∃ v,opd x T=some v∧VRel σ F H a v:=by
 unfold opdN at e
 split at e
 ·rename_i b hb
  cases e
  obtain⟨v,h1,h2⟩:=pj ht hb
  exact⟨v,h1,Cq h2⟩
 ·cases e
noncomputable def opdO2(x:Option Operand)(A:Tr AV):Option (Option AV):=match x with
 | none=>some none
 | some x=>match opdN x A with
  | some a=>some (some a)
  | none=>none
theorem Qz{x:Option Operand}{a:Option AV}(ht:TRl σ F H T A)(e:opdO2 x A=some a):∃ v,opdO x T=some v∧ORel σ F H a v:=by
 unfold opdO2 at e
 split at e
 ·cases e; exact⟨none,rfl,rfl⟩
 ·split at e
  ·rename_i b hb
   cases e
   obtain⟨v,h1,h2⟩:=dY ht hb
   exact⟨some v,by simp only[opdO,h1],v,rfl,h2⟩
  ·cases e
noncomputable def Kx:List AV→List AV
 | []=>[]
 | a::l=>YY a::Kx l
theorem tJ:∀ {l:List AV} {vs:List Value},bW σ F H l vs→bW σ F H (Kx l) vs
 | [],vs,h=>h
 | a::l,vs,h=>by
  unfold bW at h
  obtain⟨v,vs',rfl,h1,h2⟩:=h
  simp only[Kx,bW]
  exact⟨v,vs',rfl,Cq h1,tJ h2⟩
noncomputable def normP:List (Nat × AV)→List (Nat × AV)
 | []=>[]
 | (i,a)::l=>(i,YY a)::normP l
theorem HZ:∀ {l:List (Nat × AV)} {vs:List (Nat × Value)},PRel σ F H l vs→PRel σ F H (normP l) vs
 | [],vs,h=>h
 | (i,a)::l,vs,h=>by
  obtain⟨v,vs',rfl,h1,h2⟩:=h
  exact⟨v,vs',rfl,Cq h1,HZ h2⟩
noncomputable def datK(a:AV)(f:D→Option D):Option D:=match a with
 | .d x=>f x
 | _=>none
theorem mK{Qx:D→Prop}{a:AV}{v:Value}{f:D→Option D}(h:VRel σ F H a v)(hk:∀ x,DRel F H x v→OutP Qx (f x)):OutP Qx (datK a f):=by
 cases a with
 | d x=>exact hk x h.un
 | _=>exact Out.no
noncomputable def pickX(c a b:AV)(k:AV→Option D):Option D:=match c with
 | .b true=>k a
 | .b false=>k b
 | .d u=>pickA u (YY a) (YY b) k
 | _=>none
noncomputable def nilA(a:AV)(r:Option D):Option D:=match a with
 | .d (.ref _)=>r
 | .d (.fn _ _ _)=>r
 | .loc _ _=>r
 | .fn _ _ _=>r
 | _=>none
noncomputable def mkFn(f:FuncId)(a b:List AV):AV:=match allD a,allD b with
 | some x,some y=>.d (.fn f x y)
 | _,_=>.fn f a b
noncomputable def mmD(P:Program)(b:Builtin)(ts:List TypeId)(c:Call)(type:TypeId)(ds:List D):Option D:=match Qq ds with
 | some vs=>ik P b ts c type vs .nil 0 fun v _ _=>Qj (some v)
 | none=>none
noncomputable def bltR(P:Program)(b:Builtin)(c:Call)(type:TypeId)(aS:List AV)(G:Tr Bx)(k:AV→Option D):Option D:=match b with
 | .len=>match c.argTypes.toList,aS with
  | t::_,[a]=>lenA P t a G k
  | _,_=>none
 | .min=>getK (allD aS) fun ds=>bindO (mmD P .min c.argTypes.toList c type ds) fun d=>k (.d d)
 | .max=>getK (allD aS) fun ds=>bindO (mmD P .max c.argTypes.toList c type ds) fun d=>k (.d d)
 | _=>none
noncomputable def datC:List Value→Option (List D)
 | []=>some []
 | x::l=>match vq x with
  | true=>match datC l with
   | some r=>some (.v x::r)
   | none=>none
  | false=>none
noncomputable def datV:Value→Option D
 | .agg ⟨l⟩=>match datC l with
  | some r=>some (.agg r)
  | none=>none
 | x=>match vq x with
  | true=>some (.v x)
  | false=>none
noncomputable def datT:Value→Option D
 | .tuple ⟨[a,b]⟩=>match datV a with
  | some x=>match datV b with
   | some y=>some (.tup [x,y])
   | none=>none
  | none=>none
 | v=>datV v
theorem datC_ok:∀ {l:List Value} {r:List D},datC l=some r→bj F H r l∧r.all bz=true
 | [],r,e=>by cases e; exact⟨by unfold bj; rfl,rfl⟩
 | x::l,r,e=>by
  simp only[datC] at e
  split at e
  ·rename_i hx
   split at e
   ·rename_i r' e'
    cases e
    have ih:=datC_ok e'
    refine⟨by unfold bj; exact⟨x,l,rfl,by unfold DRel; exact⟨rfl,hx⟩,ih.1⟩,?_⟩
    simp only[List.all_cons,Bool.and_eq_true]
    exact⟨rfl,ih.2⟩
   ·cases e
  ·cases e
theorem datV_ok{v:Value}{d:D}(e:datV v=some d):DRel F H d v:=by
 unfold datV at e
 split at e
 ·split at e
  ·rename_i l r hr
   cases e
   have:=datC_ok (F:=F) (H:=H) hr
   unfold DRel
   exact⟨this.2,_,rfl,this.1⟩
  ·cases e
 ·split at e
  ·rename_i hs
   cases e
   unfold DRel
   exact⟨rfl,hs⟩
  ·cases e
theorem datT_ok{v:Value}{d:D}(e:datT v=some d):DRel F H d v:=by
 unfold datT at e
 split at e
 ·split at e
  ·rename_i hx
   split at e
   ·rename_i hy
    cases e
    unfold DRel
    refine⟨_,rfl,?_⟩
    simp only[bj]
    exact⟨_,_,rfl,datV_ok hx,_,_,rfl,datV_ok hy,rfl⟩
   ·cases e
  ·cases e
 ·exact datV_ok e
noncomputable def mapD(x:D):Option (List MapEntry):=match x with
 | .map es _=>some es
 | .v (.map none)=>some []
 | _=>none
noncomputable def mapA(a:AV)(G:Tr Bx):Option (List MapEntry):=match a with
 | .mp s=>match G.get s with
  | some (.map es _ _)=>some es
  | _=>none
 | .d x=>mapD x
 | _=>none
noncomputable def Qk(P:Program)(t:TypeId)(es:List MapEntry)(k:D)(ok:Bool):Option D:=match EV P t with
 | some (key,elem)=>match valD k with
  | some kv=>match bQ kv with
   | true=>match IV P key elem es kv ok with
    | some v=>datT v
    | none=>none
   | false=>none
  | none=>none
 | none=>none
noncomputable def updD(P:Program)(t:TypeId)(es:List MapEntry)(c:Nat)(k v:D):Option (List MapEntry × Nat):=match EV P t with
 | some (key,_)=>match valD k with
  | some kv=>match valD v with
   | some vv=>match bQ kv && bQ vv with
    | true=>cQ P (updS key es c kv vv)
    | false=>none
   | none=>none
  | none=>none
 | none=>none
theorem mapA_ok{a:AV}{m:Value}{es:List MapEntry}(h:Rs n0 H0 F0 σ F H n G)(hv:VRel σ F H a m)(e:mapA a G=some es):AZ H m=some es:=by
 unfold mapA at e
 split at e
 ·split at e
  ·rename_i s _ es' c fz hg
   cases e
   obtain⟨i,hi,hB⟩:=h.site _ _ hg
   unfold VRel at hv
   obtain⟨j,hj,_,rfl⟩:=hv
   rw[hi] at hj; cases hj
   simp only[AZ,hB.2.2]
  ·cases e
 ·have hv := hv.un
  unfold mapD at e
  split at e
  ·cases e
   unfold DRel at hv
   obtain⟨b,rfl,_,hb⟩:=hv
   simp only[AZ,hb]
  ·cases e
   unfold DRel at hv
   rw[hv.1]; rfl
  ·cases e
 ·cases e
theorem lookD_ok{t:TypeId}{m kv:Value}{es:List MapEntry}{k d:D}{ok:Bool}(hm:AZ H m=some es)(hk:DRel F H k kv)(e:Qk P t es k ok=some d):∃ v,gj P H t m kv ok=some v∧DRel F H d v:=by
 unfold Qk at e
 split at e
 ·rename_i key elem hty
  split at e
  ·rename_i u hu
   have:=Qv hk hu; subst this
   split at e
   ·rename_i hp
    split at e
    ·rename_i v hv
     refine⟨v,?_,datT_ok e⟩
     simp only[gj,hty,hm,hp,hv]
    ·cases e
   ·cases e
  ·cases e
 ·cases e
noncomputable def updA(P:Program)(t:TypeId)(m:AV)(x v:D)(G:Tr Bx)(k:KO):Option D:=match m with
 | .mp s=>match G.get s with
  | some (.map es c false)=>bindO (updD P t es c x v) fun r=>k (.d (.tup [])) none (G.set s (some (.map r.1 r.2 false)))
  | _=>none
 | _=>none
theorem updA_ok{t:TypeId}{m:AV}{mv xv vv:Value}{x v:D}(h:Rs n0 H0 F0 σ F H n G)(hm:VRel σ F H m mv)(hx:DRel F H x xv)(hv:DRel F H v vv)(hk:KOk n0 H0 F0 σ F H n kc k) :
  Out n0 H0 F0 (bindO (wx P t mv xv vv H) fun H=>kc undef H n) (updA P t m x v G k):=by
 unfold updA
 split
 ·split
  ·rename_i s _ es c hg
   refine Out.bindO fun r hr=>?_
   obtain⟨i,hi,hB⟩:=h.site _ _ hg
   unfold VRel at hm
   obtain⟨j,hj,hnil,rfl⟩:=hm
   rw[hi] at hj; cases hj
   unfold updD at hr
   split at hr
   ·rename_i key el hty
    split at hr
    ·rename_i ku hku
     split at hr
     ·rename_i vu hvu
      split at hr
      ·rename_i hp
       have:=Qv hx hku; subst this
       have:=Qv hv hvu; subst this
       have e:wx P t (.map (some i.b)) xv vv H=some (H.set i.b (some (.map r.1 r.2))):=by
        simp only[wx,hty,hB.2.2,hp,hr]
       rw[e,aj]
       obtain⟨q1,q2⟩:=h.writeM (H':=H.set i.b (some (.map r.1 r.2))) hi hnil (fun z=>by have:=hB.2.1.1 z; cases this) hB.2.2 (fun b=>Tr.get_set _ _ _ _)
       exact hk _ _ _ _ _ _ _ none q1 tup0 q2
      ·cases hr
     ·cases hr
    ·cases hr
   ·cases hr
  ·exact Out.no
 ·exact Out.no
noncomputable def opR(P:Program)(op:Op)(type:TypeId)(A:Tr AV)(G:Tr Bx)(k:AV→Option D):Option D:=match op with
 | .move x | .assign x=>getK (opdA x A) k
 | .pick c a b=>getK (opdA c A) fun c=>getK (opdA a A) fun a=>getK (opdA b A) fun b=>pickX c a b k
 | .build t parts=>getK (partsA A parts.toList) fun ps=>buildA P t (normP ps) k
 | .load t a=>getK (opdN a A) fun a=>loadA P t a G k
 | .nilCheck x=>getK (opdN x A) fun a=>nilA a (k a)
 | .binOp op t x y _=>getK (opdN x A) fun a=>getK (opdN y A) fun b=>datK a fun u=>datK b fun v=>bindO (binD P op t x y u v) fun d=>k (.d d)
 | .unOp op _ x=>getK (opdN x A) fun a=>datK a fun u=>bindO (semD P u (Op.unary op)) fun d=>k (.d d)
 | .convert s d x=>getK (opdN x A) fun a=>datK a fun u=>bindO (semD P u (convert s d)) fun d=>k (.d d)
 | .makeFunc (.func f) first cap=>getK (Kq A first.toList) fun a=>getK (Kq A cap.toList) fun b=>k (mkFn f (Kx a) (Kx b))
 | .fieldAddr t x f=>getK (opdN x A) fun a=>NK P t a f k
 | .field t x f=>getK (opdN x A) fun a=>fieldA P t a f k
 | .indexAddr t x i=>getK (opdN x A) fun a=>getK (opdN i A) fun i=>datK i fun i=>Oj P t a i G k
 | .index t x i=>getK (opdN x A) fun a=>getK (opdN i A) fun i=>datK i fun i=>indexA P t a i k
 | .extract t i=>getK (opdN t A) fun a=>datK a fun u=>bindO (tupD u i) fun d=>k (.d d)
 | .lookup t m x ok=>getK (opdN m A) fun m=>getK (opdN x A) fun x=>datK x fun x=>bindO (mapA m G) fun es=>bindO (Qk P t es x ok) fun d=>k (.d d)
 | .call c=>match c.callee with
  | .builtin b=>getK (Kq A c.args.toList) fun aS=>bltR P b c type (Kx aS) G k
  | _=>none
 | _=>none
theorem pickX_ok{c a b:AV}{cv av bv:Value}{kp:Value→Option ρ}(hc:VRel σ F H c cv)(ha:VRel σ F H a av)(hb:VRel σ F H b bv)(hk:PK n0 H0 F0 σ F H kp ka):Out n0 H0 F0 (bindO (fX cv av bv) kp) (pickX c a b ka):=by
 unfold pickX
 split
 ·unfold VRel at hc; rw[hc]; exact hk _ _ ha
 ·unfold VRel at hc; rw[hc]; exact hk _ _ hb
 ·exact pickA_ok hc.un (Cq ha) (Cq hb) hk
 ·exact Out.no
theorem nilA_ok{a:AV}{v:Value}{kp:Value→Option ρ}(h:VRel σ F H a v)(hk:PK n0 H0 F0 σ F H kp ka):Out n0 H0 F0 (bindO (nilV v) kp) (nilA a (ka a)):=by
 unfold nilA
 split
 ·have h':=h.un; unfold DRel at h'; obtain⟨_,b,o,rfl,_⟩:=h'; exact hk _ _ h
 ·have h':=h.un; unfold DRel at h'; obtain⟨va,vb,rfl,_⟩:=h'; exact hk _ _ h
 ·have h':=h; unfold VRel at h'; obtain⟨i,_,_,rfl⟩:=h'; exact hk _ _ h
 ·have h':=h; unfold VRel at h'; obtain⟨va,vb,rfl,_⟩:=h'; exact hk _ _ h
 ·exact Out.no
theorem mkFn_ok{f:FuncId}{a b:List AV}{va vb:List Value}(ha:bW σ F H a va)(hb:bW σ F H b vb):VRel σ F H (mkFn f a b) (.func (.func f) ⟨va⟩ ⟨vb⟩):=by
 unfold mkFn
 split
 ·rename_i x y hx hy
  refine .dat ?_
  unfold DRel
  exact⟨va,vb,rfl,(ha.to_D hx).1,(hb.to_D hy).1⟩
 ·unfold VRel; exact⟨va,vb,rfl,ha,hb⟩
theorem bK{α ρ:Type}{a:α}{f:α→Option ρ}:getK (some a) f=f a:=rfl
theorem mm_K{b:Builtin}{ts:List TypeId}{c:Call}{type:TypeId}{vs:List Value}{d:D}(hb:b=.min∨b=.max)(e:ik P b ts c type vs .nil 0 (fun v _ _=>Qj (some v))=some d) :
  ∃ v,d=.v v∧vq v=true∧∀ {ρ:Type} (k:Value→Hp→Nat→Option ρ) H n,ik P b ts c type vs H n k=k v H n:=by
 rcases hb with rfl | rfl
 all_goals
  unfold ik at e
  simp only at e
  split at e
  ·rename_i hp
   split at e
   ·rename_i u hu
    split at e
    ·rename_i hq
     obtain⟨v,h1,h2,h3⟩:=qlw e
     cases h1
     refine⟨u,h2,h3,fun k H n=>?_⟩
     unfold ik
     simp only[hp]
     erw [hu]
     simp only[hq]
    ·cases e
   ·cases e
  ·cases e
theorem allD_rel{l:List AV}{vs:List Value}{ds:List D}(h:bW σ F H l vs)(e:allD l=some ds):bj F H ds vs:=(h.to_D e).1
theorem bltR_ok{b:Builtin}{c:Call}{type:TypeId}{aS:List AV}{vs:List Value}(h:Rs n0 H0 F0 σ F H n G)(ha:bW σ F H aS vs)(hk:PK n0 H0 F0 σ F H (fun v=>kc v H n) ka) :
  Out n0 H0 F0 (ik P b c.argTypes.toList c type vs H n kc) (bltR P b c type aS G ka):=by
 have mm:(b=.min∨b=.max)→Out n0 H0 F0 (ik P b c.argTypes.toList c type vs H n kc) (getK (allD aS) fun ds=>bindO (mmD P b c.argTypes.toList c type ds) fun d=>ka (.d d)):=by
  intro hb
  refine Out.getK fun ds hds=>Out.bindO fun d hd=>?_
  have hr:=allD_rel ha hds
  unfold mmD at hd
  split at hd
  ·rename_i us hus
   have:=qlv hr hus
   subst this
   obtain⟨v,rfl,h2,h3⟩:=mm_K hb hd
   rw[h3 kc H n]
   exact hk _ _ (.dat (.scal h2))
  ·cases hd
 unfold bltR
 split
 ·split
  ·rename_i t _ a hts
   unfold bW at ha
   obtain⟨v,vs',rfl,h1,h2⟩:=ha
   unfold bW at h2
   subst h2
   have:ik P .len c.argTypes.toList c type [v] H n kc=bindO (lenV P t v) fun v=>kc v H n:=by unfold ik; simp only[hts]
   rw[this]
   exact lenA_ok h h1 hk
  ·exact Out.no
 ·exact mm (.inl rfl)
 ·exact mm (.inr rfl)
 ·exact Out.no
theorem semD_ok{u d:D}{v:Value}{m:Value→Sem Value}(h:DRel F H u v)(e:semD P u m=some d):∃ w,dX P v (m v)=some w∧d=.v w∧vq w=true:=by
 cases u with
 | v x=>
  unfold DRel at h
  obtain⟨w,h1,h2,h3⟩:=qlw e
  exact⟨w,by rw[h.1]; exact h1,h2,h3⟩
 | _=>cases e
theorem opR_ok{op:Op}{type:TypeId}(h:Rs n0 H0 F0 σ F H n G)(ht:TRl σ F H T A)(hk:PK n0 H0 F0 σ F H (fun v=>kc v H n) ka):Out n0 H0 F0 (opE P cal op type T H n kc) (opR P op type A G ka):=by
 cases op with
 | move x=>refine Out.getK fun a ha=>?_; obtain⟨v,h1,h2⟩:=pj ht ha; simp only[opE,h1,bK]; exact hk _ _ h2
 | assign x=>refine Out.getK fun a ha=>?_; obtain⟨v,h1,h2⟩:=pj ht ha; simp only[opE,h1,bK]; exact hk _ _ h2
 | pick c a b=>
  refine Out.getK fun c hc=>Out.getK fun a ha=>Out.getK fun b hb=>?_
  obtain⟨cv,c1,c2⟩:=pj ht hc
  obtain⟨av,a1,a2⟩:=pj ht ha
  obtain⟨bv,b1,b2⟩:=pj ht hb
  simp only[opE,c1,a1,b1,bK]
  exact pickX_ok c2 a2 b2 hk
 | build t parts=>
  refine Out.getK fun ps hps=>?_
  obtain⟨vs,v1,v2⟩:=Jy ht hps
  simp only[opE,v1,bK]
  exact buildA_ok (HZ v2) hk
 | load t a=>
  refine Out.getK fun a ha=>?_
  obtain⟨v,h1,h2⟩:=dY ht ha
  simp only[opE,h1,bK]
  exact loadA_ok h h2 hk
 | nilCheck x=>
  refine Out.getK fun a ha=>?_
  obtain⟨v,h1,h2⟩:=dY ht ha
  simp only[opE,h1,bK]
  exact nilA_ok h2 hk
 | binOp op t x y _=>
  refine Out.getK fun a ha=>Out.getK fun b hb=>?_
  obtain⟨u,u1,u2⟩:=dY ht ha
  obtain⟨v,v1,v2⟩:=dY ht hb
  refine mK u2 fun du hu=>mK v2 fun dv hv=>Out.bindO fun d hd=>?_
  simp only[opE,u1,v1,bK]
  unfold binD at hd
  split at hd
  ·rename_i u' hu'
   split at hd
   ·rename_i v' hv'
    have e1:=Qv hu hu'; subst e1
    have e2:=Qv hv hv'; subst e2
    obtain⟨w,w1,rfl,w3⟩:=qlw hd
    rw[binK_some w1]
    exact hk _ _ (.dat (.scal w3))
   ·cases hd
  ·cases hd
 | unOp op _ x=>
  refine Out.getK fun a ha=>?_
  obtain⟨v,v1,v2⟩:=dY ht ha
  refine mK v2 fun u hu=>Out.bindO fun d hd=>?_
  obtain⟨w,w1,rfl,w3⟩:=semD_ok hu hd
  simp only[opE,v1,bK,w1,aj]
  exact hk _ _ (.dat (.scal w3))
 | convert s d x=>
  refine Out.getK fun a ha=>?_
  obtain⟨v,v1,v2⟩:=dY ht ha
  refine mK v2 fun u hu=>Out.bindO fun d hd=>?_
  obtain⟨w,w1,rfl,w3⟩:=semD_ok hu hd
  simp only[opE,v1,bK,w1,aj]
  exact hk _ _ (.dat (.scal w3))
 | makeFunc fn first cap=>
  cases fn with
  | func f=>
   refine Out.getK fun a ha=>Out.getK fun b hb=>?_
   obtain⟨va,a1,a2⟩:=tk ht ha
   obtain⟨vb,b1,b2⟩:=tk ht hb
   simp only[opE,a1,b1,bK]
   exact hk _ _ (mkFn_ok (tJ a2) (tJ b2))
  | _=>exact Out.no
 | fieldAddr t x f=>
  refine Out.getK fun a ha=>?_
  obtain⟨v,v1,v2⟩:=dY ht ha
  simp only[opE,v1,bK]
  exact fieldAddrA_ok v2 hk
 | field t x f=>
  refine Out.getK fun a ha=>?_
  obtain⟨v,v1,v2⟩:=dY ht ha
  simp only[opE,v1,bK]
  exact fieldA_ok v2 hk
 | indexAddr t x i=>
  refine Out.getK fun a ha=>Out.getK fun b hb=>?_
  obtain⟨u,u1,u2⟩:=dY ht ha
  obtain⟨v,v1,v2⟩:=dY ht hb
  refine mK v2 fun dv hv=>?_
  simp only[opE,u1,v1,bK]
  exact indexAddrA_ok h u2 hv hk
 | index t x i=>
  refine Out.getK fun a ha=>Out.getK fun b hb=>?_
  obtain⟨u,u1,u2⟩:=dY ht ha
  obtain⟨v,v1,v2⟩:=dY ht hb
  refine mK v2 fun dv hv=>?_
  simp only[opE,u1,v1,bK]
  exact indexA_ok u2 hv hk
 | extract t i=>
  refine Out.getK fun a ha=>?_
  obtain⟨v,v1,v2⟩:=dY ht ha
  refine mK v2 fun u hu=>Out.bindO fun d hd=>?_
  simp only[opE,v1,bK]
  cases u with
  | tup l=>
   unfold DRel at hu
   obtain⟨vs,rfl,h1⟩:=hu
   obtain⟨w,w1,w2⟩:=h1.get hd
   have:tupV (.tuple ⟨vs⟩) i=some w:=w1
   rw[this]
   exact hk _ _ (.dat w2)
  | _=>cases hd
 | lookup t m x ok=>
  refine Out.getK fun a ha=>Out.getK fun b hb=>?_
  obtain⟨u,u1,u2⟩:=dY ht ha
  obtain⟨v,v1,v2⟩:=dY ht hb
  refine mK v2 fun dv hv=>Out.bindO fun es hes=>Out.bindO fun d hd=>?_
  obtain⟨w,w1,w2⟩:=lookD_ok (mapA_ok h u2 hes) hv hd
  simp only[opE,u1,v1,bK,w1,aj]
  exact hk _ _ (.dat w2)
 | call c=>
  simp only[opR]
  split
  ·rename_i b hb
   refine Out.getK fun aS has=>?_
   obtain⟨vs,v1,v2⟩:=tk ht has
   simp only[opE,PW,hb,v1,bK]
   exact bltR_ok h (tJ v2) hk
  ·exact Out.no
 | _=>exact Out.no
noncomputable def thaw(P:Program):Operand→Bool
 | .func g=>iJ P g
 | _=>false
noncomputable def putC(c:List D)(o:Nat)(l:List D):List D:=c.take o++l++c.drop (o+l.length)
noncomputable def copyA(P:Program)(t:TypeId)(x y:AV)(G:Tr Bx)(k:KO):Option D:=match rowT P t with
 | some (none,_,1)=>match x with
  | .asl s o m _=>match G.get s with
   | some (.dat c false)=>match y with
    | .d u=>bindO (elsD u) fun l=>chkK (l.all bz && Nat.blt 0 l.length && Nat.ble (o+m) c.length) (k (.d (.v (goInt (Nat.min l.length m)))) none (G.set s (some (.dat (putC c o (l.take (Nat.min l.length m))) false))))
    | _=>none
   | _=>none
  | _=>none
 | _=>none
theorem all_take{p:D→Bool}{l:List D}(k:Nat)(h:l.all p=true):(l.take k).all p=true:=by
 rw[List.all_eq_true] at h ⊢
 exact fun x hx=>h x (List.mem_of_mem_take hx)
theorem copyA_ok{t:TypeId}{x y:AV}{xv yv:Value}(h:Rs n0 H0 F0 σ F H n G)(hx:VRel σ F H x xv)(hy:VRel σ F H y yv)(hk:KOk n0 H0 F0 σ F H n kc k) :
  Out n0 H0 F0 (stK (JX P (bare H n) t xv yv) kc) (copyA P t x y G k):=by
 unfold copyA
 split
 ·rename_i e ht
  obtain⟨hu,hs⟩:=VW ht
  split
  ·rename_i s o m cap
   split
   ·rename_i c hg
    split
    ·rename_i u
     refine Out.bindO fun l hl=>Out.chk fun hc=>?_
     simp only[Bool.and_eq_true] at hc
     have q1:=hc.1.1
     have q2:0<l.length:=by simpa using hc.1.2
     have q3:=Nat.le_of_ble_eq_true hc.2
     unfold VRel at hx
     obtain⟨i,hi,hnil,hmc,hcap,rfl⟩:=hx
     obtain⟨j,hj,hB⟩:=h.site _ _ hg
     rw[hi] at hj; cases hj
     obtain⟨b1,b2,b3,cs,el,vec,b4,b5⟩:=hB
     have hne:l≠[]:=by intro z; rw[z] at q2; simp at q2
     rcases Jk hy.un hl with⟨_,rfl⟩ | ⟨b,o',cap',s',rfl,g1,g2,g3⟩ | ⟨rfl,_⟩
     ·exact absurd rfl hne
     ·obtain ⟨_, g4⟩ := g3.resolve_left hne
      have hss:s'=1:=by
       cases l with
       | nil=>exact absurd rfl hne
       | cons d l=>
        unfold DAt at g4
        obtain⟨⟨q0,v,w1,w2,_⟩,_⟩:=g4
        simp only[List.all_cons,Bool.and_eq_true] at q1
        rw[← w2,(w1.leaf q1.1).2.2.2]; rfl
      subst hss
      obtain⟨vs,f1,f2⟩:=g4.flat q1 hne
      have hlen:=f1.length
      have hcs:=b5.length
      have hno:=f1.leafs q1
      have e1:loadN H ⟨b,o',none⟩ (Nat.min l.length m * 1)=some (vs.take (Nat.min l.length m)):=by
       have:=loadN_at (k:=0) (s:=Nat.min l.length m) f2 (by rw[hlen,Nat.zero_add]; exact Nat.min_le_left _ _) hno.2
       simpa using this
      have hml:(vs.take (Nat.min l.length m)).length=Nat.min l.length m:=by
       rw[List.length_take,hlen]; exact Nat.min_eq_left (Nat.min_le_left _ _)
      have hmm:Nat.min l.length m≤m:=Nat.min_le_right _ _
      have hlf:(vs.take (Nat.min l.length m)).all tV=true:=by
       have:=hno.1
       rw[List.all_eq_true] at this ⊢
       exact fun x hx=>this x (List.mem_of_mem_take hx)
      have e2:=Cj (o:=o) (vs:=vs.take (Nat.min l.length m)) b4 hlf (by rw[hml,hcs]; omega)
      have e3:JX P (bare H n) t (.slice (some ⟨i.b,o,none⟩) m cap) (.slice (some ⟨b,o',none⟩) l.length cap')=some (goInt (Nat.min l.length m),{ (bare H n) with H:=H.set i.b (some (.cells (cs.take o++vs.take (Nat.min l.length m)++cs.drop (o+(vs.take (Nat.min l.length m)).length)) el false vec)) }):=by
       have hne2:Nat.beq cap capE=false:=by
        cases hq:Nat.beq cap capE with
        | false=>rfl
        | true=>have:=Nat.eq_of_beq_eq_true hq; unfold capE at this; unfold capV at hcap; omega
       unfold JX
       simp only[eZ,hu,hs,bare,e1,e2,hne2]
      rw[e3]
      have hF:¬ F i.b:=fun z=>by have:=b2.1 z; cases this
      obtain⟨r1,r2⟩:=h.write (H':=H.set i.b (some (.cells (cs.take o++vs.take (Nat.min l.length m)++cs.drop (o+(vs.take (Nat.min l.length m)).length)) el false vec))) (B':=.dat (putC c o (l.take (Nat.min l.length m))) false)
       hi hnil hF ⟨_,_,_,_,rfl⟩ (fun b=>Tr.get_set _ _ _ _) (fun hfz=>by
        refine⟨hnil,⟨fun z=>absurd z hF,fun z=>by cases z⟩,?_,_,_,_,by rw[Tr.get_set,if_pos rfl],?_⟩
        ·unfold putC
         rw[List.all_append,List.all_append,all_take _ b3,all_take _ q1]
         rw[List.all_eq_true] at b3
         simp only[Bool.true_and]
         rw[List.all_eq_true]
         exact fun x hx=>b3 x (List.mem_of_mem_drop hx)
        ·unfold putC
         have hl2:(l.take (Nat.min l.length m)).length=(vs.take (Nat.min l.length m)).length:=by simp [hlen]
         rw[hl2]
         exact(((b5.take o).append (f1.take _)).append (b5.drop _)).mono (fun _ z=>z) hfz)
      simp only[stK,aj,bare]
      exact hk _ _ _ _ _ _ _ none r1 (.dat (.scal rfl)) r2
     ·exact absurd rfl hne
    ·exact Out.no
   ·exact Out.no
  ·exact Out.no
 ·exact Out.no
noncomputable def opA(P:Program)(pc:FuncId→List D→Option D)(ck:Tr Bx→Bool)(op:Op)(type:TypeId)(dst:Option Tmp)(A:Tr AV)(G:Tr Bx)(k:KO):Option D:=match op with
 | .alloc e=>allocA P e dst G k
 | .box e x=>getK (opdN x A) fun a=>boxA P e a dst G k
 | .buildSlice t len parts=>getK (partsA A parts.toList) fun ps=>rowA P t len (normP ps) dst G k
 | .makeSlice t l c=>getK (opdN l A) fun l=>getK (opdN c A) fun c=>datK l fun l=>datK c fun c=>makeA P t l c dst G k
 | .store t a x=>getK (opdN a A) fun a=>getK (opdN x A) fun x=>storeA P t a x G k
 | .makeMap _ none=>Kv dst G fun s=>k (.mp s) none (G.set s (some (.map [] 0 false)))
 | .mapUpdate t m x v=>getK (opdN m A) fun m=>getK (opdN x A) fun x=>getK (opdN v A) fun v=>datK x fun x=>datK v fun v=>updA P t m x v G k
 | .slice t x lo hi none=>getK (opdN x A) fun a=>getK (opdO2 lo A) fun lo=>getK (opdO2 hi A) fun hi=>sliceA P t a lo hi G k
 | .call c=>match c.callee with
  | .value f=>getK (opdA f A) fun fa=>getK (Kq A c.args.toList) fun aS=>callA P pc ck (thaw P f) fa (Kx aS) G k
  | .builtin .append=>match c.argTypes.toList with
   | [t,t2]=>getK (Kq A c.args.toList) fun aS=>match Kx aS with
    | [x,y]=>appendA P t t2 x y dst G k
    | _=>none
   | _=>none
  | .builtin .copy=>match c.argTypes.toList with
   | t::_=>getK (Kq A c.args.toList) fun aS=>match Kx aS with
    | [x,y]=>copyA P t x y G k
    | _=>none
   | _=>none
  | _=>opR P op type A G fun a=>k a none G
 | op=>opR P op type A G fun a=>k a none G
theorem newMap_ok{dst:Option Tmp}(h:Rs n0 H0 F0 σ F H n G)(hk:KOkN dst n0 H0 F0 σ F H n kc k):Out n0 H0 F0 (newMapK H n kc) (Kv dst G fun s=>k (.mp s) none (G.set s (some (.map [] 0 false)))):=by
 refine BK fun s hd hs=>?_
 have:=h.new hs (i':=⟨n,0,0,0,false,.nil⟩) (B':=.map [] 0 false) (x:=some (.map [] 0)) (fun _=>rfl) (fun hfz=>
  ⟨rfl,⟨fun z=>absurd (h.lt z) (by simp),fun z=>by cases z⟩,by rw[Tr.get_set,if_pos rfl]⟩)
 exact hk _ _ _ _ _ _ _ none this.1 (by unfold VRel; exact⟨_,gX,rfl,rfl⟩) this.2 ⟨s,_,hd,gX,rfl,rfl,Nat.lt_succ_self _⟩
theorem thaw_ok{f:Operand}{fa:AV}(hf:opdA f A=some fa)(h:thaw P f=true):∃ g,fa=.d (.fn g [] [])∧iJ P g=true:=by
 cases f with
 | func g=>cases hf; exact⟨g,rfl,h⟩
 | _=>cases h
theorem opA_ok{ck:Tr Bx→Bool}{op:Op}{type:TypeId}{dst:Option Tmp}(hpc:∀ f,nx (iJ P f) (cal.call f) (pc f))(h:Rs n0 H0 F0 σ F H n G)(ht:TRl σ F H T A)(hk:KOk n0 H0 F0 σ F H n kc k) :
  Out n0 H0 F0 (opE P cal op type T H n kc) (opA P pc ck op type dst A G k):=by
 have reads:∀ op,Out n0 H0 F0 (opE P cal op type T H n kc) (opR P op type A G fun a=>k a none G):=fun op=>opR_ok h ht (hk.pk h)
 cases op with
 | alloc e=>simp only[opE,opA]; exact allocA_ok h hk.toN
 | box e x=>
  refine Out.getK fun a ha=>?_
  obtain⟨v,v1,v2⟩:=dY ht ha
  simp only[opE,v1,bK]
  exact boxA_ok h v2 hk.toN
 | buildSlice t len parts=>
  refine Out.getK fun ps hps=>?_
  obtain⟨vs,v1,v2⟩:=Jy ht hps
  simp only[opE,v1,bK]
  exact rowA_ok h (HZ v2) hk.toN
 | makeSlice t l c=>
  refine Out.getK fun a ha=>Out.getK fun b hb=>?_
  obtain⟨u,u1,u2⟩:=dY ht ha
  obtain⟨v,v1,v2⟩:=dY ht hb
  refine mK u2 fun du hu=>mK v2 fun dv hv=>?_
  simp only[opE,u1,v1,bK]
  exact qnz h hu hv hk.toN
 | store t a x=>
  refine Out.getK fun a ha=>Out.getK fun b hb=>?_
  obtain⟨u,u1,u2⟩:=dY ht ha
  obtain⟨v,v1,v2⟩:=dY ht hb
  simp only[opE,u1,v1,bK]
  exact storeA_ok h u2 v2 hk
 | makeMap t r=>
  cases r with
  | some _=>exact reads _
  | none=>simp only[opE,opA]; exact newMap_ok h hk.toN
 | mapUpdate t m x v=>
  refine Out.getK fun a ha=>Out.getK fun b hb=>Out.getK fun c hc=>?_
  obtain⟨u,u1,u2⟩:=dY ht ha
  obtain⟨w,w1,w2⟩:=dY ht hb
  obtain⟨y,y1,y2⟩:=dY ht hc
  refine mK w2 fun dw hw=>mK y2 fun dy hy=>?_
  simp only[opE,u1,w1,y1,bK]
  exact updA_ok h u2 hw hy hk
 | slice t x lo hi mx=>
  cases mx with
  | some _=>exact reads _
  | none=>
   refine Out.getK fun a ha=>Out.getK fun lo' hlo=>Out.getK fun hi' hhi=>?_
   obtain⟨v,v1,v2⟩:=dY ht ha
   obtain⟨l,l1,l2⟩:=Qz ht hlo
   obtain⟨u,u1,u2⟩:=Qz ht hhi
   simp only[opE,v1,l1,u1,bK]
   exact sliceA_ok (kp:=fun v=>kc v H n) h v2 l2 u2 fun F' G' v a q1 q2 q3=>hk σ F' H n G' v a none q1 q3 (Nx.frz q2)
 | call c=>
  simp only[opA]
  split
  ·rename_i f hf
   refine Out.getK fun fa hfa=>Out.getK fun aS has=>?_
   obtain⟨fv,f1,f2⟩:=pj ht hfa
   obtain⟨vs,v1,v2⟩:=tk ht has
   intro x e
   obtain⟨F1,G1,F2,G2,d,r1,r2,_,r3,r4,r5,r6,r7⟩:=callA_run (P:=P) (cal:=cal) hpc h f2 (tJ v2) (thaw_ok hfa) e
   obtain⟨v,H',n',F',g1,g2,g3,g4,g5,g6⟩:=r7 H Fz.refl
   simp only[opE,PW,hf,f1,v1,bK,g1]
   obtain⟨F3,q1,q2,q3⟩:=call_next r3 r4 r5 g2 g3 g4 g5 g6
   exact hk _ _ _ _ _ _ _ none q1 q2 q3 x r6
  ·rename_i hb
   split
   ·rename_i t t2 hts
    refine Out.getK fun aS has=>?_
    obtain⟨vs,v1,v2⟩:=tk ht has
    have v2:=tJ v2
    split
    ·rename_i x y hxy
     rw[hxy] at v2
     unfold bW at v2
     obtain⟨xv,vs',rfl,x1,x2⟩:=v2
     unfold bW at x2
     obtain⟨yv,vs'',rfl,y1,y2⟩:=x2
     unfold bW at y2
     subst y2
     simp only[opE,PW,hb,v1,bK]
     have:ik P .append c.argTypes.toList c type [xv,yv] H n kc=stK (eJ P (bare H n) t t2 xv yv) kc:=by unfold ik; simp only[hts]
     rw[this]
     exact appendA_ok h x1 y1 hk
    ·exact Out.no
   ·exact Out.no
  ·rename_i hb
   split
   ·rename_i t ts hts
    refine Out.getK fun aS has=>?_
    obtain⟨vs,v1,v2⟩:=tk ht has
    have v2:=tJ v2
    split
    ·rename_i x y hxy
     rw[hxy] at v2
     unfold bW at v2
     obtain⟨xv,vs',rfl,x1,x2⟩:=v2
     unfold bW at x2
     obtain⟨yv,vs'',rfl,y1,y2⟩:=x2
     unfold bW at y2
     subst y2
     simp only[opE,PW,hb,v1,bK]
     have:ik P .copy c.argTypes.toList c type [xv,yv] H n kc=stK (JX P (bare H n) t xv yv) kc:=by unfold ik; simp only[hts]
     rw[this]
     exact copyA_ok h x1 y1 hk
    ·exact Out.no
   ·exact Out.no
  ·exact reads _
 | _=>exact reads _
end Go.Ev
end
