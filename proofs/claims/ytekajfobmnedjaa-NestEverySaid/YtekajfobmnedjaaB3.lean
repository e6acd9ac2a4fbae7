/- In each spread of a layout the young of each pad are within its bounds, and all young together are the young of all nests; each spread of a right layout is good: whatever the grove, the layout and the words that choose the spread. -/
import Derived.Test.YtekajfobmnedjaaB2
section
namespace Go.Proofs.Ytekajfobmnedjaa.spec
open Go Go.Ev Go.Proofs.Ytekajfobmnedjaa.nestFits Go.Proofs.Ytekajfobmnedjaa.G
set_option maxRecDepth 100000
variable {ρ:Type}
def dY (H:Hp) (n:Nat) (v:Value) (len:Nat) (rw_:Nat→Value) (R:Nat→List Int):Prop:=((v=.slice none 0 0∧len=0)∨∃ b o cap,v=.slice (some ⟨b,o,none⟩) len cap∧b<n∧aX H b o ((List.range len).map rw_))∧∀ p,p<len→ListR H n (rw_ p) (R p).length (R p)
theorem dY.keep {H H':Hp} {n m len:Nat} {v:Value} {rw_:Nat→Value} {R:Nat→List Int} (h:dY H n v len rw_ R) (hk:Keep n H H') (hm:n≤m):dY H' m v len rw_ R:=by
  obtain⟨h1,h2⟩:=h
  refine⟨?_,fun p hp=>(h2 p hp).keep hk hm⟩
  rcases h1 with h | ⟨b,o,cap,e,a,c⟩
  · exact .inl h
  · exact .inr ⟨b,o,cap,e,by omega,c.keep hk a⟩
theorem dY.len_eq {H:Hp} {n len:Nat} {v:Value} {rw_:Nat→Value} {R:Nat→List Int} (h:dY H n v len rw_ R):lenV P 59 v=some (.int .i64 len):=by
  rcases h.1 with⟨rfl,rfl⟩ | ⟨b,o,cap,rfl,_⟩
  · unfold lenV; simp only[und59]; rfl
  · unfold lenV; simp only[und59]; rfl
theorem ListR.holes {H:Hp} {n len:Nat} {v:Value} {xs:List Int} (h:ListR H n v len xs):jV v=true∧tj v=true:=by
  rcases h.2.2 with⟨rfl,_⟩ | ⟨b,o,cap,rfl,_⟩ <;> exact⟨rfl,rfl⟩
theorem dY.at_ {H:Hp} {n len:Nat} {v:Value} {rw_:Nat→Value} {R:Nat→List Int} (h:dY H n v len rw_ R) {p:Nat} (hp:p<len) :
    ∃ b o,aQ P 59 v (.int .i64 p)=some (.pointer (some ⟨b,o,none⟩))∧b<n∧az P H 44 ⟨b,o,none⟩=some (rw_ p):=by
  have hl:=h.2 p hp
  rcases h.1 with⟨rfl,rfl⟩ | ⟨b,o,cap,rfl,a,c⟩
  · omega
  · refine⟨b,o+p,?_,a,?_⟩
    · unfold aQ
      simp only[und59,CQ hp,sz44]
      simp [addA]
    · exact bw c agg44 (by rw[List.getElem?_map,List.getElem?_range hp]; rfl) hl.holes.1 hl.holes.2
theorem dY.of_cells {H:Hp} {n bs len cap:Nat} {rw_:Nat→Value} {R:Nat→List Int} (hb:bs<n) (hc:bQ H bs len 44 rw_) (hr:∀ p,p<len→ListR H n (rw_ p) (R p).length (R p)):dY H n (.slice (some ⟨bs,0,none⟩) len cap) len rw_ R:=
  ⟨.inr ⟨bs,0,cap,rfl,hb,hc.at_⟩,hr⟩
def nZ (js ks:List Int) (nj np p:Nat) (kind:Int) (xs:List Int):Prop:=if kind<0 then xs.length=0 else xs.length=np∧(∀ o:Nat,o<np→(bx js ks nj kind.toNat p o).1≤xs.getD o 0∧xs.getD o 0≤(bx js ks nj kind.toNat p o).2)∧aZ (fun o=>xs.getD o 0) np=ks.getD (kind.toNat * 5) 0
theorem isSpread_loop3 (l k m1:Nat) {np nj nk p kd:Nat} {ps js ks ls:List Int} (good:Good np nj nk ps js ks) (g0:Nat) (x y z w v:Value) (rw_:Nat→Value) (R:Nat→List Int) (b1:Value→Value→Value→Value→Hp→Nat→Res) (Rest:Prop) (hp:p<np) (hkd:ls.getD p 0=kd) (hk:kd<nk) (hR:(R p).length=np) :
    ∀(m o:Nat) (sum:Int) (H:Hp) (n:Nat),g0<n→aX H g0 0 [x,y,z]→GroveI H n (.agg ⟨[x,y,z]⟩) np nj nk ps js ks→ListR H n w np ls→dY H n v np rw_ R→(∀ q,q<o→0≤(R p).getD q 0∧(R p).getD q 0≤1000)→sum=aZ (fun q=>(R p).getD q 0) o→o≤np→np-o≤m →
    (∀ H' n',n≤n'→Keep n H H'→∃ r,Ret (b1 w v (.pointer (some ⟨g0,0,none⟩)) (.int .i64 ((p+1:Nat):Int)) H' n') n' H' (.bool r)∧(r=true↔Rest)) →
    ∃ r,Ret (S33_3 (cal (l+2)) k m1 b1 m w v (.pointer (some ⟨g0,0,none⟩)) (.int .i64 p) (.int .i64 sum) (.int .i64 o) H n) n H (.bool r)∧(r=true↔((∀ q:Nat,o≤q→q<np→(bx js ks nj kd p q).1≤(R p).getD q 0∧(R p).getD q 0≤(bx js ks nj kd p q).2)∧aZ (fun q=>(R p).getD q 0) np=ks.getD (kd * 5) 0)∧Rest):=by
  have np8:=good.np8
  have body:∀(b3:Value→Value→Value→Value→Value→Value→Hp→Nat→Res) (m o:Nat) (sum:Int) (H:Hp) (n:Nat),g0<n→aX H g0 0 [x,y,z]→GroveI H n (.agg ⟨[x,y,z]⟩) np nj nk ps js ks→ListR H n w np ls→dY H n v np rw_ R→(∀ q,q<o→0≤(R p).getD q 0∧(R p).getD q 0≤1000)→sum=aZ (fun q=>(R p).getD q 0) o→o≤np →
      (∀ H' n',n≤n'→Keep n H H'→∃ r,Ret (b1 w v (.pointer (some ⟨g0,0,none⟩)) (.int .i64 ((p+1:Nat):Int)) H' n') n' H' (.bool r)∧(r=true↔Rest)) →
      (∀ H' n',n≤n'→Keep n H H'→o<np→0≤(R p).getD o 0∧(R p).getD o 0≤1000→∃ r,Ret (b3 w v (.pointer (some ⟨g0,0,none⟩)) (.int .i64 p) (.int .i64 (aZ (fun q=>(R p).getD q 0) (o+1))) (.int .i64 ((o+1:Nat):Int)) H' n') n' H' (.bool r)∧(r=true↔((∀ q:Nat,o+1≤q→q<np→(bx js ks nj kd p q).1≤(R p).getD q 0∧(R p).getD q 0≤(bx js ks nj kd p q).2)∧aZ (fun q=>(R p).getD q 0) np=ks.getD (kd * 5) 0)∧Rest)) →
      ∃ r,Ret (C33_3 (cal (l+2)) k m1 m b1 b3 w v (.pointer (some ⟨g0,0,none⟩)) (.int .i64 p) (.int .i64 sum) (.int .i64 o) H n) n H (.bool r)∧(r=true↔((∀ q:Nat,o≤q→q<np→(bx js ks nj kd p q).1≤(R p).getD q 0∧(R p).getD q 0≤(bx js ks nj kd p q).2)∧aZ (fun q=>(R p).getD q 0) np=ks.getD (kd * 5) 0)∧Rest):=by
    intro b3 m o sum H n hg0 hb hg hw hv hpos hsum ho hb1 ih
    subst hsum
    obtain⟨x',y',z',hxyz,h1,h2,h3⟩:=hg.eq
    cases hxyz
    obtain⟨rb,ro,hix,hrb,hld⟩:=hw.at_ hp
    rw[hkd] at hld
    have ssm:=AJ (f:=fun q=>(R p).getD q 0) (c:=1000) (i:=o) (fun q hq=>hpos q hq)
    unfold C33_3 B33_3
    rw[hw.len_eq,aj,ak cY,jw]
    by_cases hlt:o<np
    · have hI:I64 ((o:Int)+1):=by unfold I64; omega
      have hcast:((o:Int)+1)=((o+1:Nat):Int):=by omega
      rw[if_pos (by omega),aJ,aj,Cy hb h1.hole.1 h2.hole.1 h3.hole.1,aj]
      simp only[hix,aj,aJ,hld,zero55,newK,effK_a]
      have kA:Keep n H ((H.set n (some (.cells (bj (.agg #[.int .i64 0,.int .i64 0])) 55 false none))).set n none):=((Keep.refl n H).set (Nat.le_refl _) _).set (Nat.le_refl _) _
      obtain⟨H2,n2,e,e2,e3⟩:=HZ l (ρ:=Value × Hp × Nat) (hg.keep kA (show n≤n+1 by omega)) (show nj≤KK by have:=good.nj16; unfold KK; omega) kd hk (p:Int) (o:Int)
      rw[e]
      have hget:(H2.set n ((H.set n (some (.cells (bj (.agg #[.int .i64 0,.int .i64 0])) 55 false none))).get n)).get n=some (.cells [.int .i64 0,.int .i64 0] 55 false none):=by
        rw[Tr.get_set,if_pos rfl,Tr.get_set,if_pos rfl]; rfl
      have kB:Keep n H (H2.set n ((H.set n (some (.cells (bj (.agg #[.int .i64 0,.int .i64 0])) 55 false none))).get n)):=(kA.trans e3 (by omega)).set (Nat.le_refl _) _
      generalize (H2.set n ((H.set n (some (.cells (bj (.agg #[.int .i64 0,.int .i64 0])) 55 false none))).get n))=H3 at hget kB ⊢
      generalize hlo:(bx js ks nj kd p o).1=lo
      generalize hhi:(bx js ks nj kd p o).2=hi
      obtain⟨rr0,_,rr2⟩:=wW (js:=js) (nj:=nj) good.small hk (p:Int) (o:Int)
      rw[ptr,Ww,jZ (c:=[.int .i64 0,.int .i64 0]) (vs:=[.int .i64 lo,.int .i64 hi]) (e:=55) (vec:=none) hget rfl rfl,aj]
      have hnew:aX (H3.set n (some (.cells [.int .i64 lo,.int .i64 hi] 55 false none))) n 0 [.int .i64 lo,.int .i64 hi]:=aX.new
      have k4:Keep n H (H3.set n (some (.cells [.int .i64 lo,.int .i64 hi] 55 false none))):=kB.set (Nat.le_refl _) _
      generalize H3.set n (some (.cells [.int .i64 lo,.int .i64 hi] 55 false none))=H4 at hnew k4 ⊢
      have c0:az P H4 3 ⟨n,0+0,none⟩=some (.int .i64 lo):=bv hnew agg3 rfl
      have c1:az P H4 3 ⟨n,0+1,none⟩=some (.int .i64 hi):=bv hnew agg3 rfl
      obtain⟨sb,so,s1,_,s3⟩:=(hv.keep k4 (show n≤n2 by omega)).at_ hp
      have hrow:=(hv.keep k4 (show n≤n2 by omega)).2 p hp
      rw[hR] at hrow
      obtain⟨tb,to_,t1,_,t3⟩:=hrow.at_ hlt
      simp only[s1,aj,aJ,s3,t1,t3,HX,c0,HY,c1,Bx (l+1)]
      cases hd:decide (lo≤(R p).getD o 0∧(R p).getD o 0≤hi) with
      | false=>
        rw[uW,aj,fw]
        exact⟨false,⟨H4,n2,rfl,by omega,k4⟩,⟨fun h=>(by cases h),fun h=>absurd (by have:=h.1.1 o (Nat.le_refl _) hlt; rw[hlo,hhi] at this; exact this) (of_decide_eq_false hd)⟩⟩
      | true=>
        obtain⟨d0,d1⟩:=of_decide_eq_true hd
        have hr:0≤(R p).getD o 0∧(R p).getD o 0≤1000:=by omega
        have hIs:I64 (aZ (fun q=>(R p).getD q 0) o+(R p).getD o 0):=by unfold I64; omega
        rw[qY,aj,ej,ak (bV hIs),ak (bV hI),hcast]
        obtain⟨r,⟨H5,n5,f1,f2,f3⟩,f4⟩:=ih H4 n2 (by omega) k4 hlt hr
        refine⟨r,⟨H5,n5,f1,by omega,k4.trans f3 (by omega)⟩,f4.trans ⟨fun h=>⟨⟨fun q q1 q2=>?_,h.1.2⟩,h.2⟩,fun h=>⟨⟨fun q q1 q2=>h.1.1 q (by omega) q2,h.1.2⟩,h.2⟩⟩⟩
        rcases Nat.eq_or_lt_of_le q1 with e | e
        · subst e; rw[hlo,hhi]; exact⟨d0,d1⟩
        · exact h.1.1 q e q2
    · have hi':o=np:=by omega
      subst hi'
      have lz:az P H 24 ⟨g0,0+2,none⟩=some z:=bw hb FW rfl h3.hole.1 h3.hole.2
      obtain⟨zb,zo,z1,_,z3⟩:=h3.at_ Jk sz94 hk
      have hkl:kd * 5<ks.length:=by rw[h3.1]; omega
      have ly:az P H 3 ⟨zb,zo+kd * 5+0,none⟩=some (.int .i64 (ks.getD (kd * 5) 0)):=by
        have:=bv (P:=P) (o:=zo) (k:=kd * 5) z3 agg3 (kz (getD_some hkl))
        exact this
      rw[if_neg (by omega),yJ,aj,aJ,aj,lz,aj,hix,aj,aJ,aj,hld,aj,z1,aj,SJ,aj,aJ,aj,ly,aj,ak iJ]
      cases hd:decide (aZ (fun q=>(R p).getD q 0) o=ks.getD (kd * 5) 0) with
      | false=>
        rw[Bool.not_false,fw]
        exact⟨false,⟨H,n,rfl,Nat.le_refl _,Keep.refl _ _⟩,⟨fun h=>(by cases h),fun h=>absurd h.1.2 (of_decide_eq_false hd)⟩⟩
      | true=>
        have hI:I64 ((p:Int)+1):=by unfold I64; omega
        have hcast:((p:Int)+1)=((p+1:Nat):Int):=by omega
        rw[Bool.not_true,ej]
        unfold Vz B33_2
        rw[ak (bV hI),hcast]
        obtain⟨r,q1,q2⟩:=hb1 H n (Nat.le_refl _) (Keep.refl _ _)
        exact⟨r,q1,q2.trans ⟨fun h=>⟨⟨fun q a b=>by omega,of_decide_eq_true hd⟩,h⟩,fun h=>h.2⟩⟩
  intro m
  induction m with
  | zero=>
    intro o sum H n h1 h2 h3 h4 h5 h6 h7 h8 h9 h10
    exact body _ 0 o sum H n h1 h2 h3 h4 h5 h6 h7 h8 h10 (fun _ _ _ _ h=>by omega)
  | succ m ih=>
    intro o sum H n h1 h2 h3 h4 h5 h6 h7 h8 h9 h10
    exact body _ (m+1) o sum H n h1 h2 h3 h4 h5 h6 h7 h8 h10 (fun H' n' q1 q2 q3 q4=>ih (o+1) _ H' n' (by omega) (h2.keep q2 h1) (h3.keep q2 q1) (h4.keep q2 q1) (h5.keep q2 q1) (fun q hq=>by
      by_cases c:q=o
      · subst c; exact q4
      · exact h6 q (by omega)) rfl (by omega) (by omega) (fun H2 n2 z1 z2=>h10 H2 n2 (by omega) (q2.trans z2 q1)))
theorem isSpread_loop1 (l k:Nat) {np nj nk:Nat} {ps js ks ls:List Int} (good:Good np nj nk ps js ks) (hok:rV js ks ls nj np nk) (g0:Nat) (x y z w v:Value) (rw_:Nat→Value) (R:Nat→List Int) :
    ∀(m p:Nat) (H:Hp) (n:Nat),g0<n→aX H g0 0 [x,y,z]→GroveI H n (.agg ⟨[x,y,z]⟩) np nj nk ps js ks→ListR H n w np ls→dY H n v np rw_ R→p≤np→np-p+9≤m →
    ∃ r,Ret (S33_1 (cal (l+2)) k m w v (.pointer (some ⟨g0,0,none⟩)) (.int .i64 p) H n) n H (.bool r)∧(r=true↔∀ q,p≤q→q<np→nZ js ks nj np q (ls.getD q 0) (R q)):=by
  have np8:=good.np8
  have body:∀(b1:Value→Value→Value→Value→Hp→Nat→Res) (m p:Nat) (H:Hp) (n:Nat),g0<n→aX H g0 0 [x,y,z]→GroveI H n (.agg ⟨[x,y,z]⟩) np nj nk ps js ks→ListR H n w np ls→dY H n v np rw_ R→p≤np→9≤m →
      (∀ H' n',n≤n'→Keep n H H'→p<np→∃ r,Ret (b1 w v (.pointer (some ⟨g0,0,none⟩)) (.int .i64 ((p+1:Nat):Int)) H' n') n' H' (.bool r)∧(r=true↔∀ q,p+1≤q→q<np→nZ js ks nj np q (ls.getD q 0) (R q))) →
      ∃ r,Ret (C33_1 (cal (l+2)) k m b1 w v (.pointer (some ⟨g0,0,none⟩)) (.int .i64 p) H n) n H (.bool r)∧(r=true↔∀ q,p≤q→q<np→nZ js ks nj np q (ls.getD q 0) (R q)):=by
    intro b1 m p H n hg0 hb hg hw hv hp hm ih
    unfold C33_1 B33_1
    generalize hS:S33_3 (cal (l+2)) k m b1 m=S3
    rw[hw.len_eq,aj,ak cY,jw]
    by_cases hlt:p<np
    · have hI:I64 ((p:Int)+1):=by unfold I64; omega
      have hcast:((p:Int)+1)=((p+1:Nat):Int):=by omega
      obtain⟨rb,ro,hix,_,hld⟩:=hw.at_ hlt
      obtain⟨sb,so,s1,_,s3⟩:=hv.at_ hlt
      have hrow:=hv.2 p hlt
      have step:∀(c:Prop),(nZ js ks nj np p (ls.getD p 0) (R p)↔c)→∀ r:Bool,(r=true↔c∧∀ q,p+1≤q→q<np→nZ js ks nj np q (ls.getD q 0) (R q))→(r=true↔∀ q,p≤q→q<np→nZ js ks nj np q (ls.getD q 0) (R q)):=by
        intro c hc r hr
        refine hr.trans ⟨fun h q q1 q2=>?_,fun h=>⟨hc.1 (h p (Nat.le_refl _) hlt),fun q q1 q2=>h q (by omega) q2⟩⟩
        rcases Nat.eq_or_lt_of_le q1 with e | e
        · subst e; exact hc.2 h.1
        · exact h.2 q e q2
      rw[if_pos (by omega),hix,aj,aJ,aj,hld,aj,ak cY,jw]
      by_cases hneg:ls.getD p 0<0
      · have hro:nZ js ks nj np p (ls.getD p 0) (R p)↔(R p).length=0:=by unfold nZ; rw[if_pos hneg]
        rw[if_pos hneg,s1,aj,aJ,aj,s3,aj,hrow.len_eq,aj,ak iJ]
        cases hd:decide (((R p).length:Int)=0) with
        | false=>
          rw[Bool.not_false,fw]
          exact⟨false,⟨H,n,rfl,Nat.le_refl _,Keep.refl _ _⟩,step _ hro false ⟨fun h=>(by cases h),fun h=>absurd (by omega) (of_decide_eq_false hd)⟩⟩
        | true=>
          have:=of_decide_eq_true hd
          rw[Bool.not_true,ej]
          unfold Vz B33_2
          rw[ak (bV hI),hcast]
          obtain⟨r,q1,q2⟩:=ih H n (Nat.le_refl _) (Keep.refl _ _) hlt
          exact⟨r,q1,step _ hro r (q2.trans ⟨fun h=>⟨by omega,h⟩,fun h=>h.2⟩)⟩
      · obtain⟨kd,hkd⟩:∃ kd:Nat,ls.getD p 0=kd:=⟨(ls.getD p 0).toNat,by omega⟩
        have hk:kd<nk:=by
          rcases hok p hlt with q | ⟨_,q,_⟩
          · omega
          · omega
        have hro:nZ js ks nj np p (ls.getD p 0) (R p)↔(R p).length=np∧(∀ o:Nat,o<np→(bx js ks nj kd p o).1≤(R p).getD o 0∧(R p).getD o 0≤(bx js ks nj kd p o).2)∧aZ (fun o=>(R p).getD o 0) np=ks.getD (kd * 5) 0:=by
          unfold nZ
          rw[if_neg hneg,hkd,Int.toNat_natCast]
        rw[if_neg hneg,s1,aj,aJ,aj,s3,aj,hrow.len_eq,aj,aj,ak iJ]
        cases hd:decide (((R p).length:Int)=(np:Int)) with
        | false=>
          rw[Bool.not_false,fw]
          exact⟨false,⟨H,n,rfl,Nat.le_refl _,Keep.refl _ _⟩,step _ hro false ⟨fun h=>(by cases h),fun h=>absurd (by omega) (of_decide_eq_false hd)⟩⟩
        | true=>
          have hl:=of_decide_eq_true hd
          rw[Bool.not_true,ej,← hS]
          obtain⟨r,q1,q2⟩:=isSpread_loop3 l k m good g0 x y z w v rw_ R b1 (∀ q,p+1≤q→q<np→nZ js ks nj np q (ls.getD q 0) (R q)) hlt hkd hk (by omega) m 0 0 H n hg0 hb hg hw hv (fun q h=>absurd h (by omega)) rfl (by omega) (by omega) (fun H' n' z1 z2=>ih H' n' z1 z2 hlt)
          exact⟨r,q1,step _ hro r (q2.trans ⟨fun h=>⟨⟨by omega,fun o ho=>h.1.1 o (Nat.zero_le _) ho,h.1.2⟩,h.2⟩,fun h=>⟨⟨fun o _ ho=>h.1.2.1 o ho,h.1.2.2⟩,h.2⟩⟩)⟩
    · rw[if_neg (by omega)]
      exact⟨true,⟨H,n,rfl,Nat.le_refl _,Keep.refl _ _⟩,⟨fun _ q q1 q2=>by omega,fun _=>rfl⟩⟩
  intro m
  induction m with
  | zero=>intro p H n h1 h2 h3 h4 h5 h6 h7; omega
  | succ m ih=>
    intro p H n h1 h2 h3 h4 h5 h6 h7
    exact body _ (m+1) p H n h1 h2 h3 h4 h5 h6 (by omega) (fun H' n' q1 q2 q3=>ih (p+1) H' n' (by omega) (h2.keep q2 h1) (h3.keep q2 q1) (h4.keep q2 q1) (h5.keep q2 q1) (by omega) (by omega))
theorem dY.nil {H:Hp} {n len:Nat} {v:Value} {rw_:Nat→Value} {R:Nat→List Int} (h:dY H n v len rw_ R) (hp:bz v=true):len=0:=by
  rcases h.1 with⟨_,rfl⟩ | ⟨b,o,cap,rfl,_⟩
  · rfl
  · simp [bz] at hp
theorem call33 (l:Nat) (a b c:Value) (H:Hp) (n:Nat):(cal (l+1)).call 33 [a,b,c] H n=C33_0 (cal l) KK a b c H n:=by kernel_rfl
theorem isSpread_call (l:Nat) {np nj nk nv:Nat} {ps js ks ls:List Int} (good:Good np nj nk ps js ks) (hok:rV js ks ls nj np nk) {H:Hp} {n:Nat} {g w v:Value} {rw_:Nat→Value} {R:Nat→List Int} (hg:GroveI H n g np nj nk ps js ks) (hw:ListR H n w np ls) (hv:dY H n v nv rw_ R) :
    ∃(r:Bool) (H':Hp) (n':Nat),(r=true↔nv=np∧∀ q,q<np→nZ js ks nj np q (ls.getD q 0) (R q))∧(∀ k:Value→Hp→Nat→Option ρ,aY P (cal (l+3)) 33 [g,w,v] H n k=k (.bool r) H' n')∧n≤n'∧Keep n H H':=by
  obtain⟨r,H',n',⟨b,rfl,hb⟩,e1,e2,e3⟩:=ew (ρ:=ρ) (P:=P) (cal:=cal (l+3)) (f:=33) (args:=[g,w,v]) (H:=H) (n:=n)
    (Pre:=fun H n=>GroveI H n g np nj nk ps js ks∧ListR H n w np ls∧dY H n v nv rw_ R) (Q:=fun r=>∃ b:Bool,r=.bool b∧(b=true↔nv=np∧∀ q,q<np→nZ js ks nj np q (ls.getD q 0) (R q)))
    (fun H n ⟨hg,hw,hv⟩=>by
      have hg0:=hg
      obtain⟨x,y,z,rfl,_⟩:=hg.eq
      rw[call33]
      unfold C33_0 B33_0
      generalize hS:S33_1 (cal (l+2)) KK KK=S1
      rw[dq]
      simp only[bj,ptr]
      have hk:Keep n H (H.set n (some (.cells [x,y,z] 26 false none))):=(Keep.refl n H).set (Nat.le_refl _) _
      rw[hv.len_eq,aj,hw.len_eq,aj,ak iJ]
      cases hd:decide ((nv:Int)=(np:Int)) with
      | false=>
        rw[Bool.not_false,fw]
        exact⟨.bool false,⟨_,_,rfl,by omega,hk⟩,false,rfl,⟨fun h=>(by cases h),fun h=>absurd (by omega) (of_decide_eq_false hd)⟩⟩
      | true=>
        have e:nv=np:=by have:=of_decide_eq_true hd; omega
        subst e
        rw[Bool.not_true,ej,← hS]
        obtain⟨r,⟨H',n',e1,e2,e3⟩,e4⟩:=isSpread_loop1 l KK good hok n x y z w v rw_ R KK 0 (H.set n (some (.cells [x,y,z] 26 false none))) (n+1) (by omega) aX.new (hg0.keep hk (by omega)) (hw.keep hk (by omega)) (hv.keep hk (by omega)) (by omega) (by have:=good.np8; unfold KK; omega)
        exact⟨.bool r,⟨H',n',e1,by omega,hk.trans e3 (by omega)⟩,r,rfl,e4.trans ⟨fun h=>⟨rfl,fun q hq=>h q (Nat.zero_le _) hq⟩,fun h q _ hq=>h.2 q hq⟩⟩)
    (fun r ⟨b,e,_⟩ _=>by subst e; rfl) ⟨hg,hw,hv⟩ (fun hp=>by
        simp only[cx,Bool.and_eq_true] at hp
        have h0:=hv.nil hp.2.2.1
        subst h0
        refine⟨hg.nil hp.1,hw.nil hp.2.1,?_,fun p h=>absurd h (by omega)⟩
        rcases hv.1 with⟨e,_⟩ | ⟨b,o,cap,e,_⟩
        · exact .inl ⟨e,rfl⟩
        · rw[e] at hp; simp [bz] at hp)
  exact⟨b,H',n',hb,e1,e2,e3⟩
theorem young_loop (c:Cal) (k:Nat) {np pad:Nat} {H:Hp} {n:Nat} {v:Value} {rw_:Nat→Value} {R:Nat→List Int} (hv:dY H n v np rw_ R) (hnp:np≤1000) (hR:∀ p,p<np→(R p).length=0∨(pad<(R p).length∧0≤(R p).getD pad 0∧(R p).getD pad 0≤1000000)):∀(m i:Nat),i≤np→np-i≤m →
    S34_1 c k m v (.int .i64 pad) (.int .i64 (aZ (fun p=>(R p).getD pad 0) i)) (.int .i64 i) H n=some (.int .i64 (aZ (fun p=>(R p).getD pad 0) np),H,n):=by
  have small:∀ i,i≤np→0≤aZ (fun p=>(R p).getD pad 0) i∧aZ (fun p=>(R p).getD pad 0) i≤1000000 * i:=fun i hi=>AJ (c:=1000000) fun p hp=>by
    rcases hR p (by omega) with h | h
    · have:R p=[]:=List.length_eq_zero_iff.1 h
      rw[this]
      simp
    · exact h.2
  have body:∀(b1:Value→Value→Value→Value→Hp→Nat→Res) (m i:Nat),i≤np→(i<np→b1 v (.int .i64 pad) (.int .i64 (aZ (fun p=>(R p).getD pad 0) (i+1))) (.int .i64 ((i+1:Nat):Int)) H n=some (.int .i64 (aZ (fun p=>(R p).getD pad 0) np),H,n)) →
      C34_1 c k m b1 v (.int .i64 pad) (.int .i64 (aZ (fun p=>(R p).getD pad 0) i)) (.int .i64 i) H n=some (.int .i64 (aZ (fun p=>(R p).getD pad 0) np),H,n):=by
    intro b1 m i hi ih
    unfold C34_1 B34_1
    rw[hv.len_eq,aj,ak cY,jw]
    by_cases hlt:i<np
    · have hI:I64 ((i:Int)+1):=by unfold I64; omega
      have hcast:((i:Int)+1)=((i+1:Nat):Int):=by omega
      obtain⟨sb,so,s1,_,s3⟩:=hv.at_ hlt
      have hrow:=hv.2 i hlt
      have hs:=small i hi
      have hs1:=small (i+1) (by omega)
      have hn:aZ (fun p=>(R p).getD pad 0) (i+1)=aZ (fun p=>(R p).getD pad 0) i+(R i).getD pad 0:=rfl
      rw[if_pos (by omega),s1,aj,aJ,aj,s3,aj,hrow.len_eq,aj,ak xy,jw]
      rcases hR i hlt with h | ⟨h,h2,h3⟩
      · have hnil:R i=[]:=List.length_eq_zero_iff.1 h
        rw[if_neg (by omega)]
        unfold C34_2 B34_2
        rw[ak (bV hI),hcast]
        have:=ih hlt
        rw[hn,show(R i).getD pad 0=0 by rw[hnil]; simp,Int.add_zero] at this
        exact this
      · obtain⟨tb,to_,t1,_,t3⟩:=hrow.at_ h
        rw[if_pos (by omega),aj,aJ,aj,s3,aj,t1,aj,aJ,aj,t3,aj,ak (bV (by unfold I64; omega))]
        unfold C34_2 B34_2
        rw[ak (bV hI),hcast]
        have:=ih hlt
        rw[hn] at this
        exact this
    · have:i=np:=by omega
      subst this
      rw[if_neg (by omega)]
  intro m
  induction m with
  | zero=>intro i h1 h2; exact body _ 0 i h1 (fun h=>by omega)
  | succ m ih=>intro i h1 h2; exact body _ (m+1) i h1 (fun h=>ih (i+1) (by omega) (by omega))
theorem call34 (l:Nat) (a b:Value) (H:Hp) (n:Nat):(cal (l+1)).call 34 [a,b] H n=C34_0 (cal l) KK a b H n:=by kernel_rfl
theorem young_call (l:Nat) {np pad:Nat} {H:Hp} {n:Nat} {v:Value} {rw_:Nat→Value} {R:Nat→List Int} (hv:dY H n v np rw_ R) (hnp:np≤1000) (hR:∀ p,p<np→(R p).length=0∨(pad<(R p).length∧0≤(R p).getD pad 0∧(R p).getD pad 0≤1000000)) :
    ∃ H' n',(∀ k:Value→Hp→Nat→Option ρ,aY P (cal (l+1)) 34 [v,.int .i64 pad] H n k=k (.int .i64 (aZ (fun p=>(R p).getD pad 0) np)) H' n')∧n≤n'∧Keep n H H':=by
  obtain⟨r,H',n',rfl,e1,e2,e3⟩:=ew (ρ:=ρ) (P:=P) (cal:=cal (l+1)) (f:=34) (args:=[v,.int .i64 pad]) (H:=H) (n:=n)
    (Pre:=fun H n=>dY H n v np rw_ R) (Q:=fun r=>r=.int .i64 (aZ (fun p=>(R p).getD pad 0) np))
    (fun H n hv=>⟨_,⟨H,n,by
      rw[call34]
      unfold C34_0 B34_0
      exact young_loop (cal l) KK hv hnp hR KK 0 (by omega) (by unfold KK; omega),Nat.le_refl _,Keep.refl _ _⟩,rfl⟩) (fun r e _=>by subst e; rfl) hv (fun hp=>by
        simp only[cx,Bool.and_eq_true] at hp
        have h0:=hv.nil hp.1
        subst h0
        refine⟨?_,fun p h=>absurd h (by omega)⟩
        rcases hv.1 with⟨e,_⟩ | ⟨b,o,cap,e,_⟩
        · exact .inl ⟨e,rfl⟩
        · rw[e] at hp; simp [bz] at hp)
  exact⟨H',n',e1,e2,e3⟩
end Go.Proofs.Ytekajfobmnedjaa.spec
end
section
namespace Go.Proofs.Ytekajfobmnedjaa.spec
open Go Go.Ev Go.Proofs.Ytekajfobmnedjaa.nestFits Go.Proofs.Ytekajfobmnedjaa.G
set_option maxRecDepth 100000
variable {ρ:Type}
def yw (js ks L:List Int) (nj np:Nat) (R:Nat→List Int) (p:Nat):Prop:=if L.getD p 0=-1 then(R p).length=0 else byP (ks.getD ((L.getD p 0).toNat * 5) 0) (shP js ks nj np p (L.getD p 0).toNat) (R p) (R p).length np
theorem spreads_loop (l k:Nat) {g b np nj nk:Nat} {f:Nat→Value} {x y z v:Value} {ps js ks L:List Int} {rw_:Nat→Value} {R:Nat→List Int} (hs:SiteF f x y z js nj) (hn:∀ p kd,p<np→kd<nk→vQ f js ks nj np p kd) (hks:pJ ks nk) (hnp:np≤8) (hnk:nk≤3) (hL:L.length=8) (hK:tw L np nk) :
    ∀(m i:Nat) (H:Hp) (n:Nat),g<n→b<n→bQ H g 859 117 f→dv H n 2 x np ps→H.get b=some (.cells (ints L) 121 false none)→dY H n v np rw_ R→i≤np→np-i≤m →
    ∃ r:Bool,Ret (S79_1 (cal (l+2)) k m (.pointer (some ⟨g,0,none⟩)) v (.slice (some ⟨b,0,none⟩) np 8) (.int .i64 np) (.int .i64 i) H n) n H (.bool r)∧(r=true↔∀ p,i≤p→p<np→yw js ks L nj np R p):=by
  have body:∀(b1:Value→Value→Value→Value→Value→Hp→Nat→Res) (m i:Nat) (H:Hp) (n:Nat),g<n→b<n→bQ H g 859 117 f→dv H n 2 x np ps→H.get b=some (.cells (ints L) 121 false none)→dY H n v np rw_ R→i≤np →
      (∀ H' n',n≤n'→Keep n H H'→i<np→∃ r:Bool,Ret (b1 (.pointer (some ⟨g,0,none⟩)) v (.slice (some ⟨b,0,none⟩) np 8) (.int .i64 np) (.int .i64 ((i+1:Nat):Int)) H' n') n' H' (.bool r)∧(r=true↔∀ p,i+1≤p→p<np→yw js ks L nj np R p)) →
      ∃ r:Bool,Ret (C79_1 (cal (l+2)) k m b1 (.pointer (some ⟨g,0,none⟩)) v (.slice (some ⟨b,0,none⟩) np 8) (.int .i64 np) (.int .i64 i) H n) n H (.bool r)∧(r=true↔∀ p,i≤p→p<np→yw js ks L nj np R p):=by
    intro b1 m i H n hgn hbn hf hx hb hv hi ih
    unfold C79_1 B79_1
    rw[ak cY,jw]
    by_cases hlt:i<np
    · have hI:I64 ((i:Int)+1):=by unfold I64; omega
      have hcast:((i:Int)+1)=((i+1:Nat):Int):=by omega
      have hLi:az P H 3 ⟨b,0+i * 1,none⟩=some (.int .i64 (L.getD i 0)):=by
        have:=bv (o:=0) (k:=i) (P:=P) (dj hb) agg3 (kz (getD_some (by omega)))
        rw[show 0+i * 1=0+i by omega]
        exact this
      obtain⟨c,o,a1,_,a3⟩:=hv.at_ hlt
      have hrow:=hv.2 i hlt
      have split:∀(r:Bool),(r=true↔∀ p,i+1≤p→p<np→yw js ks L nj np R p)→yw js ks L nj np R i→(r=true↔∀ p,i≤p→p<np→yw js ks L nj np R p):=fun r h h0=>h.trans ⟨fun q p q1 q2=>by
        rcases Nat.eq_or_lt_of_le q1 with e | e
        · subst e; exact h0
        · exact q p e q2,fun q p q1 q2=>q p (by omega) q2⟩
      rw[if_pos (by omega),at44L b np 8 hlt,aj,aJ,aj,hLi,aj,ak lq]
      rcases hK i (by omega) with h | ⟨hip,kd,hkd,h⟩
      · have d1:decide ((-1:Int)=-1)=true:=rfl
        rw[h,d1]
        have el:lenV P 44 (rw_ i)=some (.int .i64 ((R i).length:Nat)):=hrow.len_eq
        simp only[dX,a1,aj,aJ,a3,el,ak xy,dQ]
        cases hz:decide ((0:Int)<((R i).length:Nat)) with
        | true=>
          have:=of_decide_eq_true hz
          rw[fw]
          refine⟨false,⟨H,n,rfl,Nat.le_refl _,Keep.refl _ _⟩,⟨fun h=>(by cases h),fun q=>?_⟩⟩
          have:=q i (Nat.le_refl _) hlt
          unfold yw at this
          rw[if_pos h] at this
          omega
        | false=>
          have:=of_decide_eq_false hz
          rw[ej,ak iJ,d1]
          simp only[Bool.not_true,My,dk,aj,ej,ak (bV hI),hcast]
          obtain⟨r,r1,r2⟩:=ih H n (Nat.le_refl _) (Keep.refl _ _) hlt
          exact⟨r,r1,split r r2 (by unfold yw; rw[if_pos h]; omega)⟩
      · have hne:¬ L.getD i 0=-1:=by omega
        have d1:decide (L.getD i 0=-1)=false:=decide_eq_false hne
        obtain⟨B,hB,hld⟩:=Mk hf (hn i kd hip hkd) (by omega) (by omega)
        have lx:az P H 31 ⟨g,0+0+0,none⟩=some x:=by
          have:=hf.load (P:=P) (k:=0) Cz (by omega)
          rw[hs.x] at this; exact this
        have hlx:lenV P 31 x=some (.int .i64 np):=hx.len_eq Ck
        obtain⟨y1,_,_⟩:=hks kd hkd
        have hsb:=AW (js:=js) (nj:=nj) hks hkd hnp hip
        obtain⟨r,H1,n1,r0,r1,r2,r3⟩:=spreadBy_call (ρ:=Value × Hp × Nat) l (WY ..) hB.1 hsb y1 hnp hrow
        rw[d1]
        simp only[eX,aj,dk,ej]
        rw[ak iJ,d1,Bool.not_false,h]
        simp only[Mx,mj,aj,WW,at115 _ _ (show i<8 by omega),at114 _ _ (show kd<3 by omega),aJ,hld,a1,a3,pk,rz,lx,hlx,r1]
        have hpad:r=true↔yw js ks L nj np R i:=by
          unfold yw
          rw[if_neg hne,h,Int.toNat_natCast]
          exact r0
        cases r with
        | false=>
          simp only[uW,aj,dQ,fw]
          exact⟨false,⟨H1,n1,rfl,r2,r3⟩,⟨fun h=>(by cases h),fun q=>absurd (hpad.2 (q i (Nat.le_refl _) hlt)) (by simp)⟩⟩
        | true=>
          simp only[qY,aj,dQ,ej,ak (bV hI),hcast]
          obtain⟨s,⟨H2,n2,s1,s2,s3⟩,s4⟩:=ih H1 n1 r2 r3 hlt
          exact⟨s,⟨H2,n2,s1,by omega,r3.trans s3 r2⟩,split s s4 (hpad.1 rfl)⟩
    · rw[if_neg (by omega)]
      exact⟨true,⟨H,n,rfl,Nat.le_refl _,Keep.refl _ _⟩,⟨fun _ p h1 h2=>by omega,fun _=>rfl⟩⟩
  intro m
  induction m with
  | zero=>intro i H n h1 h2 h3 h4 h5 h6 h7 h8; exact body _ 0 i H n h1 h2 h3 h4 h5 h6 h7 (fun _ _ _ _ h=>by omega)
  | succ m ih=>intro i H n h1 h2 h3 h4 h5 h6 h7 h8; exact body _ (m+1) i H n h1 h2 h3 h4 h5 h6 h7 (fun H' n' q1 q2 _=>ih (i+1) H' n' (by omega) (by omega) (h3.keep q2 h1) ((h4.keep q2 (Nat.le_refl _)).up q1) ((q2 b h2).trans h5) (h6.keep q2 q1) (by omega) (by omega))
theorem spreads_spec (l:Nat) {g np nj nk nv:Nat} {f:Nat→Value} {x y z v:Value} {ps js ks L:List Int} {rw_:Nat→Value} {R:Nat→List Int} {H:Hp} {n:Nat} (hg:g<n) (hf:bQ H g 859 117 f) (hs:SiteF f x y z js nj) (hn:∀ p kd,p<np→kd<nk→vQ f js ks nj np p kd) (hks:pJ ks nk) (hx:dv H n 2 x np ps) (hnp:np≤8) (hnk:nk≤3) (hL:L.length=8) (hK:tw L np nk) (hv:dY H n v nv rw_ R) :
    ∃ r:Bool,Ret (C79_0 (cal (l+2)) KK (.pointer (some ⟨g,0,none⟩)) (.agg ⟨ints L⟩) v H n) n H (.bool r)∧(r=true↔nv=np∧∀ p,p<np→yw js ks L nj np R p):=by
  have lens:(ints L).length=8:=by rw[bq,hL]
  unfold C79_0 B79_0
  generalize hS:S79_1 (cal (l+2)) KK KK=S
  rw[dq]
  simp only[bj,ptr]
  have hk:Keep n H (H.set n (some (.cells (ints L) 121 false none))):=(Keep.refl n H).set (Nat.le_refl _) _
  have hb:(H.set n (some (.cells (ints L) 121 false none))).get n=some (.cells (ints L) 121 false none):=by rw[Tr.get_set,if_pos rfl]
  generalize H.set n (some (.cells (ints L) 121 false none))=H1 at hk hb ⊢
  have f1:=hf.keep hk hg
  have lx:az P H1 31 ⟨g,0+0+0,none⟩=some x:=by
    have:=f1.load (P:=P) (k:=0) Cz (by omega)
    rw[hs.x] at this; exact this
  have hlx:lenV P 31 x=some (.int .i64 np):=hx.len_eq Ck
  have hls:lenV P 44 (.slice (some ⟨n,0,none⟩) np 8)=some (.int .i64 np):=by unfold lenV; simp only[und44]; rfl
  rw[hv.len_eq,aj,mj,aj,pk,aj,rz,aj,aJ,aj,lx,aj,hlx,aj,ak iJ]
  by_cases hne:nv=np
  · subst hne
    have dm:decide ((nv:Int)=(nv:Int))=true:=decide_eq_true rfl
    rw[dm,Bool.not_true,ej,aj,pk,aj,rz,aj,aJ,aj,lx,aj,hlx,aj,slice121h n hnp,aj,hls,aj,← hS]
    obtain⟨r,⟨H',n',r1,r2,r3⟩,r4⟩:=spreads_loop l KK hs hn hks hnp hnk hL hK KK 0 H1 (n+1) (by omega) (Nat.lt_succ_self n) f1 ((hx.keep hk (Nat.le_refl _)).up (by omega)) hb (hv.keep hk (by omega)) (Nat.zero_le _) (by unfold KK; omega)
    exact⟨r,⟨H',n',r1,by omega,hk.trans r3 (by omega)⟩,r4.trans ⟨fun h=>⟨rfl,fun p hp=>h p (Nat.zero_le _) hp⟩,fun h p _ hp=>h.2 p hp⟩⟩
  · rw[decide_eq_false (by omega),Bool.not_false,fw]
    exact⟨false,⟨H1,n+1,rfl,by omega,hk⟩,⟨fun h=>(by cases h),fun h=>absurd h.1 hne⟩⟩
theorem call79 (l:Nat) (a b c:Value) (H:Hp) (n:Nat):(cal (l+1)).call 79 [a,b,c] H n=C79_0 (cal l) KK a b c H n:=by kernel_rfl
theorem spreads_call (l:Nat) {g np nj nk nv:Nat} {f:Nat→Value} {x y z v:Value} {ps js ks L:List Int} {rw_:Nat→Value} {R:Nat→List Int} {H:Hp} {n:Nat} (hg:g<n) (hf:bQ H g 859 117 f) (hs:SiteF f x y z js nj) (hn:∀ p kd,p<np→kd<nk→vQ f js ks nj np p kd) (hks:pJ ks nk) (hx:dv H n 2 x np ps) (hnp:np≤8) (hnk:nk≤3) (hL:L.length=8) (hK:tw L np nk) (hv:dY H n v nv rw_ R) :
    ∃(r:Bool) (H':Hp) (n':Nat),(r=true↔nv=np∧∀ p,p<np→yw js ks L nj np R p)∧(∀ k:Value→Hp→Nat→Option ρ,aY P (cal (l+3)) 79 [.pointer (some ⟨g,0,none⟩),.agg ⟨ints L⟩,v] H n k=k (.bool r) H' n')∧n≤n'∧Keep n H H':=by
  obtain⟨r,⟨H',n',e1,e2,e3⟩,e4⟩:=spreads_spec l hg hf hs hn hks hx hnp hnk hL hK hv
  refine⟨r,H',n',e4,fun k=>?_,e2,e3⟩
  unfold aY
  have:(fX P 79 && cx [.pointer (some ⟨g,0,none⟩),.agg ⟨ints L⟩,v])=false:=by rw[Bool.and_eq_false_iff]; exact .inr rfl
  rw[this,call79,e1]
  rfl
end Go.Proofs.Ytekajfobmnedjaa.spec
end
section
namespace Go.Proofs.Ytekajfobmnedjaa.spec
open Go Go.Ev Go.Proofs.Ytekajfobmnedjaa.nestFits Go.Proofs.Ytekajfobmnedjaa.G
set_option maxRecDepth 100000
variable {ρ:Type}
theorem good_row (c:Cal) (k m1:Nat) (b1:Value→Value→Value→Value→Value→Hp→Nat→Res) {b n0 len i:Nat} {u0 u12 u13 row:Value} {xs:List Int} {Y:Nat→Int} {n:Nat} {Goal:Res→Prop} (hlen:len≤8) (hY:∀ q,0≤Y q∧Y q≤10000) (hxs:∀ q,q<len→0≤xs.getD q 0∧xs.getD q 0≤1000) (hi:i≤1000) (hb0:n0≤b) {H0:Hp} (hrow:ListR H0 n0 row len xs)
    (cont:∀(Z:List Int) (H:Hp),H.get b=some (.cells (ints Z) 120 false none)→Z.length=8→(∀ q,q<8→Z.getD q 0=Y q+(if q<len then xs.getD q 0 else 0))→(∀ q,q≠b→H.get q=H0.get q)→Goal (b1 u0 (.pointer (some ⟨b,0,none⟩)) u12 u13 (.int .i64 ((i+1:Nat):Int)) H n)) :
    ∀(m o:Nat) (Z:List Int) (H:Hp),H.get b=some (.cells (ints Z) 120 false none)→Z.length=8→(∀ q,q<8→Z.getD q 0=Y q+(if q<o then xs.getD q 0 else 0))→(∀ q,q≠b→H.get q=H0.get q)→o≤len→len-o≤m →
    Goal (S80_2 c k m1 b1 m u0 (.pointer (some ⟨b,0,none⟩)) u12 u13 (.int .i64 i) row (.int .i64 len) (.int .i64 o) H n):=by
  have body:∀(b2:Value→Value→Value→Value→Value→Value→Value→Value→Hp→Nat→Res) (m o:Nat) (Z:List Int) (H:Hp),H.get b=some (.cells (ints Z) 120 false none)→Z.length=8→(∀ q,q<8→Z.getD q 0=Y q+(if q<o then xs.getD q 0 else 0))→(∀ q,q≠b→H.get q=H0.get q)→o≤len →
      (∀(Z:List Int) (H:Hp),H.get b=some (.cells (ints Z) 120 false none)→Z.length=8→(∀ q,q<8→Z.getD q 0=Y q+(if q<o+1 then xs.getD q 0 else 0))→(∀ q,q≠b→H.get q=H0.get q)→o<len→Goal (b2 u0 (.pointer (some ⟨b,0,none⟩)) u12 u13 (.int .i64 i) row (.int .i64 len) (.int .i64 ((o+1:Nat):Int)) H n)) →
      Goal (C80_2 c k m1 m b1 b2 u0 (.pointer (some ⟨b,0,none⟩)) u12 u13 (.int .i64 i) row (.int .i64 len) (.int .i64 o) H n):=by
    intro b2 m o Z H hg hZ hq hk ho ih
    have hI:I64 ((i:Int)+1):=by unfold I64; omega
    have hcast:((i:Int)+1)=((i+1:Nat):Int):=by omega
    unfold C80_2 B80_2
    rw[ak cY,jw]
    by_cases hlt:o<len
    · have hI2:I64 ((o:Int)+1):=by unfold I64; omega
      have hc2:((o:Int)+1)=((o+1:Nat):Int):=by omega
      obtain⟨rb,ro,a1,_,a3⟩:=(hrow.keep (H':=H) (fun q hq'=>hk q (by omega)) (Nat.le_refl _)).at_ hlt
      have lz:az P H 3 ⟨b,0+o * 1,none⟩=some (.int .i64 (Z.getD o 0)):=by
        have:=bv (o:=0) (k:=o) (P:=P) (dj hg) agg3 (kz (getD_some (by omega)))
        rw[show 0+o * 1=0+o by omega]
        exact this
      have hZo:Z.getD o 0=Y o:=by rw[hq o (by omega),if_neg (by omega),Int.add_zero]
      have y1:=hY o
      have x1:=hxs o hlt
      have hI3:I64 (Z.getD o 0+xs.getD o 0):=by rw[hZo]; unfold I64; omega
      have hst:bJ P 3 (.pointer (some ⟨b,0+o * 1,none⟩)) (.int .i64 (Z.getD o 0+xs.getD o 0)) H=some (H.set b (some (.cells (ints (Z.set o (Z.getD o 0+xs.getD o 0))) 120 false none))):=by
        rw[store3,show 0+o * 1=o by omega]
        exact MJ hg (by omega)
      rw[if_pos (by omega),a1,aj,aJ,aj,a3,aj,at120 b (show o<8 by omega),aj,aJ,aj,lz,aj,ak (bV hI3),aj,hst,aj,ak (bV hI2),hc2]
      refine ih (Z.set o (Z.getD o 0+xs.getD o 0)) _ (by rw[Tr.get_set,if_pos rfl]) (by simp [hZ]) (fun q hq8=>?_) (fun q hqb=>by rw[Tr.get_set,if_neg hqb]; exact hk q hqb) hlt
      by_cases e:q=o
      · subst e
        rw[EQ (by omega),hZo,if_pos (by omega)]
      · rw[AX e,hq q hq8]
        by_cases d:q<o
        · rw[if_pos d,if_pos (by omega)]
        · rw[if_neg d,if_neg (by omega)]
    · have:o=len:=by omega
      subst this
      rw[if_neg (by omega),ak (bV hI),hcast]
      exact cont Z H hg hZ hq hk
  intro m
  induction m with
  | zero=>intro o Z H h1 h2 h3 h4 h5 h6; exact body _ 0 o Z H h1 h2 h3 h4 h5 (fun _ _ _ _ _ _ h=>by omega)
  | succ m ih=>intro o Z H h1 h2 h3 h4 h5 h6; exact body _ (m+1) o Z H h1 h2 h3 h4 h5 (fun Z H q1 q2 q3 q4 _=>ih (o+1) Z H q1 q2 q3 q4 (by omega) (by omega))
theorem good_pads (c:Cal) (k:Nat) {b np:Nat} {x:Value} {ps:List Int} {Z:List Int} (hZ:Z.length=8) (hnp:np≤8):∀(m i:Nat) (H:Hp) (n:Nat),b<n→H.get b=some (.cells (ints Z) 120 false none)→dv H n 2 x np ps→i≤np→np-i≤m →
    ∃ r:Bool,Ret (S80_3 c k m (.pointer (some ⟨b,0,none⟩)) x (.int .i64 np) (.int .i64 i) H n) n H (.bool r)∧(r=true↔∀ p,i≤p→p<np→ps.getD (p * 2) 0≤Z.getD p 0∧Z.getD p 0≤ps.getD (p * 2+1) 0):=by
  have body:∀(b3:Value→Value→Value→Value→Hp→Nat→Res) (m i:Nat) (H:Hp) (n:Nat),b<n→H.get b=some (.cells (ints Z) 120 false none)→dv H n 2 x np ps→i≤np →
      (∀ H' n',n≤n'→Keep n H H'→i<np→∃ r:Bool,Ret (b3 (.pointer (some ⟨b,0,none⟩)) x (.int .i64 np) (.int .i64 ((i+1:Nat):Int)) H' n') n' H' (.bool r)∧(r=true↔∀ p,i+1≤p→p<np→ps.getD (p * 2) 0≤Z.getD p 0∧Z.getD p 0≤ps.getD (p * 2+1) 0)) →
      ∃ r:Bool,Ret (C80_3 c k m b3 (.pointer (some ⟨b,0,none⟩)) x (.int .i64 np) (.int .i64 i) H n) n H (.bool r)∧(r=true↔∀ p,i≤p→p<np→ps.getD (p * 2) 0≤Z.getD p 0∧Z.getD p 0≤ps.getD (p * 2+1) 0):=by
    intro b3 m i H n hbn hg hx hi ih
    unfold C80_3 B80_3
    rw[ak cY,jw]
    by_cases hlt:i<np
    · have hI:I64 ((i:Int)+1):=by unfold I64; omega
      have hcast:((i:Int)+1)=((i+1:Nat):Int):=by omega
      obtain⟨xb,xo,a1,a2,a3⟩:=hx.at_ Ck sz90 hlt
      have hl2:i * 2+2≤ps.length:=by rw[hx.1]; omega
      have hld:az P H 90 ⟨xb,xo+i * 2,none⟩=some (.agg ⟨[.int .i64 (ps.getD (i * 2) 0),.int .i64 (ps.getD (i * 2+1) 0)]⟩):=by
        rw[cw a3 agg90 sz90 (by rw[bq]; exact hl2) (dJ _),KW hl2]
      obtain⟨H1,k1,k2,k3⟩:=uX (P:=P) (ρ:=Value × Hp × Nat) (H:=H) (n:=n) (L:=[.int .i64 (ps.getD (i * 2) 0),.int .i64 (ps.getD (i * 2+1) 0)]) zero90 rfl sz90 rfl rfl
      have l0:az P H1 3 ⟨n,0+0,none⟩=some (.int .i64 (ps.getD (i * 2) 0)):=bv (dj k2) agg3 rfl
      have l1:az P H1 3 ⟨n,0+1,none⟩=some (.int .i64 (ps.getD (i * 2+1) 0)):=bv (dj k2) agg3 rfl
      have lz:az P H1 3 ⟨b,0+i * 1,none⟩=some (.int .i64 (Z.getD i 0)):=by
        have:=bv (o:=0) (k:=i) (P:=P) (dj ((k1 b hbn).trans hg)) agg3 (kz (getD_some (by omega)))
        rw[show 0+i * 1=0+i by omega]
        exact this
      have split:∀(r:Bool),(r=true↔∀ p,i+1≤p→p<np→ps.getD (p * 2) 0≤Z.getD p 0∧Z.getD p 0≤ps.getD (p * 2+1) 0)→(ps.getD (i * 2) 0≤Z.getD i 0∧Z.getD i 0≤ps.getD (i * 2+1) 0)→(r=true↔∀ p,i≤p→p<np→ps.getD (p * 2) 0≤Z.getD p 0∧Z.getD p 0≤ps.getD (p * 2+1) 0):=fun r h h0=>h.trans ⟨fun q p q1 q2=>by
        rcases Nat.eq_or_lt_of_le q1 with e | e
        · subst e; exact h0
        · exact q p e q2,fun q p q1 q2=>q p (by omega) q2⟩
      rw[if_pos (by omega),a1,aj,aJ,aj,hld,aj,k3,at120 b (show i<8 by omega),aj,aJ,aj,lz,aj,fa90_0,aj,aJ,aj,l0,aj,ak cY]
      cases h1:decide (Z.getD i 0<ps.getD (i * 2) 0) with
      | true=>
        have:=of_decide_eq_true h1
        simp only[guardD_tf,dQ,aj,fw]
        exact⟨false,⟨H1,n+1,rfl,by omega,k1⟩,⟨fun h=>(by cases h),fun q=>absurd (q i (Nat.le_refl _) hlt).1 (by omega)⟩⟩
      | false=>
        have g1:=of_decide_eq_false h1
        simp only[guardD_ff,at120 b (show i<8 by omega),aj,aJ,lz,fa90_1,l1,ak xy,dk]
        cases h2:decide (ps.getD (i * 2+1) 0<Z.getD i 0) with
        | true=>
          have:=of_decide_eq_true h2
          rw[fw]
          exact⟨false,⟨H1,n+1,rfl,by omega,k1⟩,⟨fun h=>(by cases h),fun q=>absurd (q i (Nat.le_refl _) hlt).2 (by omega)⟩⟩
        | false=>
          have g2:=of_decide_eq_false h2
          rw[ej,ak (bV hI),hcast]
          obtain⟨r,⟨H2,n2,r1,r2,r3⟩,r4⟩:=ih H1 (n+1) (by omega) k1 hlt
          exact⟨r,⟨H2,n2,r1,by omega,k1.trans r3 (by omega)⟩,split r r4 ⟨by omega,by omega⟩⟩
    · rw[if_neg (by omega)]
      exact⟨true,⟨H,n,rfl,Nat.le_refl _,Keep.refl _ _⟩,⟨fun _ p h1 h2=>by omega,fun _=>rfl⟩⟩
  intro m
  induction m with
  | zero=>intro i H n h1 h2 h3 h4 h5; exact body _ 0 i H n h1 h2 h3 h4 (fun _ _ _ _ h=>by omega)
  | succ m ih=>intro i H n h1 h2 h3 h4 h5; exact body _ (m+1) i H n h1 h2 h3 h4 (fun H' n' q1 q2 _=>ih (i+1) H' n' (by omega) ((q2 b h1).trans h2) ((h3.keep q2 (Nat.le_refl _)).up q1) (by omega) (by omega))
end Go.Proofs.Ytekajfobmnedjaa.spec
end
section
namespace Go.Proofs.Ytekajfobmnedjaa.spec
open Go Go.Ev Go.Proofs.Ytekajfobmnedjaa.nestFits Go.Proofs.Ytekajfobmnedjaa.G
set_option maxRecDepth 100000
variable {ρ:Type}
noncomputable def uw (R:Nat→List Int) (i q:Nat):Int:=aZ (fun p=>(R p).getD q 0) i
def RowsOk (R:Nat→List Int) (np:Nat):Prop:=∀ p,p<np→(R p).length≤8∧∀ q,0≤(R p).getD q 0∧(R p).getD q 0≤1000
theorem youngR_range {R:Nat→List Int} {np:Nat} (h:RowsOk R np) (q:Nat):∀ {i:Nat},i≤np→0≤uw R i q∧uw R i q≤i * 1000
  | 0,_=>by simp [uw,aZ]
  | i+1,hi=>by
    have ih:=youngR_range h q (i:=i) (by omega)
    have:=(h i (by omega)).2 q
    unfold uw at ih ⊢
    simp only[aZ]
    omega
def Vw (ps:List Int) (R:Nat→List Int) (np:Nat):Prop:=∀ p,p<np→ps.getD (p * 2) 0≤uw R np p∧uw R np p≤ps.getD (p * 2+1) 0
theorem good_rows (c:Cal) (k:Nat) {g b np nj:Nat} {f:Nat→Value} {x y z v:Value} {ps js:List Int} {rw_:Nat→Value} {R:Nat→List Int} {H0:Hp} (hs:SiteF f x y z js nj) (hf:bQ H0 g 859 117 f) (hx:dv H0 b 2 x np ps) (hv:dY H0 b v np rw_ R) (hR:RowsOk R np) (hnp:np≤8) (hg:g<b) (hkk:20≤k) :
    ∀(m i:Nat) (Z:List Int) (H:Hp) (n:Nat),b<n→H.get b=some (.cells (ints Z) 120 false none)→Z.length=8→(∀ q,q<8→Z.getD q 0=uw R i q)→Keep b H0 H→i≤np→np-i+20≤m →
    ∃ r:Bool,Ret (S80_1 c k m (.pointer (some ⟨g,0,none⟩)) (.pointer (some ⟨b,0,none⟩)) v (.int .i64 np) (.int .i64 i) H n) b H0 (.bool r)∧(r=true↔Vw ps R np):=by
  have body:∀(b1:Value→Value→Value→Value→Value→Hp→Nat→Res) (m i:Nat) (Z:List Int) (H:Hp) (n:Nat),b<n→H.get b=some (.cells (ints Z) 120 false none)→Z.length=8→(∀ q,q<8→Z.getD q 0=uw R i q)→Keep b H0 H→i≤np→20≤m →
      (∀(Z:List Int) (H':Hp),H'.get b=some (.cells (ints Z) 120 false none)→Z.length=8→(∀ q,q<8→Z.getD q 0=uw R (i+1) q)→Keep b H0 H'→i<np→∃ r:Bool,Ret (b1 (.pointer (some ⟨g,0,none⟩)) (.pointer (some ⟨b,0,none⟩)) v (.int .i64 np) (.int .i64 ((i+1:Nat):Int)) H' n) b H0 (.bool r)∧(r=true↔Vw ps R np)) →
      ∃ r:Bool,Ret (C80_1 c k m b1 (.pointer (some ⟨g,0,none⟩)) (.pointer (some ⟨b,0,none⟩)) v (.int .i64 np) (.int .i64 i) H n) b H0 (.bool r)∧(r=true↔Vw ps R np):=by
    intro b1 m i Z H n hbn hgb hZ hq hk hi hm ih
    unfold C80_1
    generalize hS2:S80_2 c k m b1 m=S2
    generalize hS3:S80_3 c k k=S3
    unfold B80_1
    rw[ak cY,jw]
    have hvH:=hv.keep hk (Nat.le_refl _)
    by_cases hlt:i<np
    · obtain⟨c1,o,a1,_,a3⟩:=hvH.at_ hlt
      have hrow:=hvH.2 i hlt
      obtain⟨r1,r2⟩:=hR i hlt
      have el:lenV P 44 (rw_ i)=some (.int .i64 ((R i).length:Nat)):=hrow.len_eq
      rw[if_pos (by omega),a1,aj,aJ,aj,a3,aj,el,aj,← hS2]
      refine good_row c k m b1 (n0:=b) (xs:=R i) (Y:=uw R i) (Goal:=fun r=>∃ r':Bool,Ret r b H0 (.bool r')∧(r'=true↔Vw ps R np)) r1 (fun q=>?_) (fun q _=>r2 q) (by omega) (Nat.le_refl _) (H0:=H) hrow ?_ m 0 Z H hgb hZ (fun q hq8=>by rw[hq q hq8,if_neg (by omega),Int.add_zero]) (fun _ _=>rfl) (Nat.zero_le _) (by omega)
      · have:=youngR_range hR q (i:=i) (by omega)
        omega
      · intro Z' H' g1 g2 g3 g4
        refine ih Z' H' g1 g2 (fun q hq8=>?_) (fun q hqb=>by rw[g4 q (by omega),hk q hqb]) hlt
        rw[g3 q hq8]
        unfold uw
        simp only[aZ]
        by_cases d:q<(R i).length
        · rw[if_pos d]
        · rw[if_neg d,List.getD_eq_getElem?_getD (l:=R i),List.getElem?_eq_none (by omega)]
          rfl
    · have:i=np:=by omega
      subst this
      have f1:=hf.keep hk hg
      have lx:az P H 31 ⟨g,0+0+0,none⟩=some x:=by
        have:=f1.load (P:=P) (k:=0) Cz (by omega)
        rw[hs.x] at this; exact this
      have hlx:lenV P 31 x=some (.int .i64 i):=hx.len_eq Ck
      rw[if_neg (by omega),mj,aj,pk,aj,rz,aj,aJ,aj,lx,aj,hlx,aj,← hS3]
      obtain⟨r,⟨H',n',r1,r2,r3⟩,r4⟩:=good_pads c k (b:=b) hZ hnp k 0 H n hbn hgb ((hx.keep hk (Nat.le_refl _)).up (by omega)) (Nat.zero_le _) (by omega)
      refine⟨r,⟨H',n',r1,by omega,hk.trans r3 (by omega)⟩,r4.trans ⟨fun h p hp=>?_,fun h p _ hp=>?_⟩⟩
      · have:=h p (Nat.zero_le _) hp
        rw[hq p (by omega)] at this
        exact this
      · rw[hq p (by omega)]
        exact h p hp
  intro m
  induction m with
  | zero=>intro i Z H n h1 h2 h3 h4 h5 h6 h7; omega
  | succ m ih=>
    intro i Z H n h1 h2 h3 h4 h5 h6 h7
    refine body _ (m+1) i Z H n h1 h2 h3 h4 h5 h6 (by omega) (fun Z H' q1 q2 q3 q4 q5=>ih (i+1) Z H' n h1 q1 q2 q3 q4 (by omega) (by omega))
theorem good_spec (c:Cal) {g np nj:Nat} {f:Nat→Value} {x y z v:Value} {ps js:List Int} {rw_:Nat→Value} {R:Nat→List Int} {H:Hp} {n:Nat} (hs:SiteF f x y z js nj) (hf:bQ H g 859 117 f) (hx:dv H n 2 x np ps) (hv:dY H n v np rw_ R) (hR:RowsOk R np) (hnp:np≤8) (hg:g<n) :
    ∃ r:Bool,Ret (C80_0 c KK (.pointer (some ⟨g,0,none⟩)) v H n) n H (.bool r)∧(r=true↔Vw ps R np):=by
  unfold C80_0 B80_0
  generalize hS:S80_1 c KK KK=S
  rw[iV zero120]
  have c2:bj (.agg ⟨ints (List.replicate 8 0)⟩)=ints (List.replicate 8 0):=rfl
  simp only[ptr]
  rw[c2,hv.len_eq,aj,← hS]
  have hk:Keep n H (H.set n (some (.cells (ints (List.replicate 8 0)) 120 false none))):=(Keep.refl n H).set (Nat.le_refl _) _
  exact good_rows c KK hs hf hx hv hR hnp hg (by unfold KK; omega) KK 0 (List.replicate 8 0) _ (n+1) (Nat.lt_succ_self n) (by rw[Tr.get_set,if_pos rfl]) rfl (fun q hq=>by
    rw[List.getD_eq_getElem?_getD,List.getElem?_replicate,if_pos hq]
    rfl) hk (Nat.zero_le _) (by unfold KK; omega)
theorem call80 (l:Nat) (a b:Value) (H:Hp) (n:Nat):(cal (l+1)).call 80 [a,b] H n=C80_0 (cal l) KK a b H n:=by kernel_rfl
theorem good_call (l:Nat) {g np nj:Nat} {f:Nat→Value} {x y z v:Value} {ps js:List Int} {rw_:Nat→Value} {R:Nat→List Int} {H:Hp} {n:Nat} (hs:SiteF f x y z js nj) (hf:bQ H g 859 117 f) (hx:dv H n 2 x np ps) (hv:dY H n v np rw_ R) (hR:RowsOk R np) (hnp:np≤8) (hg:g<n) :
    ∃(r:Bool) (H':Hp) (n':Nat),(r=true↔Vw ps R np)∧(∀ k:Value→Hp→Nat→Option ρ,aY P (cal (l+1)) 80 [.pointer (some ⟨g,0,none⟩),v] H n k=k (.bool r) H' n')∧n≤n'∧Keep n H H':=by
  obtain⟨r,⟨H',n',e1,e2,e3⟩,e4⟩:=good_spec (cal l) hs hf hx hv hR hnp hg
  refine⟨r,H',n',e4,fun k=>?_,e2,e3⟩
  unfold aY
  have:(fX P 80 && cx [.pointer (some ⟨g,0,none⟩),v])=false:=by rw[Bool.and_eq_false_iff]; exact .inr rfl
  rw[this,call80,e1]
  rfl
end Go.Proofs.Ytekajfobmnedjaa.spec
end
section
namespace Go.Proofs.Ytekajfobmnedjaa.spec
open Go Go.Ev Go.Proofs.Ytekajfobmnedjaa.nestFits Go.Proofs.Ytekajfobmnedjaa.G
set_option maxRecDepth 100000
variable {ρ:Type}
theorem call38 (l:Nat) (a b c:Value) (H:Hp) (n:Nat):(cal (l+1)).call 38 [a,b,c] H n=C38_0 (cal l) KK a b c H n:=by kernel_rfl
theorem padBy_rows {js ks L:List Int} {nj np nk:Nat} {R:Nat→List Int} (hks:pJ ks nk) (hnp:np≤8) (hK:tw L np nk) (h:∀ p,p<np→yw js ks L nj np R p):RowsOk R np:=by
  intro p hp
  have:=h p hp
  unfold yw at this
  rcases hK p (by omega) with e | ⟨_,kd,hkd,e⟩
  · rw[if_pos e] at this
    have:R p=[]:=List.length_eq_zero_iff.1 this
    rw[this]
    exact⟨by simp,fun q=>by simp⟩
  · rw[if_neg (by omega),e,Int.toNat_natCast] at this
    obtain⟨b1,b2,_⟩:=this
    refine⟨by omega,fun q=>?_⟩
    have hsb:=AW (js:=js) (nj:=nj) hks hkd hnp hp
    by_cases c:q<np
    · have:=b2 q c
      have h1:=hsb (q * 2)
      have h2:=hsb (q * 2+1)
      omega
    · rw[List.getD_eq_getElem?_getD,List.getElem?_eq_none (by omega)]
      simp
theorem ProveSpread_spec (l:Nat) {np nj nk nl nv:Nat} {ps js ks ls:List Int} {H:Hp} {n:Nat} {v w u:Value} {rw_:Nat→Value} {R:Nat→List Int} (hg:gY H n v np nj nk ps js ks) (hw:ListR H n w nl ls) (hv:dY H n u nv rw_ R) (hnp:np≤1000) (hnj:nj≤1000) (hnk:nk≤1000) :
    ∃ r:Bool,Ret (C38_0 (cal (l+7)) KK v w u H n) n H (.bool r)∧(r=true↔eJ np nj nk nl ps js ks ls=0∧nv=np∧(∀ p,p<np→yw js ks (fq ls np) nj np R p)∧Vw ps R np):=by
  have hg0:=hg
  obtain⟨x,y,z,rfl,h1,h2,h3⟩:=hg
  unfold C38_0 B38_0
  rw[dq]
  simp only[bj,ptr]
  have hk:Keep n H (H.set n (some (.cells [x,y,z] 35 false none))):=(Keep.refl n H).set (Nat.le_refl _) _
  have hb:aX (H.set n (some (.cells [x,y,z] 35 false none))) n 0 [x,y,z]:=aX.new
  generalize H.set n (some (.cells [x,y,z] 35 false none))=H1 at hk hb ⊢
  have lg:az P H1 35 ⟨n,0,none⟩=some (.agg ⟨[x,y,z]⟩):=cw (o:=0) (k:=0) hb NV sz35 (by simp) (by simp [h1.hole.1,h2.hole.1,h3.hole.1])
  obtain⟨o1,o2⟩:=Ek l (hg0.keep hk (show n≤n+1 by omega)) (hw.keep hk (show n≤n+1 by omega)) hnp hnj hnk
  rw[aJ,aj,lg,aj,EJ]
  by_cases he:eJ np nj nk nl ps js ks ls=0
  · obtain⟨⟨g,x',y',z',f,H2,n2,e1,e2,e3,e4,e5,e6,e7,e8,e9⟩,hnl,hok,hft⟩:=o2 he
    simp only[Value.agg.injEq,Array.mk.injEq,List.cons.injEq,and_true] at e6
    obtain⟨rfl,rfl,rfl⟩:=e6
    have good:=Iw hft
    subst hnl
    have np8:=good.np8
    have nk3:=good.nk3
    have l8:=BY hw.1 good.np8
    have hK:tw (fq ls nl) nl nk:=Ix hw.1 hok
    generalize hLL:fq ls nl=L at *
    have lens:(ints L).length=8:=by rw[bq,l8]
    have t0:tupV (.tuple ⟨[.pointer (some ⟨g,0,none⟩),.agg ⟨ints L⟩,.int .i64 0]⟩) 0=some (.pointer (some ⟨g,0,none⟩)):=rfl
    have t1:tupV (.tuple ⟨[.pointer (some ⟨g,0,none⟩),.agg ⟨ints L⟩,.int .i64 0]⟩) 1=some (.agg ⟨ints L⟩):=rfl
    have t2:tupV (.tuple ⟨[.pointer (some ⟨g,0,none⟩),.agg ⟨ints L⟩,.int .i64 0]⟩) 2=some (.int .i64 0):=rfl
    have d0:decide ((0:Int)=0)=true:=rfl
    obtain⟨H3,k1,k2,k3⟩:=uX (P:=P) (ρ:=Value × Hp × Nat) (H:=H2) (n:=n2) (L:=ints L) DJ rfl rQ lens (fx _)
    have kk:Keep (n+1) H1 H3:=e3.trans k1 e2
    have f3:=e7.keep k1 e5
    have kn:Keep n H H3:=fun b hb=>by rw[kk b (by omega),hk b hb]
    have hx3:dv H3 (n2+1) 2 x nl ps:=(h1.keep kn (Nat.le_refl _)).up (by omega)
    have hv3:dY H3 (n2+1) u nv rw_ R:=hv.keep kn (by omega)
    obtain⟨r,H4,n4,b0,b1,b2,b3⟩:=spreads_call (ρ:=Value × Hp × Nat) (l+4) (show g<n2+1 by omega) f3 e8 e9 good.kinds hx3 np8 nk3 l8 hK hv3
    rw[e1,aj,t0,aj,t1,aj,t2,aj]
    dsimp only
    rw[k3,ak lq,d0]
    have lL:az P H3 121 ⟨n2,0,none⟩=some (.agg ⟨ints L⟩):=dw k2 yX rQ lens
    simp only[dX,aJ,aj,lL,b1,dQ]
    have k4:Keep n H H4:=fun b hb=>by rw[b3 b (by omega),kn b hb]
    cases r with
    | false=>
      simp only[eX,aj,dk]
      exact⟨false,⟨H4,n4,rfl,by omega,k4⟩,⟨fun h=>(by cases h),fun h=>absurd (b0.2 ⟨h.2.1,h.2.2.1⟩) (by simp)⟩⟩
    | true=>
      obtain⟨hnv,hpad⟩:=b0.1 rfl
      subst hnv
      obtain⟨s,H5,n5,c0,c1,c2,c3⟩:=good_call (ρ:=Value × Hp × Nat) (l+6) e8 (f3.keep b3 (by omega)) ((hx3.keep b3 (Nat.le_refl _)).up b2) (hv3.keep b3 b2) (padBy_rows good.kinds np8 hK hpad) np8 (show g<n4 by omega)
      simp only[dX,aj,c1,dQ]
      exact⟨s,⟨H5,n5,rfl,by omega,fun b hb=>by rw[c3 b (by omega),k4 b hb]⟩,c0.trans ⟨fun h=>⟨he,by trivial,hpad,h⟩,fun h=>h.2.2.2⟩⟩
  · obtain⟨H2,n2,e1,e2,e3⟩:=o1 he
    have t0:tupV (.tuple ⟨[.pointer none,.agg ⟨ints (List.replicate 8 0)⟩,.int .i64 (eJ np nj nk nl ps js ks ls)]⟩) 0=some (.pointer none):=rfl
    have t1:tupV (.tuple ⟨[.pointer none,.agg ⟨ints (List.replicate 8 0)⟩,.int .i64 (eJ np nj nk nl ps js ks ls)]⟩) 1=some (.agg ⟨ints (List.replicate 8 0)⟩):=rfl
    have t2:tupV (.tuple ⟨[.pointer none,.agg ⟨ints (List.replicate 8 0)⟩,.int .i64 (eJ np nj nk nl ps js ks ls)]⟩) 2=some (.int .i64 (eJ np nj nk nl ps js ks ls)):=rfl
    obtain⟨H3,k1,_,k3⟩:=uX (P:=P) (ρ:=Value × Hp × Nat) (H:=H2) (n:=n2) (L:=ints (List.replicate 8 0)) DJ rfl rQ rfl (fx _)
    rw[e1,aj,t0,aj,t1,aj,t2,aj]
    dsimp only
    rw[k3,ak lq,decide_eq_false he]
    simp only[eX,aj,dk]
    exact⟨false,⟨H3,n2+1,rfl,by omega,(hk.trans e3 (by omega)).trans k1 (by omega)⟩,⟨fun h=>(by cases h),fun h=>absurd h.1 he⟩⟩
theorem ProveSpread_call (l:Nat) {np nj nk nl nv:Nat} {ps js ks ls:List Int} {H:Hp} {n:Nat} {v w u:Value} {rw_:Nat→Value} {R:Nat→List Int} (hg:gY H n v np nj nk ps js ks) (hw:ListR H n w nl ls) (hv:dY H n u nv rw_ R) (hnp:np≤1000) (hnj:nj≤1000) (hnk:nk≤1000) (hne:bz u=false) :
    ∃(r:Bool) (H':Hp) (n':Nat),(r=true↔eJ np nj nk nl ps js ks ls=0∧nv=np∧(∀ p,p<np→yw js ks (fq ls np) nj np R p)∧Vw ps R np)∧(∀ k:Value→Hp→Nat→Option ρ,aY P (cal (l+8)) 38 [v,w,u] H n k=k (.bool r) H' n')∧n≤n'∧Keep n H H':=by
  obtain⟨r,⟨H',n',e1,e2,e3⟩,e4⟩:=ProveSpread_spec l hg hw hv hnp hnj hnk
  refine⟨r,H',n',e4,fun k=>?_,e2,e3⟩
  unfold aY
  have:(fX P 38 && cx [v,w,u])=false:=by simp [cx,hne]
  rw[this,call38,e1]
  rfl
end Go.Proofs.Ytekajfobmnedjaa.spec
end
section
namespace Go.Proofs.Ytekajfobmnedjaa.spec
open Go Go.Ev Go.Proofs.Ytekajfobmnedjaa.nestFits Go.Proofs.Ytekajfobmnedjaa.G
set_option maxRecDepth 100000
variable {ρ:Type}
theorem list_any (l:Nat) {H:Hp} {n len:Nat} {v:Value} {xs:List Int} (h:ListR H n v len xs) (hlen:len≤1000) :
    ∃ b cap vec H' n',(∀ k:Value→Hp→Nat→Option ρ,aY P (cal (l+1)) 23 [v] H n k=k (.slice (some ⟨b,0,none⟩) len cap) H' n')∧n≤b∧b<n'∧Keep n H H'∧H'.get b=some (.cells (ints xs) 3 false vec):=by
  by_cases h0:len=0
  · subst h0
    have hx:xs=[]:=List.length_eq_zero_iff.1 h.1
    subst hx
    have key:∃ H' n',Ly (cal l) KK v H n=some (.slice (some ⟨n,0,none⟩) 0 0,H',n')∧n<n'∧Keep n H H'∧H'.get n=some (.cells [] 3 false none):=by
      unfold Ly B23_0 rowK
      rw[row44_0,aj]
      unfold newK
      dsimp only
      have hk:Keep n H (H.set n (some (.cells [] 3 false none))):=(Keep.refl n H).set (Nat.le_refl _) _
      have hg:(H.set n (some (.cells [] 3 false none))).get n=some (.cells [] 3 false none):=by rw[Tr.get_set,if_pos rfl]
      have h1:=h.keep hk (show n≤n+1 by omega)
      generalize H.set n (some (.cells [] 3 false none))=H1 at hk hg h1 ⊢
      have hold:qj H1 ⟨n,0,none⟩ (0 * 1)=some []:=xj (L:=[]) (dj hg) rfl rfl
      have hbig:oQ (0+0) 1 8=true:=by unfold oQ; simp
      have hb1:Nat.beq (bj (.int .i64 0)).length 1=true:=rfl
      have c0:Nat.blt 0 capV=true:=by decide +kernel
      have ha:fQ P (bare H1 (n+1)) 44 44 (.slice (some ⟨n,0,none⟩) 0 0) v=some (.slice (some ⟨n,0,none⟩) 0 0,bare (H1.set n (some (.cells [] 3 false none))) (n+1)):=by
        unfold fQ
        have hs:lY (bare H1 (n+1)).H 1 v=some ([],0):=h1.src
        have hold':qj (bare H1 (n+1)).H ⟨n,0,none⟩ (0 * 1)=some []:=hold
        simp only[sl44,sz3,by3,zero3,hs,hb1,hold',hbig]
        unfold qq
        have hst:storeN (bare H1 (n+1)).H (addA ⟨n,0,none⟩ (0 * 1)) []=some (H1.set n (some (.cells [] 3 false none))):=by
          unfold storeN
          simp only[addA,bare,hg]
          rfl
        simp only[c0,hst]
        rfl
      unfold stK
      dsimp only
      rw[ha,aj]
      dsimp only [bare]
      exact⟨_,_,rfl,by omega,hk.set (Nat.le_refl _) _,by rw[Tr.get_set,if_pos rfl]⟩
    obtain⟨H',n',e1,e2,e3,e4⟩:=key
    refine⟨n,0,none,H',n',fun k=>?_,Nat.le_refl _,e2,e3,e4⟩
    unfold aY
    rw[flat23,call23,e1]
    rfl
  · obtain⟨b,cap,H',n',e,h1,h2,h3,h4⟩:=list_own_call (ρ:=ρ) l h h0 hlen
    exact⟨b,cap,some 1,H',n',e,h1,h2,h3,h4⟩
theorem row59 (b len cap:Nat):Cx P 59 1 [(0,.slice (some ⟨b,0,none⟩) len cap)]=some ([.slice (some ⟨b,0,none⟩) len cap],44):=by kernel_rfl
def OwnAt (H:Hp) (n:Nat) (v:Value) (xs:List Int):Prop:=∃ b cap vec,v=.slice (some ⟨b,0,none⟩) xs.length cap∧b<n∧H.get b=some (.cells (ints xs) 3 false vec)
theorem OwnAt.list {H:Hp} {n:Nat} {v:Value} {xs:List Int} (h:OwnAt H n v xs) (hx:∀ x ∈ xs,I64 x):ListR H n v xs.length xs:=by
  obtain⟨b,cap,vec,e,h1,h2⟩:=h
  exact⟨rfl,hx,.inr ⟨b,0,cap,e,h1,dj h2⟩⟩
theorem rows_loop (l k:Nat) {base len:Nat} {v:Value} {rw_:Nat→Value} {R:Nat→List Int} {H0:Hp} (hv:dY H0 base v len rw_ R) (hlen:len≤1000) (hR:∀ p,p<len→(R p).length≤1000):∀(m i:Nat) (u:Value) (nv:Nat→Value) (H:Hp) (n:Nat),Keep base H0 H→base≤n→VecV H base n 1 44 u i ((List.range i).map nv)→(∀ p,p<i→OwnAt H n (nv p) (R p))→i≤len→len-i≤m →
    ∃ w nv' H' n',S39_1 (cal (l+1)) k m v u (.int .i64 i) H n=some (w,H',n')∧base≤n'∧Keep base H0 H'∧dY H' n' w len nv' R:=by
  have body:∀(b1:Value→Value→Value→Hp→Nat→Res) (m i:Nat) (u:Value) (nv:Nat→Value) (H:Hp) (n:Nat),Keep base H0 H→base≤n→VecV H base n 1 44 u i ((List.range i).map nv)→(∀ p,p<i→OwnAt H n (nv p) (R p))→i≤len →
      (∀(u:Value) (nv:Nat→Value) (H:Hp) (n:Nat),Keep base H0 H→base≤n→VecV H base n 1 44 u (i+1) ((List.range (i+1)).map nv)→(∀ p,p<i+1→OwnAt H n (nv p) (R p))→i<len →
        ∃ w nv' H' n',b1 v u (.int .i64 ((i+1:Nat):Int)) H n=some (w,H',n')∧base≤n'∧Keep base H0 H'∧dY H' n' w len nv' R) →
      ∃ w nv' H' n',C39_1 (cal (l+1)) k m b1 v u (.int .i64 i) H n=some (w,H',n')∧base≤n'∧Keep base H0 H'∧dY H' n' w len nv' R:=by
    intro b1 m i u nv H n hk hbn hvec hown hi ih
    have hvH:=hv.keep hk hbn
    unfold C39_1 B39_1
    rw[hvH.len_eq,aj,ak cY,jw]
    by_cases hlt:i<len
    · have hI:I64 ((i:Int)+1):=by unfold I64; omega
      have hcast:((i:Int)+1)=((i+1:Nat):Int):=by omega
      obtain⟨c1,o,a1,_,a3⟩:=hvH.at_ hlt
      obtain⟨b,cap,vec,H1,n1,d1,d2,d3,d4,d5⟩:=list_any (ρ:=Value × Hp × Nat) l (hvH.2 i hlt) (hR i hlt)
      have hrow:aX (H1.set n1 (some (.cells [.slice (some ⟨b,0,none⟩) (R i).length cap] 44 false none))) n1 0 [.slice (some ⟨b,0,none⟩) (R i).length cap]:=aX.new
      have k2:∀ q,q<n1→(H1.set n1 (some (.cells [.slice (some ⟨b,0,none⟩) (R i).length cap] 44 false none))).get q=H1.get q:=fun q hq=>by rw[Tr.get_set,if_neg (by omega)]
      generalize hH2:H1.set n1 (some (.cells [.slice (some ⟨b,0,none⟩) (R i).length cap] 44 false none))=H2 at hrow k2
      have hv2:VecV H2 base (n1+1) 1 44 u i ((List.range i).map nv):=hvec.same (by omega) fun q hq _=>by rw[k2 q (by omega),d4 q hq]
      obtain⟨H3,ea,ev,eo⟩:=append_vecV (P:=P) (t:=59) (t2:=59) (cap2:=1) hv2 sl59 sl59 sz44 by44 zero44 rfl hrow rfl rfl rfl (by omega) (by omega) (by omega) (by omega)
      have low:∀ q,q<n→¬ fj u q→H3.get q=H.get q:=fun q hq hn=>by rw[eo q (by omega) hn,k2 q (by omega),d4 q hq]
      have e3:(List.range (i+1)).map (fun p=>if p=i then .slice (some ⟨b,0,none⟩) (R i).length cap else nv p)=(List.range i).map nv++[.slice (some ⟨b,0,none⟩) (R i).length cap]:=by
        rw[List.range_succ,List.map_append]
        congr 1
        · refine List.map_congr_left fun p hp=>?_
          have:=List.mem_range.1 hp
          rw[if_neg (by omega)]
        · simp
      rw[if_pos (by omega),a1,aj,aJ,aj,a3,aj,d1]
      unfold rowK
      rw[row59,aj]
      unfold newK stK
      dsimp only
      rw[hH2,ea,aj]
      dsimp only [bare]
      rw[ak (bV hI),hcast]
      refine ih _ (fun p=>if p=i then .slice (some ⟨b,0,none⟩) (R i).length cap else nv p) H3 (n1+1+1) (fun q hq=>?_) (by omega) (by rw[e3]; exact ev) (fun p hp=>?_) hlt
      · rw[low q (by omega) (fun z=>by have:=(hvec.low z).1; omega),hk q hq]
      · by_cases e:p=i
        · subst e
          rw[if_pos rfl]
          refine⟨b,cap,vec,rfl,by omega,?_⟩
          rw[eo b (by omega) (fun z=>by have:=(hvec.low z).2; omega),k2 b d3,d5]
        · rw[if_neg e]
          obtain⟨c2,cap2,vec2,x1,x2,x3⟩:=hown p (by omega)
          refine⟨c2,cap2,vec2,x1,by omega,?_⟩
          rw[low c2 x2 (fun z=>?_),x3]
          obtain⟨o',l',cp',sp',hz⟩:=z
          rcases hvec.2.2.2 with⟨y1,_⟩ | ⟨b',y1,_,_,_,y4⟩
          · rw[y1] at hz; cases hz
          · rw[y1] at hz
            cases hz
            rw[x3] at y4
            simp at y4
    · have:i=len:=by omega
      subst this
      rw[if_neg (by omega)]
      refine⟨u,nv,H,n,rfl,hbn,hk,?_,fun p hp=>(hown p hp).list (hv.2 p hp).2.1⟩
      rcases hvec.2.2.2 with⟨e1,e2⟩ | ⟨b,e,_,h2,_,h4⟩
      · exact .inl ⟨e1,e2⟩
      · exact .inr ⟨b,0,capV,e,h2,dj h4⟩
  intro m
  induction m with
  | zero=>intro i u nv H n h1 h2 h3 h4 h5 h6; exact body _ 0 i u nv H n h1 h2 h3 h4 h5 (fun _ _ _ _ _ _ _ _ h=>by omega)
  | succ m ih=>intro i u nv H n h1 h2 h3 h4 h5 h6; exact body _ (m+1) i u nv H n h1 h2 h3 h4 h5 (fun u nv H n q1 q2 q3 q4 _=>ih (i+1) u nv H n q1 q2 q3 q4 (by omega) (by omega))
theorem flat39:fX P 39=false:=by kernel_rfl
theorem call39 (l:Nat) (a:Value) (H:Hp) (n:Nat):(cal (l+1)).call 39 [a] H n=C39_0 (cal l) KK a H n:=by kernel_rfl
theorem rows_call (l:Nat) {len n:Nat} {v:Value} {rw_:Nat→Value} {R:Nat→List Int} {H:Hp} (hv:dY H n v len rw_ R) (hlen:len≤1000) (hR:∀ p,p<len→(R p).length≤1000) :
    ∃ w nv H' n',(∀ k:Value→Hp→Nat→Option ρ,aY P (cal (l+2)) 39 [v] H n k=k w H' n')∧n≤n'∧Keep n H H'∧dY H' n' w len nv R:=by
  obtain⟨w,nv,H',n',e1,e2,e3,e4⟩:=rows_loop l KK hv hlen hR KK 0 (.slice none 0 0) (fun _=>.slice none 0 0) H n (Keep.refl _ _) (Nat.le_refl _) ⟨rfl,rfl,rfl,.inl ⟨rfl,rfl⟩⟩ (fun p hp=>absurd hp (by omega)) (Nat.zero_le _) (by unfold KK; omega)
  refine⟨w,nv,H',n',fun k=>?_,e2,e3,e4⟩
  have e:C39_0 (cal (l+1)) KK v H n=some (w,H',n'):=e1
  unfold aY
  rw[flat39,call39,e]
  rfl
end Go.Proofs.Ytekajfobmnedjaa.spec
end
section
namespace Go.Proofs.Ytekajfobmnedjaa.spec
open Go Go.Ev Go.Proofs.Ytekajfobmnedjaa.nestFits Go.Proofs.Ytekajfobmnedjaa.G
set_option maxRecDepth 100000
variable {ρ:Type}
def WordsR (H:Hp) (n:Nat) (v:Value) (len:Nat):Prop:=len≤4611686018427387904∧((v=.slice none 0 0∧len=0)∨∃ b o cap,∃ f:Nat→Nat,v=.slice (some ⟨b,o,none⟩) len cap∧b<n∧(∀ i,f i<65536)∧(len=0∨aX H b o ((List.range len).map fun i=>.int .u16 (f i))))
theorem WordsR.keep {H H':Hp} {n m len:Nat} {v:Value} (h:WordsR H n v len) (hk:Keep n H H') (hm:n≤m):WordsR H' m v len:=by
  obtain⟨h0,h⟩:=h
  refine⟨h0,?_⟩
  rcases h with h | ⟨b,o,cap,f,e,a,c,d⟩
  · exact .inl h
  · exact .inr ⟨b,o,cap,f,e,by omega,c,d.imp id fun z=>z.keep hk a⟩
theorem WordsR.nil {H:Hp} {n len:Nat} {v:Value} (h:WordsR H n v len) (hp:bz v=true):WordsR .nil 0 v len:=by
  obtain⟨h0,h⟩:=h
  refine⟨h0,?_⟩
  rcases h with h | ⟨b,o,cap,f,rfl,_⟩
  · exact .inl h
  · cases hp
theorem und91:P.underlying 91=some (.slice 97):=by kernel_rfl
theorem sz97:szT P 97=some 1:=by kernel_rfl
theorem agg97:fk P 97=some false:=by kernel_rfl
theorem conv97 {a:Int} (ha:I64 a):eW P (.int .u16 a) (convert 97 3 (.int .u16 a))=some (.int .i64 a):=by
  have h:kK P (convert 97 3 (.int .u16 a))=some (.int .i64 (IntKind.i64.wrap a)):=by kernel_rfl
  unfold eW
  rw[h,KV ha]
  rfl
theorem WordsR.len_eq {H:Hp} {n len:Nat} {v:Value} (h:WordsR H n v len):lenV P 91 v=some (.int .i64 len):=by
  rcases h.2 with⟨rfl,rfl⟩ | ⟨b,o,cap,f,rfl,_⟩
  · unfold lenV; simp only[und91]; rfl
  · unfold lenV; simp only[und91]; rfl
theorem word_spec (c:Cal) (k:Nat) {H:Hp} {n len:Nat} {v:Value} (h:WordsR H n v len) (at_:Nat):∃ a:Nat,a<65536∧C90_0 c k v (.int .i64 at_) H n=some (.int .i64 a,H,n):=by
  have hlen:=h.1
  unfold C90_0 B90_0
  rw[h.len_eq,aj,ak lq]
  by_cases h0:len=0
  · rw[decide_eq_true (by omega),fw]
    exact⟨0,by omega,rfl⟩
  · have hne:(len:Int)≠0:=by omega
    have hlt:at_ % len<len:=Nat.mod_lt _ (by omega)
    rw[decide_eq_false hne,ej,aj,ak (bin_rem hne),Tj h0]
    rcases h.2 with⟨rfl,e⟩ | ⟨b,o,cap,f,rfl,hb,hf,hc⟩
    · exact absurd e h0
    · have hc':aX H b o ((List.range len).map fun i=>.int .u16 (f i)):=by
        rcases hc with z | z
        · exact absurd z h0
        · exact z
      have hix:aQ P 91 (.slice (some ⟨b,o,none⟩) len cap) (.int .i64 ((at_ % len:Nat):Int))=some (.pointer (some ⟨b,o+at_ % len,none⟩)):=by
        unfold aQ
        simp only[und91,CQ hlt,sz97]
        simp [addA]
      have hld:az P H 97 ⟨b,o+at_ % len,none⟩=some (.int .u16 (f (at_ % len))):=bw hc' agg97 (by rw[List.getElem?_map,List.getElem?_range hlt]; rfl) rfl rfl
      have:=hf (at_ % len)
      rw[hix,aj,aJ,aj,hld,aj,conv97 (by unfold I64; omega),aj]
      exact⟨f (at_ % len),this,rfl⟩
theorem call90 (l:Nat) (a b:Value) (H:Hp) (n:Nat):(cal (l+1)).call 90 [a,b] H n=C90_0 (cal l) KK a b H n:=by kernel_rfl
theorem word_call (l:Nat) {H:Hp} {n len:Nat} {v:Value} (h:WordsR H n v len) (at_:Nat):∃(a:Nat) (H':Hp) (n':Nat),a<65536∧(∀ k:Value→Hp→Nat→Option ρ,aY P (cal (l+1)) 90 [v,.int .i64 at_] H n k=k (.int .i64 a) H' n')∧n≤n'∧Keep n H H':=by
  obtain⟨r,H',n',⟨a,rfl,ha⟩,e1,e2,e3⟩:=ew (ρ:=ρ) (P:=P) (cal:=cal (l+1)) (f:=90) (args:=[v,.int .i64 at_]) (H:=H) (n:=n)
    (Pre:=fun H n=>WordsR H n v len) (Q:=fun r=>∃ a:Nat,r=.int .i64 a∧a<65536)
    (fun H n h=>by
      obtain⟨a,h1,h2⟩:=word_spec (cal l) KK h at_
      exact⟨.int .i64 a,by rw[call90]; exact⟨H,n,h2,Nat.le_refl _,Keep.refl _ _⟩,a,rfl,h1⟩) (fun r ⟨a,e,_⟩ _=>by subst e; rfl) h (fun hp=>by
        simp only[cx,Bool.and_eq_true] at hp
        exact h.nil hp.1)
  exact⟨a,H',n',ha,e1,e2,e3⟩
theorem reach_new (l:Nat) {np nj nk kd:Nat} {ps js ks:List Int} (good:Good np nj nk ps js ks) {H:Hp} {n:Nat} {v:Value} (hg:GroveI H n v np nj nk ps js ks) (hk:kd<nk) (p q:Int) :
    ∃ H' n',n<n'∧Keep n H H'∧aX H' n 0 [.int .i64 (bx js ks nj kd p q).1,.int .i64 (bx js ks nj kd p q).2] ∧
      ∀ K:Hp→Nat→Res,(aq (jX P 55) fun z=>newK (bj z) 55 H n fun H1 n1=>effK P [.a n (bj z) 55] H1 n1 (fun H n k=>aY P (cal (l+2)) 77 [v,.int .i64 kd,.int .i64 p,.int .i64 q] H n fun v H n=>k v H n) fun r H2 n2=>aq (bJ P 55 (ptr n) r H2) fun H3=>K H3 n2)=K H' n':=by
  have kA:Keep n H ((H.set n (some (.cells (bj (.agg #[.int .i64 0,.int .i64 0])) 55 false none))).set n none):=((Keep.refl n H).set (Nat.le_refl _) _).set (Nat.le_refl _) _
  obtain⟨H2,n2,e,e2,e3⟩:=HZ l (ρ:=Value × Hp × Nat) (hg.keep kA (show n≤n+1 by omega)) (show nj≤KK by have:=good.nj16; unfold KK; omega) kd hk p q
  have hget:(H2.set n ((H.set n (some (.cells (bj (.agg #[.int .i64 0,.int .i64 0])) 55 false none))).get n)).get n=some (.cells [.int .i64 0,.int .i64 0] 55 false none):=by
    rw[Tr.get_set,if_pos rfl,Tr.get_set,if_pos rfl]; rfl
  have kB:Keep n H (H2.set n ((H.set n (some (.cells (bj (.agg #[.int .i64 0,.int .i64 0])) 55 false none))).get n)):=(kA.trans e3 (by omega)).set (Nat.le_refl _) _
  refine⟨(H2.set n ((H.set n (some (.cells (bj (.agg #[.int .i64 0,.int .i64 0])) 55 false none))).get n)).set n (some (.cells [.int .i64 (bx js ks nj kd p q).1,.int .i64 (bx js ks nj kd p q).2] 55 false none)),n2,by omega,kB.set (Nat.le_refl _) _,aX.new,fun K=>?_⟩
  simp only[aj,zero55,newK,effK_a]
  rw[e]
  generalize (H2.set n ((H.set n (some (.cells (bj (.agg #[.int .i64 0,.int .i64 0])) 55 false none))).get n))=H3 at hget ⊢
  rw[ptr,Ww,jZ (c:=[.int .i64 0,.int .i64 0]) (vs:=[.int .i64 (bx js ks nj kd p q).1,.int .i64 (bx js ks nj kd p q).2]) (e:=55) (vec:=none) hget rfl rfl,aj]
end Go.Proofs.Ytekajfobmnedjaa.spec
end
section
namespace Go.Proofs.Ytekajfobmnedjaa.spec
open Go Go.Ev Go.Proofs.Ytekajfobmnedjaa.nestFits Go.Proofs.Ytekajfobmnedjaa.G
set_option maxRecDepth 100000
variable {ρ:Type}
end Go.Proofs.Ytekajfobmnedjaa.spec
end
section
namespace Go.Proofs.Ytekajfobmnedjaa.spec
open Go Go.Ev Go.Proofs.Ytekajfobmnedjaa.nestFits Go.Proofs.Ytekajfobmnedjaa.G
set_option maxRecDepth 100000
variable {ρ:Type}
theorem bin_quo {t:TypeId} {x y:Operand} {a b:Int} (hb:b≠0) (h:I64 (a.tdiv b)):binV P .quo t x y (.int .i64 a) (.int .i64 b)=some (.int .i64 (a.tdiv b)):=by
  refine xw (by simp [binOp,Op.intDiv,hb,KV h]) rfl ?_
  rintro m n rfl rfl
  exact .inr rfl
theorem quo_small {a n:Nat}:((a:Int).tdiv (n:Int))=((a / n:Nat):Int):=by
  rw[Int.tdiv_eq_ediv_of_nonneg (by omega)]
  rfl
theorem by3':tZ P 3=some 8:=by kernel_rfl
theorem make44 (H:Hp) (n:Nat) {np:Nat} (h:np≤1000):kJ P 44 (.int .i64 np) (.int .i64 np) (bare H n)=some (.slice (some ⟨n,0,none⟩) np np,bare (H.set n (some (.cells (ints (List.replicate np 0)) 3 false none))) (n+1)):=by
  show kJ P 44 (.int .i64 (.ofNat np)) (.int .i64 (.ofNat np)) (bare H n)=_
  unfold kJ
  have hb:oQ np 1 8=true:=by unfold oQ; simp; omega
  simp only[sl44,sz3,by3',zero3]
  rw[if_pos ⟨Nat.le_refl _,hb,rfl⟩]
  have:repl np (bj (.int .i64 0))=ints (List.replicate np 0):=by
    show repl np [.int .i64 0]=_
    rw[qaj]
    unfold ints
    rw[List.map_replicate]
  rw[this]
  rfl
end Go.Proofs.Ytekajfobmnedjaa.spec
end
section
namespace Go.Proofs.Ytekajfobmnedjaa.spec
open Go Go.Ev Go.Proofs.Ytekajfobmnedjaa.nestFits Go.Proofs.Ytekajfobmnedjaa.G
set_option maxRecDepth 100000
variable {ρ:Type}
theorem max_k56 (a b:Int) (H:Hp) (n:Nat) (k:Value→Hp→Nat→Option ρ) :
    ry P .max [3,3] (Go.Call.mk (Go.Callee.builtin Go.Builtin.max) #[(Go.Operand.tmp 86),(Go.Operand.tmp 88)] #[3,3]) 3 [.int .i64 a,.int .i64 b] H n k=k (.int .i64 (max a b)) H n:=by
  have h:max a b=if b > a then b else a:=by omega
  rw[h]
  rfl
theorem min_k56 (a b:Int) (H:Hp) (n:Nat) (k:Value→Hp→Nat→Option ρ) :
    ry P .min [3,3] (Go.Call.mk (Go.Callee.builtin Go.Builtin.min) #[(Go.Operand.tmp 90),(Go.Operand.tmp 92)] #[3,3]) 3 [.int .i64 a,.int .i64 b] H n k=k (.int .i64 (min a b)) H n:=by
  have h:min a b=if b<a then b else a:=by omega
  rw[h]
  rfl
theorem Lj {f:Nat→Int} {c:Int}:∀ {i:Nat},(∀ k,k<i→0≤f k∧f k≤c)→0≤aZ f i∧aZ f i≤i * c
  | 0,_=>by simp [aZ]
  | i+1,h=>by
    have ih:=Lj (i:=i) fun k hk=>h k (by omega)
    have:=h i (by omega)
    simp only[aZ]
    rw[Int.natCast_add,Int.add_mul]
    omega
theorem Pq {f g:Nat→Int} (h:∀ k,f k≤g k) {i:Nat}:∀ {d:Nat},aZ f (i+d)-aZ f i≤aZ g (i+d)-aZ g i
  | 0=>by simp
  | d+1=>by
    have ih:=Pq h (i:=i) (d:=d)
    have:=h (i+d)
    rw[show i+(d+1)=(i+d)+1 by omega]
    simp only[aZ]
    omega
theorem choose56 (l k m1 m2:Nat) {np nj nk p kd o g0 bo br lw:Nat} {ps js ks ls X:List Int} {x y z u1 u2:Value} {rw_:Nat→Value} {left:Int} (good:Good np nj nk ps js ks) (hp:p<np) (ho:o<np) (hkd:ls.getD p 0=kd) (hk:kd<nk) (hl:0≤left∧left≤1000)
    (hlo:aZ (fun q=>(bx js ks nj kd p (q:Nat)).1) np-aZ (fun q=>(bx js ks nj kd p (q:Nat)).1) o≤left) (hhi:left≤aZ (fun q=>(bx js ks nj kd p (q:Nat)).2) np-aZ (fun q=>(bx js ks nj kd p (q:Nat)).2) o)
    (b1:Value→Value→Value→Value→Value→Hp→Nat→Res) (b3:Value→Value→Value→Value→Value→Value→Value→Hp→Nat→Res) {Goal:Res→Prop} (hbr:rw_ p=.slice (some ⟨br,0,none⟩) np np) (hX:X.length=np) {H0:Hp} {n0:Nat} (hbrn:br<n0) (hbon:bo<n0) (hg0n:g0<n0)
    (cont:∀(val:Int) (H:Hp) (n:Nat),n0≤n→(∀ q,q<n0→q≠br→H.get q=H0.get q)→H.get br=some (.cells (ints (X.set o val)) 3 false none)→(bx js ks nj kd p (o:Nat)).1≤val→val≤(bx js ks nj kd p (o:Nat)).2 →
      aZ (fun q=>(bx js ks nj kd p (q:Nat)).1) np-aZ (fun q=>(bx js ks nj kd p (q:Nat)).1) (o+1)≤left-val→left-val≤aZ (fun q=>(bx js ks nj kd p (q:Nat)).2) np-aZ (fun q=>(bx js ks nj kd p (q:Nat)).2) (o+1) →
      Goal (C56_5 (cal (l+2)) k m1 m2 b1 b3 u1 u2 (.pointer (some ⟨g0,0,none⟩)) (.slice (some ⟨bo,0,none⟩) np np) (.int .i64 p) (.int .i64 left) (.int .i64 o) H n))
    (hb0:aX H0 g0 0 [x,y,z]) (hg0:GroveI H0 n0 (.agg ⟨[x,y,z]⟩) np nj nk ps js ks) (hw0:ListR H0 n0 u1 np ls) (hwd0:WordsR H0 n0 u2 lw) (hc0:bQ H0 bo np 44 rw_) (hr0:H0.get br=some (.cells (ints X) 3 false none)) :
    ∀(m q:Nat) (H:Hp) (n:Nat),n0≤n→Keep n0 H0 H→o<q→q≤np→np-q≤m →
    Goal (S56_4 (cal (l+2)) k m1 m2 b1 b3 m u1 u2 (.pointer (some ⟨g0,0,none⟩)) (.slice (some ⟨bo,0,none⟩) np np) (.int .i64 p) (.int .i64 left) (.int .i64 o) (.int .i64 (left-(aZ (fun q=>(bx js ks nj kd p (q:Nat)).2) q-aZ (fun q=>(bx js ks nj kd p (q:Nat)).2) (o+1)))) (.int .i64 (left-(aZ (fun q=>(bx js ks nj kd p (q:Nat)).1) q-aZ (fun q=>(bx js ks nj kd p (q:Nat)).1) (o+1)))) (.int .i64 q) H n):=by
  have np8:=good.np8
  have sm:=fun q:Nat=>wW (js:=js) (nj:=nj) good.small hk (p:Int) (q:Int)
  generalize hLO:(fun q:Nat=>(bx js ks nj kd p (q:Nat)).1)=LO at *
  generalize hHI:(fun q:Nat=>(bx js ks nj kd p (q:Nat)).2)=HI at *
  have eLO:∀ q:Nat,(bx js ks nj kd p (q:Nat)).1=LO q:=fun q=>by rw[← hLO]
  have eHI:∀ q:Nat,(bx js ks nj kd p (q:Nat)).2=HI q:=fun q=>by rw[← hHI]
  have sLO:∀ i,0≤aZ LO i∧aZ LO i≤i * 1000:=fun i=>Lj fun k _=>by rw[← eLO]; have:=sm k; omega
  have sHI:∀ i,0≤aZ HI i∧aZ HI i≤i * 1000:=fun i=>Lj fun k _=>by rw[← eHI]; have:=sm k; omega
  rw[eLO,eHI] at cont
  obtain⟨x',y',z',hxyz,h1,h2,h3⟩:=hg0.eq
  cases hxyz
  have body:∀(b4:Value→Value→Value→Value→Value→Value→Value→Value→Value→Value→Hp→Nat→Res) (m q:Nat) (H:Hp) (n:Nat),n0≤n→Keep n0 H0 H→o<q→q≤np →
      (∀(H:Hp) (n:Nat),n0≤n→Keep n0 H0 H→q<np→Goal (b4 u1 u2 (.pointer (some ⟨g0,0,none⟩)) (.slice (some ⟨bo,0,none⟩) np np) (.int .i64 p) (.int .i64 left) (.int .i64 o) (.int .i64 (left-(aZ HI (q+1)-aZ HI (o+1)))) (.int .i64 (left-(aZ LO (q+1)-aZ LO (o+1)))) (.int .i64 ((q+1:Nat):Int)) H n)) →
      Goal (C56_4 (cal (l+2)) k m1 m2 m b1 b3 b4 u1 u2 (.pointer (some ⟨g0,0,none⟩)) (.slice (some ⟨bo,0,none⟩) np np) (.int .i64 p) (.int .i64 left) (.int .i64 o) (.int .i64 (left-(aZ HI q-aZ HI (o+1)))) (.int .i64 (left-(aZ LO q-aZ LO (o+1)))) (.int .i64 q) H n):=by
    intro b4 m q H n hn hkp hoq hq ih
    unfold C56_4
    generalize hJ:C56_5 (cal (l+2)) k m1 m2 b1 b3=J
    unfold B56_4
    have hw:=hw0.keep hkp hn
    have hbx:=hb0.keep hkp hg0n
    obtain⟨rb,ro,hix,_,hld⟩:=hw.at_ hp
    rw[hkd] at hld
    rw[hw.len_eq,aj,ak cY,jw]
    by_cases hlt:q<np
    · have hI:I64 ((q:Int)+1):=by unfold I64; omega
      have hcast:((q:Int)+1)=((q+1:Nat):Int):=by omega
      obtain⟨H1,n1,a1,a2,a3,a4⟩:=reach_new l good (hg0.keep hkp hn) hk (p:Int) (q:Int)
      have c0:az P H1 3 ⟨n,0+0,none⟩=some (.int .i64 (bx js ks nj kd p (q:Nat)).1):=bv a3 agg3 rfl
      have c1:az P H1 3 ⟨n,0+1,none⟩=some (.int .i64 (bx js ks nj kd p (q:Nat)).2):=bv a3 agg3 rfl
      have l1:=sLO q
      have l2:=sLO (o+1)
      have l3:=sHI q
      have l4:=sHI (o+1)
      have s1:=sm q
      have hI1:I64 (left-(aZ HI q-aZ HI (o+1))-(bx js ks nj kd p (q:Nat)).2):=by unfold I64; omega
      have hI2:I64 (left-(aZ LO q-aZ LO (o+1))-(bx js ks nj kd p (q:Nat)).1):=by unfold I64; omega
      have x1:left-(aZ HI q-aZ HI (o+1))-(bx js ks nj kd p (q:Nat)).2=left-(aZ HI (q+1)-aZ HI (o+1)):=by rw[eHI]; simp only[aZ]; omega
      have x2:left-(aZ LO q-aZ LO (o+1))-(bx js ks nj kd p (q:Nat)).1=left-(aZ LO (q+1)-aZ LO (o+1)):=by rw[eLO]; simp only[aZ]; omega
      rw[if_pos (by omega),aJ,aj,Cy hbx h1.hole.1 h2.hole.1 h3.hole.1,aj,hix,aj,aJ,aj,hld,aj,a4]
      simp only[ptr]
      rw[HY,aj,aJ,aj,c1,aj,ak (zK hI1),HX,aj,aJ,aj,c0,aj,ak (zK hI2),ak (bV hI),hcast,x1,x2]
      exact ih H1 n1 (by omega) (hkp.trans a2 hn) hlt
    · have:q=np:=by omega
      subst this
      obtain⟨H1,n1,a1,a2,a3,a4⟩:=reach_new l good (hg0.keep hkp hn) hk (p:Int) (o:Int)
      have c0:az P H1 3 ⟨n,0+0,none⟩=some (.int .i64 (LO o)):=by rw[← eLO]; exact bv a3 agg3 rfl
      have c1:az P H1 3 ⟨n,0+1,none⟩=some (.int .i64 (HI o)):=by rw[← eHI]; exact bv a3 agg3 rfl
      have hk1:Keep n0 H0 H1:=hkp.trans a2 hn
      obtain⟨a,H2,n2,d0,d1,d2,d3⟩:=word_call (ρ:=Value × Hp × Nat) (l+1) (hwd0.keep hk1 (show n0≤n1 by omega)) (7 * p+o)
      have hk2:Keep n0 H0 H2:=hk1.trans d3 (by omega)
      have s1:=sm o
      rw[eLO,eHI] at s1
      have l1:=sLO q
      have l2:=sLO (o+1)
      have l3:=sHI q
      have l4:=sHI (o+1)
      have m1':aZ LO (o+1)=aZ LO o+LO o:=rfl
      have m2':aZ HI (o+1)=aZ HI o+HI o:=rfl
      rw[if_neg (by omega),aJ,aj,Cy hbx h1.hole.1 h2.hole.1 h3.hole.1,aj,hix,aj,aJ,aj,hld,aj,a4]
      simp only[ptr]
      have hI7:I64 ((7:Int) * (p:Int)):=by unfold I64; omega
      have hI8:I64 ((7:Int) * (p:Int)+(o:Int)):=by unfold I64; omega
      have ec:(7:Int) * (p:Int)+(o:Int)=((7 * p+o:Nat):Int):=by omega
      rw[HX,aj,aJ,aj,c0,aj,max_k56,HY,aj,aJ,aj,c1,aj,min_k56,ak (bin_mul hI7),ak (bV hI8),ec,d1]
      generalize hlf:max (left-(aZ HI q-aZ HI (o+1))) (LO o)=lf
      generalize hhf:min (left-(aZ LO q-aZ LO (o+1))) (HI o)=hf
      have df:=Pq (f:=LO) (g:=HI) (fun k=>by have:=sm k; rw[eLO,eHI] at this; exact this.2.1) (i:=o+1) (d:=q-(o+1))
      rw[show o+1+(q-(o+1))=q by omega] at df
      have hle:lf≤hf:=by omega
      have hcf:bQ H2 bo q 44 rw_:=hc0.keep hk2 hbon
      have lrow:az P H2 44 ⟨bo,0+p * 1,none⟩=some (.slice (some ⟨br,0,none⟩) q q):=by
        have:=hcf.load (P:=P) (k:=0+p * 1) agg44 (by omega)
        rw[show rw_ (0+p * 1)=rw_ p by congr 1; omega,hbr] at this
        exact this
      have gr:H2.get br=some (.cells (ints X) 3 false none):=(hk2 br hbrn).trans hr0
      have hst:∀ val:Int,bJ P 3 (.pointer (some ⟨br,0+o * 1,none⟩)) (.int .i64 val) H2=some (H2.set br (some (.cells (ints (X.set o val)) 3 false none))):=fun val=>by
        rw[store3,show 0+o * 1=o by omega]
        exact MJ gr (by omega)
      have fin:∀ val:Int,lf≤val→val≤hf→Goal (J u1 u2 (.pointer (some ⟨g0,0,none⟩)) (.slice (some ⟨bo,0,none⟩) q q) (.int .i64 p) (.int .i64 left) (.int .i64 o) (H2.set br (some (.cells (ints (X.set o val)) 3 false none))) n2):=by
        intro val v1 v2
        rw[← hJ]
        exact cont val _ n2 (by omega) (fun b hb hne=>by rw[Tr.get_set,if_neg hne,hk2 b hb]) (by rw[Tr.get_set,if_pos rfl]) (by omega) (by omega) (by omega) (by omega)
      have e4:((a:Int).tmod 4)=((a % 4:Nat):Int):=Tj (a:=a) (n:=4) (by omega)
      rw[ak (bin_rem (by omega)),e4,ak lq]
      cases q0:decide (((a % 4:Nat):Int)=0) with
      | true=>
        rw[fw,at59 bo q q hp,aj,aJ,aj,lrow,aj,at44L br q q ho,aj,hst,aj]
        exact fin lf (Int.le_refl _) hle
      | false=>
        rw[ej,ak lq]
        cases q1:decide (((a % 4:Nat):Int)=1) with
        | true=>
          rw[fw,at59 bo q q hp,aj,aJ,aj,lrow,aj,at44L br q q ho,aj,hst,aj]
          exact fin hf hle (Int.le_refl _)
        | false=>
          have e5:((a:Int).tdiv 4)=((a / 4:Nat):Int):=quo_small (a:=a) (n:=4)
          have hI9:I64 ((a:Int).tdiv 4):=by rw[e5]; unfold I64; omega
          have hIa:I64 (hf-lf):=by unfold I64; omega
          have hIb:I64 (hf-lf+1):=by unfold I64; omega
          obtain⟨B,hB⟩:∃ B:Nat,hf-lf+1=(B:Int):=⟨(hf-lf+1).toNat,by omega⟩
          have hB0:B≠0:=by omega
          have hml:a / 4 % B<B:=Nat.mod_lt _ (by omega)
          have hIc:I64 (lf+((a / 4 % B:Nat):Int)):=by
            generalize a / 4 % B=r at hml
            unfold I64; omega
          rw[ej,at59 bo q q hp,aj,aJ,aj,lrow,aj,ak (bin_quo (by omega) hI9),e5,ak (zK hIa),ak (bV hIb),hB,ak (bin_rem (by omega)),Tj hB0,ak (bV hIc),at44L br q q ho,aj,hst,aj]
          refine fin _ ?_ ?_
          · generalize a / 4 % B=r at hml
            omega
          · generalize a / 4 % B=r at hml
            omega
  intro m
  induction m with
  | zero=>intro q H n h1 h2 h3 h4 h5; exact body _ 0 q H n h1 h2 h3 h4 (fun _ _ _ _ h=>by omega)
  | succ m ih=>intro q H n h1 h2 h3 h4 h5; exact body _ (m+1) q H n h1 h2 h3 h4 (fun H n q1 q2 _=>ih (q+1) H n q1 q2 (by omega) (by omega) (by omega))
end Go.Proofs.Ytekajfobmnedjaa.spec
end
section
namespace Go.Proofs.Ytekajfobmnedjaa.spec
open Go Go.Ev Go.Proofs.Ytekajfobmnedjaa.nestFits Go.Proofs.Ytekajfobmnedjaa.G
set_option maxRecDepth 100000
variable {ρ:Type}
theorem fill56 (l k m1:Nat) {np nj nk p kd g0 bo br lw base:Nat} {ps js ks ls:List Int} {x y z u1 u2:Value} {rw_:Nat→Value} {Y:Int} (good:Good np nj nk ps js ks) (hp:p<np) (hkd:ls.getD p 0=kd) (hk:kd<nk) (hY:0≤Y∧Y≤1000)
    (b1:Value→Value→Value→Value→Value→Hp→Nat→Res) {Goal:Res→Prop} (hbr:rw_ p=.slice (some ⟨br,0,none⟩) np np) {Hs H0:Hp} {n0:Nat} (hbrn:br<n0) (hbon:bo<n0) (hg0n:g0<n0) (e1:bo≠br) (e2:g0≠br) (hbase:base≤br) (hks0:Keep base Hs H0)
    (hgs:GroveI Hs base (.agg ⟨[x,y,z]⟩) np nj nk ps js ks) (hws:ListR Hs base u1 np ls) (hwds:WordsR Hs base u2 lw) (hb0:aX H0 g0 0 [x,y,z]) (hc0:bQ H0 bo np 44 rw_)
    (cont:∀(X:List Int) (H:Hp) (n:Nat),n0≤n→(∀ q,q<n0→q≠br→H.get q=H0.get q)→H.get br=some (.cells (ints X) 3 false none)→X.length=np→(∀ q:Nat,q<np→(bx js ks nj kd p q).1≤X.getD q 0∧X.getD q 0≤(bx js ks nj kd p q).2)→aZ (fun q=>X.getD q 0) np=Y →
      Goal (QY (cal (l+2)) k m1 b1 u1 u2 (.pointer (some ⟨g0,0,none⟩)) (.slice (some ⟨bo,0,none⟩) np np) (.int .i64 p) H n)) :
    ∀(m2 o:Nat) (X:List Int) (H:Hp) (n:Nat),n0≤n→(∀ q,q<n0→q≠br→H.get q=H0.get q)→H.get br=some (.cells (ints X) 3 false none)→X.length=np→(∀ q:Nat,q<o→(bx js ks nj kd p q).1≤X.getD q 0∧X.getD q 0≤(bx js ks nj kd p q).2) →
      aZ (fun q:Nat=>(bx js ks nj kd p (q:Nat)).1) np-aZ (fun q:Nat=>(bx js ks nj kd p (q:Nat)).1) o≤Y-aZ (fun q=>X.getD q 0) o→Y-aZ (fun q=>X.getD q 0) o≤aZ (fun q:Nat=>(bx js ks nj kd p (q:Nat)).2) np-aZ (fun q:Nat=>(bx js ks nj kd p (q:Nat)).2) o→o≤np→np-o+10≤m2 →
    Goal (S56_3 (cal (l+2)) k m1 b1 m2 u1 u2 (.pointer (some ⟨g0,0,none⟩)) (.slice (some ⟨bo,0,none⟩) np np) (.int .i64 p) (.int .i64 (Y-aZ (fun q=>X.getD q 0) o)) (.int .i64 o) H n):=by
  have np8:=good.np8
  have sm:=fun q:Nat=>wW (js:=js) (nj:=nj) good.small hk (p:Int) (q:Int)
  have body:∀(b3:Value→Value→Value→Value→Value→Value→Value→Hp→Nat→Res) (m2 o:Nat) (X:List Int) (H:Hp) (n:Nat),n0≤n→(∀ q,q<n0→q≠br→H.get q=H0.get q)→H.get br=some (.cells (ints X) 3 false none)→X.length=np→(∀ q:Nat,q<o→(bx js ks nj kd p q).1≤X.getD q 0∧X.getD q 0≤(bx js ks nj kd p q).2) →
      aZ (fun q:Nat=>(bx js ks nj kd p (q:Nat)).1) np-aZ (fun q:Nat=>(bx js ks nj kd p (q:Nat)).1) o≤Y-aZ (fun q=>X.getD q 0) o→Y-aZ (fun q=>X.getD q 0) o≤aZ (fun q:Nat=>(bx js ks nj kd p (q:Nat)).2) np-aZ (fun q:Nat=>(bx js ks nj kd p (q:Nat)).2) o→o≤np→10≤m2 →
      (∀(X:List Int) (H:Hp) (n:Nat),n0≤n→(∀ q,q<n0→q≠br→H.get q=H0.get q)→H.get br=some (.cells (ints X) 3 false none)→X.length=np→(∀ q:Nat,q<o+1→(bx js ks nj kd p q).1≤X.getD q 0∧X.getD q 0≤(bx js ks nj kd p q).2) →
        aZ (fun q:Nat=>(bx js ks nj kd p (q:Nat)).1) np-aZ (fun q:Nat=>(bx js ks nj kd p (q:Nat)).1) (o+1)≤Y-aZ (fun q=>X.getD q 0) (o+1)→Y-aZ (fun q=>X.getD q 0) (o+1)≤aZ (fun q:Nat=>(bx js ks nj kd p (q:Nat)).2) np-aZ (fun q:Nat=>(bx js ks nj kd p (q:Nat)).2) (o+1)→o<np →
        Goal (b3 u1 u2 (.pointer (some ⟨g0,0,none⟩)) (.slice (some ⟨bo,0,none⟩) np np) (.int .i64 p) (.int .i64 (Y-aZ (fun q=>X.getD q 0) (o+1))) (.int .i64 ((o+1:Nat):Int)) H n)) →
      Goal (C56_3 (cal (l+2)) k m1 m2 b1 b3 u1 u2 (.pointer (some ⟨g0,0,none⟩)) (.slice (some ⟨bo,0,none⟩) np np) (.int .i64 p) (.int .i64 (Y-aZ (fun q=>X.getD q 0) o)) (.int .i64 o) H n):=by
    intro b3 m2 o X H n hn hh hgb hX hin hlo hhi ho hm ih
    have kb:Keep base Hs H:=fun q hq=>(hh q (by omega) (by omega)).trans (hks0 q hq)
    have hw:=hws.keep kb (show base≤n by omega)
    have hb:aX H g0 0 [x,y,z]:=by
      obtain⟨B,c,x1,x2,x3⟩:=hb0
      exact⟨B,c,by rw[hh g0 hg0n e2]; exact x1,x2,x3⟩
    have hc:bQ H bo np 44 rw_:=by
      obtain⟨c,a1,a2,a3⟩:=hc0
      exact⟨c,by rw[hh bo hbon e1]; exact a1,a2,a3⟩
    unfold C56_3
    generalize hJ:S56_4 (cal (l+2)) k m1 m2 b1 b3 m2=J
    unfold B56_3
    rw[hw.len_eq,aj,ak cY,jw]
    by_cases hlt:o<np
    · have hI:I64 ((o:Int)+1):=by unfold I64; omega
      have hcast:((o:Int)+1)=((o+1:Nat):Int):=by omega
      have sX:=Lj (f:=fun q=>X.getD q 0) (c:=1000) (i:=o) fun q hq=>by
        have h1:=hin q hq
        have h2:=sm q
        omega
      have sL:=Lj (f:=fun q:Nat=>(bx js ks nj kd p (q:Nat)).1) (c:=1000) (i:=o) fun q _=>by have:=sm q; omega
      have dL:=Pq (f:=fun _=>0) (g:=fun q:Nat=>(bx js ks nj kd p (q:Nat)).1) (fun q=>(sm q).1) (i:=o) (d:=np-o)
      have z0:∀ i,aZ (fun _=>0) i=0:=fun i=>by
        induction i with
        | zero=>rfl
        | succ i ih=>simp only[aZ,ih]; rfl
      rw[z0,z0,show o+(np-o)=np by omega] at dL
      have:=choose56 l k m1 m2 (lw:=lw) (u1:=u1) (u2:=u2) good hp hlt hkd hk (left:=Y-aZ (fun q=>X.getD q 0) o) ⟨by omega,by omega⟩ hlo hhi b1 b3 (Goal:=Goal) hbr hX (H0:=H) (n0:=n) (by omega) (by omega) (by omega)
        (fun val H' n' q1 q2 q3 q4 q5 q6 q7=>by
          have hh':∀ q,q<n0→q≠br→H'.get q=H0.get q:=fun q hq hne=>(q2 q (by omega) hne).trans (hh q hq hne)
          have hc':bQ H' bo np 44 rw_:=by
            obtain⟨c,a1,a2,a3⟩:=hc0
            exact⟨c,by rw[hh' bo hbon e1]; exact a1,a2,a3⟩
          have lrow:az P H' 44 ⟨bo,0+p * 1,none⟩=some (.slice (some ⟨br,0,none⟩) np np):=by
            have:=hc'.load (P:=P) (k:=0+p * 1) agg44 (by omega)
            rw[show rw_ (0+p * 1)=rw_ p by congr 1; omega,hbr] at this
            exact this
          have gX:(X.set o val).getD o 0=val:=EQ (by omega)
          have lval:az P H' 3 ⟨br,0+o * 1,none⟩=some (.int .i64 val):=by
            have:=bv (o:=0) (k:=o) (P:=P) (dj q3) agg3 (kz (getD_some (by simp; omega)))
            rw[gX] at this
            rw[show 0+o * 1=0+o by omega]
            exact this
          have hI2:I64 (Y-aZ (fun q=>X.getD q 0) o-val):=by have:=sm o; unfold I64; omega
          have same:∀ i,i≤o→aZ (fun q=>(X.set o val).getD q 0) i=aZ (fun q=>X.getD q 0) i:=fun i hi=>oy fun q hq=>AX (by omega)
          have e:Y-aZ (fun q=>X.getD q 0) o-val=Y-aZ (fun q=>(X.set o val).getD q 0) (o+1):=by
            simp only[aZ]
            rw[same o (Nat.le_refl _),gX]
            omega
          unfold C56_5 B56_5
          rw[at59 bo np np hp,aj,aJ,aj,lrow,aj,at44L br np np hlt,aj,aJ,aj,lval,aj,ak (zK hI2),ak (bV hI),hcast,e]
          refine ih (X.set o val) H' n' (by omega) hh' q3 (by simp [hX]) (fun q hq=>?_) (by rw[← e]; exact q6) (by rw[← e]; exact q7) hlt
          by_cases ce:q=o
          · subst ce
            rw[gX]; exact⟨q4,q5⟩
          · rw[AX ce]
            exact hin q (by omega))
        hb ((hgs.keep kb (show base≤n by omega))) hw (hwds.keep kb (by omega)) hc hgb m2 (o+1) H n (Nat.le_refl _) (Keep.refl _ _) (by omega) (by omega) (by omega)
      simp only[Int.sub_self,Int.sub_zero] at this
      rw[if_pos (by omega),ak (bV hI),hcast,← hJ]
      exact this
    · have:o=np:=by omega
      subst this
      rw[if_neg (by omega)]
      exact cont X H n hn hh hgb hX hin (by omega)
  intro m2
  induction m2 with
  | zero=>intro o X H n h1 h2 h3 h4 h5 h6 h7 h8 h9; omega
  | succ m ih=>
    intro o X H n h1 h2 h3 h4 h5 h6 h7 h8 h9
    exact body _ (m+1) o X H n h1 h2 h3 h4 h5 h6 h7 h8 (by omega) (fun X H n q1 q2 q3 q4 q5 q6 q7 q8=>ih (o+1) X H n q1 q2 q3 q4 q5 q6 q7 (by omega) (by omega))
end Go.Proofs.Ytekajfobmnedjaa.spec
end
section
namespace Go.Proofs.Ytekajfobmnedjaa.spec
open Go Go.Ev Go.Proofs.Ytekajfobmnedjaa.nestFits Go.Proofs.Ytekajfobmnedjaa.G
set_option maxRecDepth 100000
variable {ρ:Type}
def RowD (js ks:List Int) (nj np p:Nat) (kind:Int) (H:Hp) (lo n:Nat) (v:Value) (xs:List Int):Prop:=nZ js ks nj np p kind xs∧(∀ q:Nat,0≤xs.getD q 0∧xs.getD q 0≤1000)∧((v=.slice none 0 0∧xs=[])∨∃ b,v=.slice (some ⟨b,0,none⟩) np np∧xs.length=np∧lo≤b∧b<n∧H.get b=some (.cells (ints xs) 3 false none))
theorem RowD.same {js ks:List Int} {nj np p:Nat} {kind:Int} {H H':Hp} {lo n m:Nat} {v:Value} {xs:List Int} (h:RowD js ks nj np p kind H lo n v xs) (hm:n≤m) (hk:∀ b,lo≤b→b<n→H'.get b=H.get b):RowD js ks nj np p kind H' lo m v xs:=by
  obtain⟨h1,h2,h3⟩:=h
  refine⟨h1,h2,?_⟩
  rcases h3 with h | ⟨b,e,l,a,c,d⟩
  · exact .inl h
  · exact .inr ⟨b,e,l,a,by omega,by rw[hk b a c]; exact d⟩
theorem RowD.list {js ks:List Int} {nj np p:Nat} {kind:Int} {H:Hp} {lo n:Nat} {v:Value} {xs:List Int} (h:RowD js ks nj np p kind H lo n v xs):ListR H n v xs.length xs:=by
  obtain⟨_,h2,h3⟩:=h
  refine⟨rfl,fun x hx=>?_,?_⟩
  · obtain⟨k,hk,e⟩:=List.mem_iff_getElem.1 hx
    have:xs.getD k 0=x:=by rw[List.getD_eq_getElem?_getD,List.getElem?_eq_getElem hk,e]; rfl
    have:=h2 k
    unfold I64; omega
  · rcases h3 with⟨e,e2⟩ | ⟨b,e,l,_,c,d⟩
    · exact .inl ⟨e,by rw[e2]; rfl⟩
    · exact .inr ⟨b,0,np,by rw[e,l],c,dj d⟩
theorem sums_fit {np nj nk p kd:Nat} {ps js ks:List Int} (good:Good np nj nk ps js ks) (hjs:js.length=nj * 2) (hp:p<np) (hfit:fitD js ks nj np p kd=true) :
    aZ (fun q:Nat=>(bx js ks nj kd p (q:Nat)).1) np≤ks.getD (kd * 5) 0∧ks.getD (kd * 5) 0≤aZ (fun q:Nat=>(bx js ks nj kd p (q:Nat)).2) np:=by
  have np8:=good.np8
  have hin:=good.inner hjs
  unfold fitD at hfit
  have h:=of_decide_eq_true hfit
  have t0:kV (shP js ks nj np p kd) 0=aZ (fun q:Nat=>(bx js ks nj kd p (q:Nat)).1) np:=by
    unfold kV
    refine Eq.trans (oy (g:=fun q:Nat=>(bx js ks nj kd p (q:Nat)).1) (fun q _=>(pq (ks:=ks) (kd:=kd) hin np8 hp q).1)) ?_
    exact oz np8 fun q h1 _=>by rw[wY hin hp h1]
  have t1:kV (shP js ks nj np p kd) 1=aZ (fun q:Nat=>(bx js ks nj kd p (q:Nat)).2) np:=by
    unfold kV
    refine Eq.trans (oy (g:=fun q:Nat=>(bx js ks nj kd p (q:Nat)).2) (fun q _=>(pq (ks:=ks) (kd:=kd) hin np8 hp q).2)) ?_
    exact oz np8 fun q h1 _=>by rw[wY hin hp h1]
  omega
theorem spread_rows (l k:Nat) {np nj nk lw base:Nat} {ps js ks ls:List Int} {x y z u1 u2:Value} (good:Good np nj nk ps js ks) (hjs:js.length=nj * 2) (hok:rV js ks ls nj np nk) {Hs:Hp} (hgs:GroveI Hs base (.agg ⟨[x,y,z]⟩) np nj nk ps js ks) (hws:ListR Hs base u1 np ls) (hwds:WordsR Hs base u2 lw) :
    ∀(m p:Nat) (rw_:Nat→Value) (R:Nat→List Int) (H:Hp) (n:Nat),Keep base Hs H→base+2≤n→aX H base 0 [x,y,z]→bQ H (base+1) np 44 rw_→(∀ q,q<p→RowD js ks nj np q (ls.getD q 0) H (base+2) n (rw_ q) (R q))→(∀ q,p≤q→q<np→rw_ q=.slice none 0 0)→p≤np→np-p+30≤m →
    ∃(rw':Nat→Value) (R':Nat→List Int) (H':Hp) (n':Nat),S56_1 (cal (l+2)) k m u1 u2 (.pointer (some ⟨base,0,none⟩)) (.slice (some ⟨base+1,0,none⟩) np np) (.int .i64 p) H n=some (.slice (some ⟨base+1,0,none⟩) np np,H',n')∧base+2≤n'∧Keep base Hs H'∧bQ H' (base+1) np 44 rw'∧∀ q,q<np→RowD js ks nj np q (ls.getD q 0) H' (base+2) n' (rw' q) (R' q):=by
  have np8:=good.np8
  have body:∀(b1:Value→Value→Value→Value→Value→Hp→Nat→Res) (m p:Nat) (rw_:Nat→Value) (R:Nat→List Int) (H:Hp) (n:Nat),Keep base Hs H→base+2≤n→aX H base 0 [x,y,z]→bQ H (base+1) np 44 rw_→(∀ q,q<p→RowD js ks nj np q (ls.getD q 0) H (base+2) n (rw_ q) (R q))→(∀ q,p≤q→q<np→rw_ q=.slice none 0 0)→p≤np→20≤m →
      (∀(rw_:Nat→Value) (R:Nat→List Int) (H:Hp) (n:Nat),Keep base Hs H→base+2≤n→aX H base 0 [x,y,z]→bQ H (base+1) np 44 rw_→(∀ q,q<p+1→RowD js ks nj np q (ls.getD q 0) H (base+2) n (rw_ q) (R q))→(∀ q,p+1≤q→q<np→rw_ q=.slice none 0 0)→p<np →
        ∃(rw':Nat→Value) (R':Nat→List Int) (H':Hp) (n':Nat),b1 u1 u2 (.pointer (some ⟨base,0,none⟩)) (.slice (some ⟨base+1,0,none⟩) np np) (.int .i64 ((p+1:Nat):Int)) H n=some (.slice (some ⟨base+1,0,none⟩) np np,H',n')∧base+2≤n'∧Keep base Hs H'∧bQ H' (base+1) np 44 rw'∧∀ q,q<np→RowD js ks nj np q (ls.getD q 0) H' (base+2) n' (rw' q) (R' q)) →
      ∃(rw':Nat→Value) (R':Nat→List Int) (H':Hp) (n':Nat),C56_1 (cal (l+2)) k m b1 u1 u2 (.pointer (some ⟨base,0,none⟩)) (.slice (some ⟨base+1,0,none⟩) np np) (.int .i64 p) H n=some (.slice (some ⟨base+1,0,none⟩) np np,H',n')∧base+2≤n'∧Keep base Hs H'∧bQ H' (base+1) np 44 rw'∧∀ q,q<np→RowD js ks nj np q (ls.getD q 0) H' (base+2) n' (rw' q) (R' q):=by
    intro b1 m p rw_ R H n hkp hbn hb hc hdone hrest hp hm ih
    have hw:=hws.keep hkp (show base≤n by omega)
    unfold C56_1
    generalize hJ3:S56_3 (cal (l+2)) k m b1 m=J3
    generalize hJ2:QY (cal (l+2)) k m b1=J2
    unfold B56_1
    rw[hw.len_eq,aj,ak cY,jw]
    by_cases hlt:p<np
    · have hI:I64 ((p:Int)+1):=by unfold I64; omega
      have hcast:((p:Int)+1)=((p+1:Nat):Int):=by omega
      obtain⟨rb,ro,hix,_,hld⟩:=hw.at_ hlt
      have step:∀(rw2:Nat→Value) (R2:Nat→List Int) (H2:Hp) (n2:Nat),Keep base Hs H2→base+2≤n2→aX H2 base 0 [x,y,z]→bQ H2 (base+1) np 44 rw2→(∀ q,q<p+1→RowD js ks nj np q (ls.getD q 0) H2 (base+2) n2 (rw2 q) (R2 q))→(∀ q,p+1≤q→q<np→rw2 q=.slice none 0 0) →
          ∃(rw':Nat→Value) (R':Nat→List Int) (H':Hp) (n':Nat),J2 u1 u2 (.pointer (some ⟨base,0,none⟩)) (.slice (some ⟨base+1,0,none⟩) np np) (.int .i64 p) H2 n2=some (.slice (some ⟨base+1,0,none⟩) np np,H',n')∧base+2≤n'∧Keep base Hs H'∧bQ H' (base+1) np 44 rw'∧∀ q,q<np→RowD js ks nj np q (ls.getD q 0) H' (base+2) n' (rw' q) (R' q):=by
        intro rw2 R2 H2 n2 q1 q2 q3 q4 q5 q6
        rw[← hJ2]
        unfold QY B56_2
        rw[ak (bV hI),hcast]
        exact ih rw2 R2 H2 n2 q1 q2 q3 q4 q5 q6 hlt
      rw[if_pos (by omega),hix,aj,aJ,aj,hld,aj,ak cY]
      rcases hok p hlt with h | ⟨t1,t2,t3⟩
      · have d0:decide (ls.getD p 0<0)=true:=decide_eq_true (by omega)
        rw[d0,fw]
        refine step rw_ (fun q=>if q=p then[] else R q) H n hkp hbn hb hc (fun q hq=>?_) (fun q h1 h2=>hrest q (by omega) h2)
        by_cases e:q=p
        · subst e
          rw[if_pos rfl]
          exact⟨by unfold nZ; rw[if_pos (by omega)]; rfl,fun _=>by simp,.inl ⟨hrest q (Nat.le_refl _) hlt,rfl⟩⟩
        · rw[if_neg e]
          exact hdone q (by omega)
      · have d0:decide (ls.getD p 0<0)=false:=decide_eq_false (by omega)
        obtain⟨kd,hkd⟩:∃ kd:Nat,ls.getD p 0=kd:=⟨(ls.getD p 0).toNat,by omega⟩
        rw[hkd] at t2 t3 hld
        rw[Int.toNat_natCast] at t3
        have hk:kd<nk:=by omega
        obtain⟨y1,_,_⟩:=good.kinds kd hk
        obtain⟨f1,f2⟩:=sums_fit good hjs hlt t3
        rw[d0,ej,aj]
        unfold stK
        rw[make44 H n (by omega),aj]
        dsimp only [bare]
        have g1:(H.set n (some (.cells (ints (List.replicate np 0)) 3 false none))).get n=some (.cells (ints (List.replicate np 0)) 3 false none):=by rw[Tr.get_set,if_pos rfl]
        have g2:∀ q,q<n→(H.set n (some (.cells (ints (List.replicate np 0)) 3 false none))).get q=H.get q:=fun q hq=>by rw[Tr.get_set,if_neg (by omega)]
        generalize H.set n (some (.cells (ints (List.replicate np 0)) 3 false none))=H1 at g1 g2 ⊢
        have hc1:bQ H1 (base+1) np 44 rw_:=by
          obtain⟨c,a1,a2,a3⟩:=hc
          exact⟨c,by rw[g2 _ (by omega)]; exact a1,a2,a3⟩
        obtain⟨H2,s1,s2,s3⟩:=hc1.storeN (o:=0+p * 1) (vs:=[.slice (some ⟨n,0,none⟩) np np]) (by simp; omega) rfl
        have hb2:aX H2 base 0 [x,y,z]:=by
          obtain⟨B,c,x1,x2,x3⟩:=hb
          exact⟨B,c,by rw[s3 base (by omega),g2 base (by omega)]; exact x1,x2,x3⟩
        have k2:Keep base Hs H2:=fun q hq=>by rw[s3 q (by omega),g2 q (by omega),hkp q hq]
        obtain⟨_,_,_,hxyz,h1,h2,h3⟩:=(hgs.keep k2 (show base≤n+1 by omega)).eq
        cases hxyz
        obtain⟨zb,zo,z1,z2⟩:=Wx h3 hk
        have lz:az P H2 24 ⟨base,0+2,none⟩=some z:=bw hb2 FW rfl h3.hole.1 h3.hole.2
        have hw2:=hws.keep k2 (show base≤n+1 by omega)
        obtain⟨rb2,ro2,hix2,_,hld2⟩:=hw2.at_ hlt
        rw[hix] at hix2
        cases hix2
        rw[hkd] at hld2
        have hY:=z2 0 (by omega)
        rw[at59 (base+1) np np hlt,aj,wX sz44 rfl,s1,aj,yJ,aj,aJ,aj,lz,aj,aj,aJ,aj,hld2,aj,z1,aj,SJ,aj,aJ,aj,hY,aj,Nat.add_zero,← hJ3]
        have hrw:putF rw_ (0+p * 1) [.slice (some ⟨n,0,none⟩) np np] p=.slice (some ⟨n,0,none⟩) np np:=by rw[nY,if_pos (by omega)]
        have z0:∀ i,aZ (fun q=>(List.replicate np (0:Int)).getD q 0) i=0:=fun i=>by
          have e:∀ q,(List.replicate np (0:Int)).getD q 0=0:=fun q=>by rw[List.getD_eq_getElem?_getD,List.getElem?_replicate]; split <;> rfl
          induction i with
          | zero=>rfl
          | succ i ihi=>
            simp only[aZ]
            rw[ihi,e]
            rfl
        have:=fill56 l k m (lw:=lw) (u1:=u1) (u2:=u2) (bo:=base+1) (g0:=base) (br:=n) (base:=base) (Y:=ks.getD (kd * 5) 0) (x:=x) (y:=y) (z:=z) (rw_:=putF rw_ (0+p * 1) [.slice (some ⟨n,0,none⟩) np np]) good hlt hkd hk y1 b1
          (Goal:=fun r=>∃(rw':Nat→Value) (R':Nat→List Int) (H':Hp) (n':Nat),r=some (.slice (some ⟨base+1,0,none⟩) np np,H',n')∧base+2≤n'∧Keep base Hs H'∧bQ H' (base+1) np 44 rw'∧∀ q,q<np→RowD js ks nj np q (ls.getD q 0) H' (base+2) n' (rw' q) (R' q)) hrw (Hs:=Hs) (H0:=H2) (n0:=n+1) (by omega) (by omega) (by omega) (by omega) (by omega) (by omega) k2 hgs hws hwds hb2 s2
          (fun X H' n' q1 q2 q3 q4 q5 q6=>by
            rw[hJ2]
            refine step (putF rw_ (0+p * 1) [.slice (some ⟨n,0,none⟩) np np]) (fun q=>if q=p then X else R q) H' n' (fun q hq=>by rw[q2 q (by omega) (by omega),k2 q hq]) (by omega) ?_ ?_ (fun q hq=>?_) (fun q w1 w2=>?_)
            · obtain⟨B,c,x1,x2,x3⟩:=hb2
              exact⟨B,c,by rw[q2 base (by omega) (by omega)]; exact x1,x2,x3⟩
            · obtain⟨c,a1,a2,a3⟩:=s2
              exact⟨c,by rw[q2 _ (by omega) (by omega)]; exact a1,a2,a3⟩
            · by_cases e:q=p
              · subst e
                rw[if_pos rfl,hrw,hkd]
                refine⟨?_,fun j=>?_,.inr ⟨n,rfl,q4,by omega,by omega,q3⟩⟩
                · unfold nZ
                  rw[if_neg (by omega),Int.toNat_natCast]
                  exact⟨q4,q5,q6⟩
                · by_cases cj:j<np
                  · have v1:=q5 j cj
                    have v2:=wW (js:=js) (nj:=nj) good.small hk (q:Int) (j:Int)
                    omega
                  · rw[List.getD_eq_getElem?_getD,List.getElem?_eq_none (by omega)]; simp
              · rw[if_neg e,nY,if_neg (by omega)]
                refine(hdone q (by omega)).same (by omega) fun b w1 w2=>?_
                rw[q2 b (by omega) (by omega),s3 b (by omega),g2 b w2]
            · rw[nY,if_neg (by omega)]
              exact hrest q (by omega) w2)
          m 0 (List.replicate np 0) H2 (n+1) (Nat.le_refl _) (fun _ _ _=>rfl) (by rw[s3 n (by omega)]; exact g1) (by simp) (fun q hq=>absurd hq (by omega)) (by rw[z0]; simp only[aZ]; omega) (by rw[z0]; simp only[aZ]; omega) (Nat.zero_le _) (by omega)
        rw[z0,Int.sub_zero] at this
        exact this
    · have:p=np:=by omega
      subst this
      rw[if_neg (by omega)]
      exact⟨rw_,R,H,n,rfl,hbn,hkp,hc,hdone⟩
  intro m
  induction m with
  | zero=>intro p rw_ R H n h1 h2 h3 h4 h5 h6 h7 h8; omega
  | succ m ih=>
    intro p rw_ R H n h1 h2 h3 h4 h5 h6 h7 h8
    exact body _ (m+1) p rw_ R H n h1 h2 h3 h4 h5 h6 h7 (by omega) (fun rw_ R H n q1 q2 q3 q4 q5 q6 _=>ih (p+1) rw_ R H n q1 q2 q3 q4 q5 q6 (by omega) (by omega))
end Go.Proofs.Ytekajfobmnedjaa.spec
end
section
namespace Go.Proofs.Ytekajfobmnedjaa.spec
open Go Go.Ev Go.Proofs.Ytekajfobmnedjaa.nestFits Go.Proofs.Ytekajfobmnedjaa.G
set_option maxRecDepth 100000
variable {ρ:Type}
theorem flat56:fX P 56=false:=by kernel_rfl
theorem call56 (l:Nat) (a b c:Value) (H:Hp) (n:Nat):(cal (l+1)).call 56 [a,b,c] H n=C56_0 (cal l) KK a b c H n:=by kernel_rfl
theorem Spread_call (l:Nat) {np nj nk lw:Nat} {ps js ks ls:List Int} {g w u:Value} {H:Hp} {n:Nat} (good:Good np nj nk ps js ks) (hjs:js.length=nj * 2) (hok:rV js ks ls nj np nk) (hg:GroveI H n g np nj nk ps js ks) (hw:ListR H n w np ls) (hu:WordsR H n u lw) :
    ∃(v:Value) (rw_:Nat→Value) (R:Nat→List Int) (H':Hp) (n':Nat),(∀ k:Value→Hp→Nat→Option ρ,aY P (cal (l+3)) 56 [g,w,u] H n k=k v H' n')∧n≤n'∧Keep n H H'∧dY H' n' v np rw_ R∧(∀ q,q<np→nZ js ks nj np q (ls.getD q 0) (R q))∧∀ p,p<np→∀ q:Nat,0≤(R p).getD q 0∧(R p).getD q 0≤1000:=by
  have np8:=good.np8
  obtain⟨x,y,z,rfl,_⟩:=hg.eq
  have key:∃(rw_:Nat→Value) (R:Nat→List Int) (H':Hp) (n':Nat),C56_0 (cal (l+2)) KK (.agg ⟨[x,y,z]⟩) w u H n=some (.slice (some ⟨n+1,0,none⟩) np np,H',n')∧n+2≤n'∧Keep n H H'∧bQ H' (n+1) np 44 rw_∧∀ q,q<np→RowD js ks nj np q (ls.getD q 0) H' (n+2) n' (rw_ q) (R q):=by
    unfold C56_0 B56_0
    generalize hS:S56_1 (cal (l+2)) KK KK=S
    rw[dq]
    simp only[bj,ptr]
    have hk:Keep n H (H.set n (some (.cells [x,y,z] 26 false none))):=(Keep.refl n H).set (Nat.le_refl _) _
    have hb:aX (H.set n (some (.cells [x,y,z] 26 false none))) n 0 [x,y,z]:=aX.new
    generalize H.set n (some (.cells [x,y,z] 26 false none))=H1 at hk hb ⊢
    rw[hw.len_eq,aj]
    unfold stK
    rw[make59 H1 (n+1) (by omega),aj]
    dsimp only [bare]
    have hsp:bQ (H1.set (n+1) (some (.cells (List.replicate np (.slice none 0 0)) 44 false none))) (n+1) np 44 fun _=>.slice none 0 0:=bQ.new (by simp) _ fun k hk=>by rw[List.getElem?_replicate,if_pos hk]
    have k2:Keep n H (H1.set (n+1) (some (.cells (List.replicate np (.slice none 0 0)) 44 false none))):=hk.set (by omega) _
    rw[← hS]
    exact spread_rows l KK good hjs hok hg hw hu KK 0 (fun _=>.slice none 0 0) (fun _=>[]) _ (n+1+1) k2 (by omega) (hb.set (by omega)) hsp (fun q hq=>absurd hq (by omega)) (fun _ _ _=>rfl) (Nat.zero_le _) (by unfold KK; omega)
  obtain⟨rw_,R,H',n',e1,e2,e3,e4,e5⟩:=key
  refine⟨.slice (some ⟨n+1,0,none⟩) np np,rw_,R,H',n',fun k=>?_,by omega,e3,dY.of_cells (by omega) e4 fun p hp=>(e5 p hp).list,fun q hq=>(e5 q hq).1,fun p hp q=>(e5 p hp).2.1 q⟩
  unfold aY
  rw[flat56,call56,e1]
  rfl
end Go.Proofs.Ytekajfobmnedjaa.spec
end
section
namespace Go.Proofs.Ytekajfobmnedjaa.spec
open Go Go.Ev Go.Proofs.Ytekajfobmnedjaa.nestFits Go.Proofs.Ytekajfobmnedjaa.G
set_option maxRecDepth 100000
theorem sumTo_sub {f g:Nat→Int}:∀ {i:Nat},aZ (fun k=>f k-g k) i=aZ f i-aZ g i
  | 0=>rfl
  | i+1=>by
    have ih:=sumTo_sub (f:=f) (g:=g) (i:=i)
    simp only[aZ]
    omega
theorem Pv {f:Nat→Int}:∀ {i o:Nat},(∀ k,k<i→0≤f k)→o<i→f o≤aZ f i
  | 0,_,_,h=>by omega
  | i+1,o,h,ho=>by
    have pos:0≤aZ f i:=by
      have:=FY (f:=fun _=>0) (g:=f) (i:=i) fun k hk=>h k (by omega)
      have z:∀ i,aZ (fun _=>0) i=0:=fun i=>by
        induction i with
        | zero=>rfl
        | succ i ih=>simp only[aZ,ih]; rfl
      rw[z] at this
      exact this
    have hi:=h i (by omega)
    simp only[aZ]
    by_cases e:o=i
    · rw[e]; omega
    · have:=Pv (f:=f) (i:=i) (o:=o) (fun k hk=>h k (by omega)) (by omega)
      omega
theorem sumTo_swap {f:Nat→Nat→Int} {n:Nat}:∀ {m:Nat},aZ (fun a=>aZ (fun b=>f a b) n) m=aZ (fun b=>aZ (fun a=>f a b) m) n
  | 0=>by
    simp only[aZ]
    induction n with
    | zero=>rfl
    | succ n ih=>simp only[aZ,← ih]; rfl
  | m+1=>by
    have ih:=sumTo_swap (f:=f) (n:=n) (m:=m)
    simp only[aZ]
    rw[ih]
    clear ih
    induction n with
    | zero=>rfl
    | succ n ihn=>simp only[aZ]; omega
theorem row_within {np nj nk p kd o:Nat} {ps js ks xs:List Int} (good:Good np nj nk ps js ks) (hjs:js.length=nj * 2) (hp:p<np) (ho:o<np) (h:nZ js ks nj np p kd xs) :
    ext (ks.getD (kd * 5) 0) (shP js ks nj np p kd) 0 o≤xs.getD o 0∧xs.getD o 0≤ext (ks.getD (kd * 5) 0) (shP js ks nj np p kd) 1 o:=by
  have np8:=good.np8
  have hin:=good.inner hjs
  unfold nZ at h
  rw[if_neg (by omega),Int.toNat_natCast] at h
  obtain⟨_,h1,h2⟩:=h
  obtain⟨g1,g2⟩:=pq (ks:=ks) (kd:=kd) hin np8 hp o
  have t0:kV (shP js ks nj np p kd) 0=aZ (fun q:Nat=>(bx js ks nj kd p (q:Nat)).1) np:=by
    refine Eq.trans (oy (g:=fun q:Nat=>(bx js ks nj kd p (q:Nat)).1) (fun q _=>(pq (ks:=ks) (kd:=kd) hin np8 hp q).1)) ?_
    exact oz np8 fun q h1 _=>by rw[wY hin hp h1]
  have t1:kV (shP js ks nj np p kd) 1=aZ (fun q:Nat=>(bx js ks nj kd p (q:Nat)).2) np:=by
    refine Eq.trans (oy (g:=fun q:Nat=>(bx js ks nj kd p (q:Nat)).2) (fun q _=>(pq (ks:=ks) (kd:=kd) hin np8 hp q).2)) ?_
    exact oz np8 fun q h1 _=>by rw[wY hin hp h1]
  have hx:=h1 o ho
  have d0:=Pv (f:=fun q:Nat=>(bx js ks nj kd p (q:Nat)).2-xs.getD q 0) (i:=np) (o:=o) (fun q hq=>by have:=h1 q hq; omega) ho
  have d1:=Pv (f:=fun q:Nat=>xs.getD q 0-(bx js ks nj kd p (q:Nat)).1) (i:=np) (o:=o) (fun q hq=>by have:=h1 q hq; omega) ho
  rw[sumTo_sub] at d0 d1
  have e0:ext (ks.getD (kd * 5) 0) (shP js ks nj np p kd) 0 o=max (bx js ks nj kd p (o:Nat)).1 (ks.getD (kd * 5) 0-(aZ (fun q:Nat=>(bx js ks nj kd p (q:Nat)).2) np-(bx js ks nj kd p (o:Nat)).2)):=by
    unfold ext
    rw[← t1,← g1,← g2]
    rfl
  have e1:ext (ks.getD (kd * 5) 0) (shP js ks nj np p kd) 1 o=min (bx js ks nj kd p (o:Nat)).2 (ks.getD (kd * 5) 0-(aZ (fun q:Nat=>(bx js ks nj kd p (q:Nat)).1) np-(bx js ks nj kd p (o:Nat)).1)):=by
    unfold ext
    rw[← t0,← g1,← g2]
    rfl
  rw[e0,e1]
  omega
noncomputable def qx (ks ls:List Int) (p:Nat):Int:=if 0≤ls.getD p 0 then ks.getD ((ls.getD p 0).toNat * 5) 0 else 0
theorem row_sum {np nj p:Nat} {js ks ls xs:List Int} (h:nZ js ks nj np p (ls.getD p 0) xs):aZ (fun o=>xs.getD o 0) np=qx ks ls p:=by
  unfold nZ at h
  unfold qx
  by_cases c:ls.getD p 0<0
  · rw[if_pos c] at h
    have e:xs=[]:=List.length_eq_zero_iff.1 h
    rw[if_neg (by omega),e]
    have z:∀ i,aZ (fun o=>([]:List Int).getD o 0) i=0:=fun i=>by
      induction i with
      | zero=>rfl
      | succ i ih=>simp only[aZ]; rw[ih]; rfl
    exact z np
  · rw[if_neg c] at h
    rw[if_pos (by omega)]
    exact h.2.2
theorem all_due {np nj:Nat} {js ks ls:List Int} {R:Nat→List Int} (h:∀ q,q<np→nZ js ks nj np q (ls.getD q 0) (R q)):aZ (fun o=>uw R np o) np=aZ (qx ks ls) np:=by
  unfold uw
  rw[sumTo_swap]
  exact oy fun p hp=>row_sum (h p hp)
theorem young_within {np nj nk o:Nat} {ps js ks ls:List Int} {R:Nat→List Int} (good:Good np nj nk ps js ks) (hjs:js.length=nj * 2) (hls:ls.length=np) (hok:rV js ks ls nj np nk) (h:∀ q,q<np→nZ js ks nj np q (ls.getD q 0) (R q)) (ho:o<np) :
    bsum js ks (fq ls np) nj np 8 0 o≤uw R np o∧uw R np o≤bsum js ks (fq ls np) nj np 8 1 o:=by
  have np8:=good.np8
  have key:∀ e,bsum js ks (fq ls np) nj np 8 e o=aZ (fun p=>if ls.getD p 0=-1 then 0 else ext (ks.getD ((ls.getD p 0).toNat * 5) 0) (shP js ks nj np p (ls.getD p 0).toNat) e o) np:=fun e=>by
    unfold bsum
    rw[oz (i:=np) np8 fun k h1 h2=>by rw[if_pos (SK hls h1 h2)]]
    exact oy fun p hp=>by rw[KZ hls hp]
  have each:∀ p,p<np→(if ls.getD p 0=-1 then 0 else ext (ks.getD ((ls.getD p 0).toNat * 5) 0) (shP js ks nj np p (ls.getD p 0).toNat) 0 o)≤(R p).getD o 0∧(R p).getD o 0≤(if ls.getD p 0=-1 then 0 else ext (ks.getD ((ls.getD p 0).toNat * 5) 0) (shP js ks nj np p (ls.getD p 0).toNat) 1 o):=fun p hp=>by
    have hr:=h p hp
    rcases hok p hp with e | ⟨t1,t2,t3⟩
    · rw[if_pos e,if_pos e]
      unfold nZ at hr
      rw[if_pos (by omega)] at hr
      have:R p=[]:=List.length_eq_zero_iff.1 hr
      rw[this]
      simp
    · obtain⟨kd,hkd⟩:∃ kd:Nat,ls.getD p 0=kd:=⟨(ls.getD p 0).toNat,by omega⟩
      rw[hkd] at hr
      have:=row_within good hjs hp ho hr
      rw[if_neg (by omega),if_neg (by omega),hkd,Int.toNat_natCast]
      exact this
  rw[key,key]
  exact⟨FY fun p hp=>(each p hp).1,FY fun p hp=>(each p hp).2⟩
end Go.Proofs.Ytekajfobmnedjaa.spec
end
section
namespace Go.Proofs.Ytekajfobmnedjaa.spec
open Go Go.Ev Go.Proofs.Ytekajfobmnedjaa.nestFits Go.Proofs.Ytekajfobmnedjaa.G
set_option maxRecDepth 100000
variable {ρ:Type}
theorem neqB11 (p q:Operand) (a b:Bool):binV P .neq 4 p q (.bool a) (.bool b)=some (.bool (!decide (a=b))):=by
  cases a <;> cases b <;> kernel_rfl
structure Every (c:Cal) (np nj nk:Nat) (ps js ks ls:List Int) (w:Value) (Yg LO HI:Nat→Int) (RP:Hp→Nat→Value→Prop):Prop where
  awake:∀(H:Hp) (n:Nat) (k:Value→Hp→Nat→Res),aY P c 16 [] H n k=k (.bool true) H n
  keep:∀(H H':Hp) (n n':Nat) (u:Value),RP H n u→Keep n H H'→n≤n'→RP H' n' u
  young:∀(H:Hp) (n:Nat) (u:Value) (o:Nat),o<np→RP H n u→∃ H' n',(∀ k:Value→Hp→Nat→Res,aY P c 34 [u,.int .i64 o] H n k=k (.int .i64 (Yg o)) H' n')∧n≤n'∧Keep n H H'
  inside:∀(a lo hi:Int) (H:Hp) (n:Nat) (k:Value→Hp→Nat→Res),aY P c 32 [.int .i64 a,.int .i64 lo,.int .i64 hi] H n k=k (.bool (decide (lo≤a∧a≤hi))) H n
  grove:∀(H:Hp) (n:Nat) (v:Value),GroveI H n v np nj nk ps js ks→∃ u H' n',(∀ k:Value→Hp→Nat→Res,aY P c 18 [v] H n k=k u H' n')∧n≤n'∧Keep n H H'∧gY H' n' u np nj nk ps js ks
  list:∀(H:Hp) (n:Nat),ListR H n w np ls→∃ u H' n',(∀ k:Value→Hp→Nat→Res,aY P c 23 [w] H n k=k u H' n')∧n≤n'∧Keep n H H'∧ListR H' n' u np ls
  rows:∀(H:Hp) (n:Nat) (u:Value),RP H n u→∃(v:Value) (H':Hp) (n':Nat),(∀ k:Value→Hp→Nat→Res,aY P c 39 [u] H n k=k v H' n')∧n≤n'∧Keep n H H'∧RP H' n' v
  proveS:∀(H:Hp) (n:Nat) (v u t:Value),gY H n v np nj nk ps js ks→ListR H n u np ls→RP H n t→∃(r:Bool) (H':Hp) (n':Nat),(r=true↔∀ q,q<np→ps.getD (q * 2) 0≤Yg q∧Yg q≤ps.getD (q * 2+1) 0)∧(∀ k:Value→Hp→Nat→Res,aY P c 38 [v,u,t] H n k=k (.bool r) H' n')∧n≤n'∧Keep n H H'
  proveL:¬ (∀ q,q<np→ps.getD (q * 2) 0≤Yg q∧Yg q≤ps.getD (q * 2+1) 0)→∀(H:Hp) (n:Nat) (v u:Value),gY H n v np nj nk ps js ks→ListR H n u np ls→∃(H':Hp) (n':Nat),(∀ k:Value→Hp→Nat→Res,aY P c 43 [v,u,.int .i64 np] H n k=k (.bool false) H' n')∧n≤n'∧Keep n H H'
  within:∀ o,o<np→LO o≤Yg o∧Yg o≤HI o
  mild:∀ o,o<np→-1000000≤LO o∧HI o≤1000000
  due:aZ Yg np=aZ (qx ks ls) np
  dueMild:∀ o,o<np→0≤qx ks ls o∧qx ks ls o≤1000
  np8:np≤8
  kinds:∀ o,o<np→ls.getD o 0=-1∨∃ kd:Nat,kd<nk∧ls.getD o 0=kd
theorem every_loop (c:Cal) (k:Nat) {np nj nk g0 bb cp:Nat} {ps js ks ls B:List Int} {w t:Value} {x y z:Value} {Yg LO HI:Nat→Int} {RP:Hp→Nat→Value→Prop} (E:Every c np nj nk ps js ks ls w Yg LO HI RP) (hBl:np * 2≤B.length) (hB:∀ q,q<np→B.getD (q * 2) 0=LO q∧B.getD (q * 2+1) 0=HI q) :
    ∀(m o:Nat) (gd:Bool) (H:Hp) (n:Nat),g0<n→bb<n→aX H g0 0 [x,y,z]→GroveI H n (.agg ⟨[x,y,z]⟩) np nj nk ps js ks→ListR H n w np ls→RP H n t→aX H bb 0 (ints B) →
      (gd=true↔∀ q,q<o→ps.getD (q * 2) 0≤Yg q∧Yg q≤ps.getD (q * 2+1) 0)→o≤np→np-o≤m →
    ∃ H' n',S11_1 c k m w (.pointer (some ⟨g0,0,none⟩)) t (.slice (some ⟨bb,0,none⟩) np cp) (.int .i64 (aZ Yg o)) (.int .i64 (aZ (qx ks ls) o)) (.int .i64 (aZ LO o)) (.int .i64 (aZ HI o)) (.bool gd) (.int .i64 o) H n=some (.bool true,H',n'):=by
  have np8:=E.np8
  have bY:∀ q,q<np→-1000000≤Yg q∧Yg q≤1000000:=fun q hq=>by
    have:=E.within q hq
    have:=E.mild q hq
    omega
  have bs:∀(f:Nat→Int),(∀ q,q<np→-1000000≤f q∧f q≤1000000)→∀ i,i≤np→-8000000≤aZ f i∧aZ f i≤8000000:=fun f hf i hi=>by
    have:-1000000 * (i:Int)≤aZ f i∧aZ f i≤1000000 * i:=by
      induction i with
      | zero=>simp [aZ]
      | succ i ih=>
        have:=ih (by omega)
        have:=hf i (by omega)
        simp only[aZ]
        omega
    omega
  have body:∀(b1:Value→Value→Value→Value→Value→Value→Value→Value→Value→Value→Hp→Nat→Res) (m o:Nat) (gd:Bool) (H:Hp) (n:Nat),g0<n→bb<n→aX H g0 0 [x,y,z]→GroveI H n (.agg ⟨[x,y,z]⟩) np nj nk ps js ks→ListR H n w np ls→RP H n t→aX H bb 0 (ints B) →
      (gd=true↔∀ q,q<o→ps.getD (q * 2) 0≤Yg q∧Yg q≤ps.getD (q * 2+1) 0)→o≤np →
      (∀(gd:Bool) (H':Hp) (n':Nat),n≤n'→Keep n H H'→(gd=true↔∀ q,q<o+1→ps.getD (q * 2) 0≤Yg q∧Yg q≤ps.getD (q * 2+1) 0)→o<np →
        ∃ H2 n2,b1 w (.pointer (some ⟨g0,0,none⟩)) t (.slice (some ⟨bb,0,none⟩) np cp) (.int .i64 (aZ Yg (o+1))) (.int .i64 (aZ (qx ks ls) (o+1))) (.int .i64 (aZ LO (o+1))) (.int .i64 (aZ HI (o+1))) (.bool gd) (.int .i64 ((o+1:Nat):Int)) H' n'=some (.bool true,H2,n2)) →
      ∃ H' n',C11_1 c k m b1 w (.pointer (some ⟨g0,0,none⟩)) t (.slice (some ⟨bb,0,none⟩) np cp) (.int .i64 (aZ Yg o)) (.int .i64 (aZ (qx ks ls) o)) (.int .i64 (aZ LO o)) (.int .i64 (aZ HI o)) (.bool gd) (.int .i64 o) H n=some (.bool true,H',n'):=by
    intro b1 m o gd H n hgn hbn hb hg hw ht hcb hgd ho ih
    obtain⟨_,_,_,hxyz,h1,h2,h3⟩:=hg.eq
    cases hxyz
    have ld:∀ H2,aX H2 g0 0 [x,y,z]→az P H2 26 ⟨g0,0,none⟩=some (.agg ⟨[x,y,z]⟩):=fun H2 h=>Cy h h1.hole.1 h2.hole.1 h3.hole.1
    unfold C11_1
    generalize hJ:C11_2 c k m b1=J
    unfold B11_1
    rw[hw.len_eq,aj,ak cY,jw]
    by_cases hlt:o<np
    · obtain⟨H1,n1,a1,a2,a3⟩:=E.young H n t o hlt ht
      have hcb1:=hcb.keep a3 hbn
      have hb1:=hb.keep a3 hgn
      have hw1:=hw.keep a3 a2
      have lLO:az P H1 3 ⟨bb,0+o * 2+0,none⟩=some (.int .i64 (LO o)):=by
        have:=bv (o:=0) (k:=o * 2) (P:=P) hcb1 agg3 (kz (getD_some (by omega)))
        rw[(hB o hlt).1] at this
        exact this
      have lHI:az P H1 3 ⟨bb,0+o * 2+1,none⟩=some (.int .i64 (HI o)):=by
        have:=bv (o:=0) (k:=o * 2+1) (P:=P) hcb1 agg3 (kz (getD_some (by omega)))
        rw[(hB o hlt).2] at this
        rw[show 0+o * 2+1=0+(o * 2+1) by omega]
        exact this
      have wi:=E.within o hlt
      have mi:=E.mild o hlt
      have dm:=E.dueMild o hlt
      have d1:decide (Yg o<LO o)=false:=decide_eq_false (by omega)
      have d2:decide (HI o<Yg o)=false:=decide_eq_false (by omega)
      obtain⟨rb,ro,hix,_,hld⟩:=hw1.at_ hlt
      have hI:I64 ((o:Int)+1):=by unfold I64; omega
      have hcast:((o:Int)+1)=((o+1:Nat):Int):=by omega
      have b1':=bs Yg bY o (by omega)
      have b2':=bs (qx ks ls) (fun q hq=>by have:=E.dueMild q hq; omega) o (by omega)
      have b3':=bs LO (fun q hq=>by have:=E.mild q hq; have:=E.within q hq; omega) o (by omega)
      have b4':=bs HI (fun q hq=>by have:=E.mild q hq; have:=E.within q hq; omega) o (by omega)
      have tail:∃ H' n',J w (.pointer (some ⟨g0,0,none⟩)) t (.slice (some ⟨bb,0,none⟩) np cp) (.int .i64 (aZ Yg o)) (.int .i64 (aZ (qx ks ls) (o+1))) (.int .i64 (aZ LO o)) (.int .i64 (aZ HI o)) (.bool gd) (.int .i64 o) (.int .i64 (Yg o)) H1 n1=some (.bool true,H',n'):=by
        obtain⟨_,_,_,e,g1,_,_⟩:=(hg.keep a3 a2).eq
        cases e
        obtain⟨xb,xo,x1,x2⟩:=pad_at g1 hlt
        have x3:=x2 0 (by omega)
        have x4:=x2 1 (by omega)
        have lx:az P H1 22 ⟨g0,0+0,none⟩=some x:=bw hb1 Vj rfl h1.hole.1 h1.hole.2
        have i1:I64 (aZ Yg o+Yg o):=by have:=bY o hlt; unfold I64; omega
        have i2:I64 (aZ LO o+LO o):=by unfold I64; omega
        have i3:I64 (aZ HI o+HI o):=by unfold I64; omega
        rw[← hJ]
        unfold C11_2 B11_2
        rw[ak (bV i1),at45 bb np cp hlt,aj,OZ,aj,aJ,aj,lLO,aj,ak (bV i2),aj,OK,aj,aJ,aj,lHI,aj,ak (bV i3)]
        have more:∀ gd2:Bool,(gd2=true↔∀ q,q<o+1→ps.getD (q * 2) 0≤Yg q∧Yg q≤ps.getD (q * 2+1) 0)→∃ H2 n2,b1 w (.pointer (some ⟨g0,0,none⟩)) t (.slice (some ⟨bb,0,none⟩) np cp) (.int .i64 (aZ Yg o+Yg o)) (.int .i64 (aZ (qx ks ls) (o+1))) (.int .i64 (aZ LO o+LO o)) (.int .i64 (aZ HI o+HI o)) (.bool gd2) (.int .i64 ((o+1:Nat):Int)) H1 n1=some (.bool true,H2,n2):=fun gd2 h=>ih gd2 H1 n1 a2 a3 h hlt
        cases gd with
        | false=>
          simp only[My,dk,aj,ak (bV hI),hcast]
          exact more false ⟨fun h=>(by cases h),fun h=>absurd (hgd.2 fun q hq=>h q (by omega)) (by simp)⟩
        | true=>
          simp only[Mx,HW,aj,aJ,lx,x1,fa95_0,fa95_1,x3,x4,E.inside,dQ,ak (bV hI),hcast]
          refine more _ ?_
          rw[decide_eq_true_iff]
          exact⟨fun h q hq=>by
            by_cases e:q=o
            · subst e; exact h
            · exact hgd.1 rfl q (by omega),fun h=>h o (by omega)⟩
      rw[if_pos (by omega),a1,at45 bb np cp hlt,aj,OZ,aj,aJ,aj,lLO,aj,ak cY,d1]
      simp only[kQ,at45 bb np cp hlt,aj,OK,aJ,lHI,ak xy,d2,dk,ej,hix,hld,ak HV]
      rcases E.kinds o hlt with e | ⟨kd,hkd,e⟩
      · have d3:decide ((0:Int)≤ls.getD o 0)=false:=decide_eq_false (by omega)
        have e2:aZ (qx ks ls) (o+1)=aZ (qx ks ls) o:=by
          simp only[aZ]
          unfold qx
          rw[if_neg (by omega)]
          omega
        rw[d3,ej]
        rw[e2] at tail
        exact tail
      · have d3:decide ((0:Int)≤ls.getD o 0)=true:=decide_eq_true (by omega)
        obtain⟨_,_,_,e',_,_,g3⟩:=(hg.keep a3 a2).eq
        cases e'
        obtain⟨zb,zo,z1,z2⟩:=Wx g3 hkd
        have z3:=z2 0 (by omega)
        have lz:az P H1 24 ⟨g0,0+2,none⟩=some z:=bw hb1 FW rfl h3.hole.1 h3.hole.2
        have e2:aZ (qx ks ls) (o+1)=aZ (qx ks ls) o+ks.getD (kd * 5+0) 0:=by
          simp only[aZ]
          congr 1
          unfold qx
          rw[if_pos (by omega),e,Int.toNat_natCast]
          rfl
        have e3:qx ks ls o=ks.getD (kd * 5+0) 0:=by
          unfold qx
          rw[if_pos (by omega),e,Int.toNat_natCast]
          rfl
        have i4:I64 (aZ (qx ks ls) o+ks.getD (kd * 5+0) 0):=by rw[← e3]; unfold I64; omega
        rw[d3,fw,yJ,aj,aJ,aj,lz,aj,e,z1,aj,SJ,aj,aJ,aj,z3,aj,ak (bV i4),← e2]
        exact tail
    · have:o=np:=by omega
      subst this
      have s1:=FY (f:=LO) (g:=Yg) (i:=o) fun q hq=>(E.within q hq).1
      have s2:=FY (f:=Yg) (g:=HI) (i:=o) fun q hq=>(E.within q hq).2
      have hd:=E.due
      have d1:decide (aZ Yg o=aZ (qx ks ls) o)=true:=decide_eq_true hd
      have d2:decide (aZ (qx ks ls) o<aZ LO o)=false:=decide_eq_false (by omega)
      have d3:decide (aZ HI o<aZ (qx ks ls) o)=false:=decide_eq_false (by omega)
      obtain⟨gv,H1,n1,a1,a2,a3,a4⟩:=E.grove H n _ hg
      obtain⟨lv,H2,n2,c1,c2,c3,c4⟩:=E.list H1 n1 (hw.keep a3 a2)
      have k2:Keep n H H2:=a3.trans c3 a2
      obtain⟨tv,H3,n3,e1,e2,e3,e4⟩:=E.rows H2 n2 t (E.keep _ _ _ _ _ ht k2 (by omega))
      have k3:Keep n H H3:=k2.trans e3 (by omega)
      obtain⟨r,H4,n4,r0,r1,r2,r3⟩:=E.proveS H3 n3 gv lv tv ((a4.keep c3 c2).keep e3 e2) (c4.keep e3 e2) e4
      have k4:Keep n H H4:=k3.trans r3 (by omega)
      have hr:r=gd:=by
        have:r=true↔gd=true:=r0.trans hgd.symm
        cases r <;> cases gd <;> simp_all
      subst hr
      have dr:decide (r=r)=true:=decide_eq_true rfl
      rw[if_neg (by omega),ak iJ,d1,Bool.not_true]
      simp only[kQ,ak xy,d2,aj,dk,ak cY,d3,aJ,ld H hb,a1,c1,e1,r1]
      rw[ak (neqB11 _ _ _ _),dr,Bool.not_true]
      rw[ej]
      cases r with
      | true=>
        simp only[nz,dQ,aj,dX,E.awake]
        exact⟨_,_,rfl⟩
      | false=>
        have hno:¬ ∀ q,q<o→ps.getD (q * 2) 0≤Yg q∧Yg q≤ps.getD (q * 2+1) 0:=fun h=>by have:=hgd.2 h; cases this
        obtain⟨gw,H5,n5,f1,f2,f3,f4⟩:=E.grove H4 n4 _ (hg.keep k4 (by omega))
        have k5:Keep n H H5:=k4.trans f3 (by omega)
        obtain⟨lw,H6,n6,g1,g2,g3,g4⟩:=E.list H5 n5 (hw.keep k5 (by omega))
        obtain⟨H7,n7,q1,q2,q3⟩:=E.proveL hno H6 n6 gw lw (f4.keep g3 g2) g4
        simp only[kQ,aj,ld H4 (hb.keep k4 hgn),f1,g1,hw.len_eq,q1,uW,dk,dX,E.awake,dQ]
        exact⟨_,_,rfl⟩
  intro m
  induction m with
  | zero=>intro o gd H n h1 h2 h3 h4 h5 h6 h7 h8 h9 h10; exact body _ 0 o gd H n h1 h2 h3 h4 h5 h6 h7 h8 h9 (fun _ _ _ _ _ _ h=>by omega)
  | succ m ih=>intro o gd H n h1 h2 h3 h4 h5 h6 h7 h8 h9 h10; exact body _ (m+1) o gd H n h1 h2 h3 h4 h5 h6 h7 h8 h9 (fun gd H' n' q1 q2 q3 _=>ih (o+1) gd H' n' (by omega) (by omega) (h3.keep q2 h1) (h4.keep q2 q1) (h5.keep q2 q1) (E.keep _ _ _ _ _ h6 q2 q1) (h7.keep q2 h2) q3 (by omega) (by omega))
end Go.Proofs.Ytekajfobmnedjaa.spec
end
section
namespace Go.Proofs.Ytekajfobmnedjaa.spec
open Go Go.Ev Go.Proofs.Ytekajfobmnedjaa.nestFits Go.Proofs.Ytekajfobmnedjaa.G
set_option maxRecDepth 100000
variable {ρ:Type}
theorem every_core (c:Cal) (S:Value→Value→Value→Value→Value→Value→Value→Value→Value→Value→Hp→Nat→Res) {np nj nk nl lw:Nat} {ps js ks ls:List Int} {w u:Value} {Rd:Prop} {RP:Hp→Nat→Value→Prop} {BP:Hp→Nat→Nat→Prop}
    (Hawake:∀(H:Hp) (n:Nat) (k:Value→Hp→Nat→Res),aY P c 16 [] H n k=k (.bool true) H n)
    (Hready:∀(H:Hp) (n:Nat) (v:Value),GroveI H n v np nj nk ps js ks→ListR H n w nl ls→∃(r:Bool) (H':Hp) (n':Nat),(r=true↔Rd)∧(∀ k:Value→Hp→Nat→Res,aY P c 55 [v,w] H n k=k (.bool r) H' n')∧n≤n'∧Keep n H H')
    (Hnl:Rd→nl=np)
    (Hkeep:∀(H H':Hp) (n n':Nat) (t:Value),RP H n t→Keep n H H'→n≤n'→RP H' n' t)
    (Hspread:Rd→∀(H:Hp) (n:Nat) (v:Value),GroveI H n v np nj nk ps js ks→ListR H n w np ls→WordsR H n u lw→∃(t:Value) (H':Hp) (n':Nat),(∀ k:Value→Hp→Nat→Res,aY P c 56 [v,w,u] H n k=k t H' n')∧n≤n'∧Keep n H H'∧RP H' n' t)
    (Hgrove:Rd→∀(H:Hp) (n:Nat) (v:Value),GroveI H n v np nj nk ps js ks→∃ u H' n',(∀ k:Value→Hp→Nat→Res,aY P c 18 [v] H n k=k u H' n')∧n≤n'∧Keep n H H'∧gY H' n' u np nj nk ps js ks)
    (Hlist:Rd→∀(H:Hp) (n:Nat),ListR H n w np ls→∃ u H' n',(∀ k:Value→Hp→Nat→Res,aY P c 23 [w] H n k=k u H' n')∧n≤n'∧Keep n H H'∧ListR H' n' u np ls)
    (Hbounds:Rd→∀(H:Hp) (n:Nat) (v t:Value),gY H n v np nj nk ps js ks→ListR H n t np ls→∃(b cp:Nat) (H':Hp) (n':Nat),(∀ k:Value→Hp→Nat→Res,aY P c 22 [v,t] H n k=k (.tuple ⟨[.slice (some ⟨b,0,none⟩) np cp,.int .i64 0]⟩) H' n')∧n≤n'∧Keep n H H'∧b<n'∧BP H' n' b)
    (Hbkeep:∀(H H':Hp) (n n' b:Nat),BP H n b→b<n→Keep n H H'→n≤n'→BP H' n' b)
    (HisS:Rd→∀(H:Hp) (n:Nat) (v t:Value),GroveI H n v np nj nk ps js ks→ListR H n w np ls→RP H n t→∃(H':Hp) (n':Nat),(∀ k:Value→Hp→Nat→Res,aY P c 33 [v,w,t] H n k=k (.bool true) H' n')∧n≤n'∧Keep n H H')
    (Hloop:Rd→∀(H:Hp) (n g0 bb cp:Nat) (x y z t:Value),g0<n→bb<n→aX H g0 0 [x,y,z]→GroveI H n (.agg ⟨[x,y,z]⟩) np nj nk ps js ks→ListR H n w np ls→RP H n t→BP H n bb →
      ∃ H' n',S w (.pointer (some ⟨g0,0,none⟩)) t (.slice (some ⟨bb,0,none⟩) np cp) (.int .i64 0) (.int .i64 0) (.int .i64 0) (.int .i64 0) (.bool true) (.int .i64 0) H n=some (.bool true,H',n'))
    {H:Hp} {n:Nat} {v:Value} (hg:GroveI H n v np nj nk ps js ks) (hw:ListR H n w nl ls) (hu:WordsR H n u lw):∃ H' n',B11_0 c KK S v w u H n=some (.bool true,H',n'):=by
  have hg0:=hg
  obtain⟨x,y,z,rfl,h1,h2,h3⟩:=hg.eq
  unfold B11_0
  rw[dq]
  simp only[bj,ptr]
  have hk:Keep n H (H.set n (some (.cells [x,y,z] 26 false none))):=(Keep.refl n H).set (Nat.le_refl _) _
  have hb:aX (H.set n (some (.cells [x,y,z] 26 false none))) n 0 [x,y,z]:=aX.new
  generalize H.set n (some (.cells [x,y,z] 26 false none))=H1 at hk hb ⊢
  have ld:∀ H2,aX H2 n 0 [x,y,z]→az P H2 26 ⟨n,0,none⟩=some (.agg ⟨[x,y,z]⟩):=fun H2 h=>Cy h h1.hole.1 h2.hole.1 h3.hole.1
  have hg1:GroveI H1 (n+1) (.agg ⟨[x,y,z]⟩) np nj nk ps js ks:=hg0.keep hk (by omega)
  have hw1:ListR H1 (n+1) w nl ls:=hw.keep hk (by omega)
  have hu1:WordsR H1 (n+1) u lw:=hu.keep hk (by omega)
  obtain⟨t,H2,n2,t1,t2,t3,t4⟩:=Hready H1 (n+1) _ hg1 hw1
  rw[aJ,aj,ld H1 hb,aj,t2]
  cases t with
  | false=>
    rw[uW,aj,fw,Hawake]
    exact⟨_,_,rfl⟩
  | true=>
    have rd:=t1.1 rfl
    have e:=Hnl rd
    subst e
    have hb2:=hb.keep t4 (by omega)
    have hg2:=hg1.keep t4 t3
    have hw2:=hw1.keep t4 t3
    obtain⟨sv,H3,n3,a1,a2,a3,a4⟩:=Hspread rd H2 n2 _ hg2 hw2 (hu1.keep t4 t3)
    have hb3:=hb2.keep a3 (by omega)
    obtain⟨gv,H4,n4,b1,b2,b3,b4⟩:=Hgrove rd H3 n3 _ (hg2.keep a3 a2)
    have k4:Keep n2 H2 H4:=a3.trans b3 a2
    obtain⟨lv,H5,n5,c1,c2,c3,c4⟩:=Hlist rd H4 n4 (hw2.keep k4 (by omega))
    have k5:Keep n2 H2 H5:=k4.trans c3 (by omega)
    obtain⟨bb,cp,H6,n6,d1,d2,d3,d4,d5⟩:=Hbounds rd H5 n5 gv lv (b4.keep c3 c2) c4
    have k6:Keep n2 H2 H6:=k5.trans d3 (by omega)
    have s6:RP H6 n6 sv:=Hkeep _ _ _ _ _ (Hkeep _ _ _ _ _ (Hkeep _ _ _ _ _ a4 b3 b2) c3 c2) d3 d2
    have hb6:=hb2.keep k6 (show n<n2 by omega)
    have hw6:=hw2.keep k6 (show n2≤n6 by omega)
    have hg6:=hg2.keep k6 (show n2≤n6 by omega)
    obtain⟨H7,n7,e1,e2,e3⟩:=HisS rd H6 n6 _ sv hg6 hw6 s6
    have u0:tupV (.tuple ⟨[.slice (some ⟨bb,0,none⟩) nl cp,.int .i64 0]⟩) 0=some (.slice (some ⟨bb,0,none⟩) nl cp):=rfl
    have u1:tupV (.tuple ⟨[.slice (some ⟨bb,0,none⟩) nl cp,.int .i64 0]⟩) 1=some (.int .i64 0):=rfl
    have d0:decide ((0:Int)=0)=true:=rfl
    have lb:lenV P 45 (.slice (some ⟨bb,0,none⟩) nl cp)=some (.int .i64 nl):=by unfold lenV; simp only[und45]; rfl
    rw[qY,aj,ej,aj,ld H2 hb2,aj,a1,aj,ld H3 hb3,aj,b1,c1,d1,u0,aj,u1,aj,ak iJ,d0,Bool.not_true]
    simp only[kQ,lb,aj,hw6.len_eq,ak iJ,decide_true,Bool.not_true,dk,ld H6 hb6,e1,qY,ej]
    exact Hloop rd H7 n7 n bb cp x y z sv (by omega) (by omega) (hb6.keep e3 (by omega)) (hg6.keep e3 e2) (hw6.keep e3 e2) (Hkeep _ _ _ _ _ s6 e3 e2) (Hbkeep _ _ _ _ _ d5 d4 e3 e2)
end Go.Proofs.Ytekajfobmnedjaa.spec
end
section
namespace Go.Proofs.Ytekajfobmnedjaa.spec
open Go.Ev Go.Proofs.Ytekajfobmnedjaa.nestFits Go.Proofs.Ytekajfobmnedjaa.G
set_option maxRecDepth 1000000
noncomputable def isB (c:Bool) (r:Res):Bool:=match r with
  | some (.bool b,_,_)=>b == c
  | _=>false
theorem isB_eq {c:Bool} {r:Res} (h:isB c r=true):∃ H n,r=some (.bool c,H,n):=by
  unfold isB at h
  split at h
  · rename_i b H n
    have h:=eq_of_beq h
    subst h
    exact⟨H,n,rfl⟩
  · cases h
theorem run_awake:isB true ((cal 60).call 16 [] .nil 0)=true:=by kernel_rfl
theorem flat16:fX P 16=true:=by kernel_rfl
theorem awake_call {ρ:Type} (H:Hp) (n:Nat) (k:Value→Hp→Nat→Option ρ):aY P (cal 60) 16 [] H n k=k (.bool true) H n:=by
  obtain⟨H',n',e⟩:=isB_eq run_awake
  exact fY flat16 rfl e rfl
end Go.Proofs.Ytekajfobmnedjaa.spec
end
section
namespace Go.Proofs.Ytekajfobmnedjaa.spec
open Go Go.Ev Go.Proofs.Ytekajfobmnedjaa.nestFits Go.Proofs.Ytekajfobmnedjaa.G
set_option maxRecDepth 100000
theorem qz {np nj nk nl:Nat} {ps js ks ls:List Int} (h:eJ np nj nk nl ps js ks ls=0):Good np nj nk ps js ks∧nl=np∧rV js ks ls nj np nk:=by
  unfold eJ at h
  by_cases c1:gW np nj nk ps js ks≠0
  · rw[if_pos c1] at h; exact absurd h c1
  · rw[if_neg c1] at h
    by_cases c2:nl=np∧rV js ks ls nj np nk
    · exact⟨Iw (Decidable.not_not.1 c1),c2.1,c2.2⟩
    · rw[if_neg c2] at h; omega
theorem take_get11 {M:List Int} {k q:Nat} (hq:q<k):(M.take k).getD q 0=M.getD q 0:=by
  rw[List.getD_eq_getElem?_getD,List.getElem?_take,if_pos hq,← List.getD_eq_getElem?_getD]
def SpreadOf (np:Nat) (R:Nat→List Int) (H:Hp) (n:Nat) (t:Value):Prop:=∃ rw_,dY H n t np rw_ R
theorem row_pad {np nj nk p:Nat} {ps js ks ls:List Int} {R:Nat→List Int} (good:Good np nj nk ps js ks) (hjs:js.length=nj * 2) (hls:ls.length=np) (hok:rV js ks ls nj np nk) (hp:p<np) (h:nZ js ks nj np p (ls.getD p 0) (R p)):yw js ks (fq ls np) nj np R p:=by
  unfold yw
  rw[KZ hls hp]
  unfold nZ at h
  rcases hok p hp with e | ⟨t1,_,_⟩
  · rw[if_pos e]
    rw[if_pos (by omega)] at h
    exact h
  · rw[if_neg (by omega)]
    rw[if_neg (by omega)] at h
    obtain⟨h1,h2,h3⟩:=h
    refine⟨h1,fun o ho=>?_,h3⟩
    obtain⟨g1,g2⟩:=pq (ks:=ks) (kd:=(ls.getD p 0).toNat) (good.inner hjs) good.np8 hp o
    rw[g1,g2]
    exact h2 o ho
theorem every_law {np nj nk nl lw:Nat} {ps js ks ls:List Int} {H:Hp} {n:Nat} {v w u:Value} (hg:GroveI H n v np nj nk ps js ks) (hw:ListR H n w nl ls) (hu:WordsR H n u lw):∃ H' n',C11_0 (cal 60) KK v w u H n=some (.bool true,H',n'):=by
  have hjs:js.length=nj * 2:=by obtain⟨_,_,_,_,_,h2,_⟩:=hg.eq; exact h2.1
  unfold C11_0
  refine every_core (cal 60) (S11_1 (cal 60) KK KK) (Rd:=thin np nj nk nl∧eJ np nj nk nl ps js ks ls=0)
    (RP:=fun H n t=>∃ R,SpreadOf np R H n t∧(∀ q,q<np→nZ js ks nj np q (ls.getD q 0) (R q))∧∀ p,p<np→∀ q:Nat,0≤(R p).getD q 0∧(R p).getD q 0≤1000)
    (BP:=fun H _ b=>∃ X,Vv X js ks (fq ls np) nj np 8∧aX H b 0 (ints (X.take (np * 2))))
    (fun H n k=>awake_call H n k) (fun H n v h1 h2=>ready_call 53 h1 h2) (fun h=>(qz h.2).2.1)
    (fun H H' n n' t ⟨R,⟨rw_,h1⟩,h2,h3⟩ hk hn=>⟨R,⟨rw_,h1.keep hk hn⟩,h2,h3⟩)
    (fun rd H n v h1 h2 h3=>by
      obtain⟨good,hnl,hok⟩:=qz rd.2
      obtain⟨t,rw_,R,H',n',q1,q2,q3,q4,q5,q6⟩:=Spread_call (ρ:=Value × Hp × Nat) 57 good hjs hok h1 h2 h3
      exact⟨t,H',n',q1,q2,q3,R,⟨rw_,q4⟩,q5,q6⟩)
    (fun rd H n v h=>by
      obtain⟨l1,l2,l3,_⟩:=rd.1
      exact grove_call 58 h (by omega) (by omega) (by omega))
    (fun rd H n h=>by
      obtain⟨good,_,_⟩:=qz rd.2
      have:=good.np8
      exact list_call 59 h (by omega))
    (fun rd H n v t h1 h2=>by
      obtain⟨l1,l2,l3,_⟩:=rd.1
      obtain⟨good,hnl,hok⟩:=qz rd.2
      subst hnl
      obtain⟨b,cp,X,H',n',e,e1,e2,e3,e4,e5⟩:=(Bounds_spec 52 h1 h2 (by omega) (by omega) (by omega)).2 rd.2
      exact⟨b,cp,H',n',fun k=>by rw[Bounds_call 52,e]; rfl,e1,e2,e3,X,e4,e5⟩)
    (fun H H' n n' b ⟨X,h1,h2⟩ hb hk _=>⟨X,h1,h2.keep hk hb⟩)
    (fun rd H n v t h1 h2 ⟨R,⟨rw_,h3⟩,h4,_⟩=>by
      obtain⟨good,hnl,hok⟩:=qz rd.2
      obtain⟨r,H',n',r0,r1,r2,r3⟩:=isSpread_call (ρ:=Value × Hp × Nat) 57 good hok h1 h2 h3
      have:r=true:=r0.2 ⟨rfl,h4⟩
      subst this
      exact⟨H',n',r1,r2,r3⟩)
    (fun rd H n g0 bb cp x y z t q1 q2 q3 q4 q5 ⟨R,⟨rw_,q6⟩,q7,q8⟩ ⟨X,q9,q10⟩=>by
      obtain⟨good,hnl,hok⟩:=qz rd.2
      obtain⟨l1,l2,l3,_⟩:=rd.1
      have np8:=good.np8
      have hls:ls.length=np:=by rw[hw.1,hnl]
      have hK:tw (fq ls np) np nk:=Ix hls hok
      have l8:(fq ls np).length=8:=BY hls np8
      have len:∀ p,p<np→(R p).length≤np:=fun p hp=>by
        have:=q7 p hp
        unfold nZ at this
        by_cases c:ls.getD p 0<0
        · rw[if_pos c] at this; omega
        · rw[if_neg c] at this; omega
      have E:Every (cal 60) np nj nk ps js ks ls w (fun o=>uw R np o) (fun o=>bsum js ks (fq ls np) nj np 8 0 o) (fun o=>bsum js ks (fq ls np) nj np 8 1 o) (SpreadOf np R):={
        awake:=fun H n k=>awake_call H n k
        keep:=fun H H' n n' t ⟨rw_,h⟩ hk hn=>⟨rw_,h.keep hk hn⟩
        young:=fun H n t o ho ⟨rw_,h⟩=>young_call 59 h (by omega) fun p hp=>by
          have h1:=q7 p hp
          have h2:=q8 p hp o
          unfold nZ at h1
          by_cases c:ls.getD p 0<0
          · rw[if_pos c] at h1; exact .inl h1
          · rw[if_neg c] at h1; exact .inr ⟨by omega,by omega,by omega⟩
        inside:=fun a lo hi H n k=>Bx 59 a lo hi H n k
        grove:=fun H n v h=>grove_call 58 h (by omega) (by omega) (by omega)
        list:=fun H n h=>list_call 59 h (by omega)
        rows:=fun H n t ⟨rw_,h⟩=>by
          obtain⟨v,nv,H',n',a1,a2,a3,a4⟩:=rows_call (ρ:=Value × Hp × Nat) 58 h (by omega) (fun p hp=>by have:=len p hp; omega)
          exact⟨v,H',n',a1,a2,a3,nv,a4⟩
        proveS:=fun H n v u t h1 h2 ⟨rw_,h3⟩=>by
          have hne:bz t=false:=by
            rcases h3.1 with⟨_,e⟩ | ⟨b,o,cap,e,_⟩
            · exact absurd e good.np1
            · rw[e]; rfl
          obtain⟨r,H',n',r0,r1,r2,r3⟩:=ProveSpread_call (ρ:=Value × Hp × Nat) 52 (nl:=nl) h1 (by rw[hnl]; exact h2) h3 (by omega) (by omega) (by omega) hne
          exact⟨r,H',n',r0.trans ⟨fun h=>h.2.2.2,fun h=>⟨rd.2,rfl,fun p hp=>row_pad good hjs hls hok hp (q7 p hp),h⟩⟩,r1,r2,r3⟩
        proveL:=fun hno H n v u h1 h2=>by
          obtain⟨r,H',n',r0,r1,r2,r3⟩:=ProveLayout_call (ρ:=Value × Hp × Nat) 52 (nl:=nl) h1 (by rw[hnl]; exact h2) (by omega) (by omega) (by omega) (np:Int)
          cases r with
          | false=>exact⟨H',n',r1,r2,r3⟩
          | true=>
            obtain⟨_,hR,_⟩:=r0.1 rfl
            refine absurd (fun q hq=>?_) hno
            have h1:=hR q hq
            have h2:=young_within good hjs hls hok q7 hq
            omega
        within:=fun o ho=>young_within good hjs hls hok q7 ho
        mild:=fun o ho=>⟨(MQ good.kinds np8 hK (Nat.le_refl _) (by omega)).1,(MQ good.kinds np8 hK (Nat.le_refl _) (by omega)).2⟩
        due:=all_due q7
        dueMild:=fun o ho=>by
          unfold qx
          rcases hok o ho with e | ⟨t1,t2,_⟩
          · rw[if_neg (by omega)]; omega
          · rw[if_pos t1]
            obtain⟨y1,_,_⟩:=good.kinds (ls.getD o 0).toNat (by omega)
            exact y1
        np8:=np8
        kinds:=fun o ho=>by
          rcases hok o ho with e | ⟨t1,t2,_⟩
          · exact .inl e
          · exact .inr ⟨(ls.getD o 0).toNat,by omega,by omega⟩ }
      have hX:=q9.1
      have hBl:np * 2≤(X.take (np * 2)).length:=by rw[List.length_take,hX]; omega
      exact every_loop (cal 60) KK E hBl (fun q hq=>by
        obtain⟨a,b⟩:=q9.2 q (by omega)
        rw[take_get11 (by omega),take_get11 (by omega),a,b]
        exact⟨rfl,rfl⟩) KK 0 true H n q1 q2 q3 q4 q5 ⟨rw_,q6⟩ q10 ⟨fun _ q hq=>absurd hq (by omega),fun _=>rfl⟩ (Nat.zero_le _) (by unfold KK; omega)) hg hw hu
end Go.Proofs.Ytekajfobmnedjaa.spec
end
section
namespace Go.Proofs.Ytekajfobmnedjaa.nestBounds
open Go.ChangeShapes Go.WideShapes Go.ChangeAt Go.RowKit Go.Ev Go.Proofs.Ytekajfobmnedjaa.nestFits
theorem flat3:NQ Try.prog 5 3=some 1:=by kernel_rfl
theorem bytes3:1≤Try.prog.bytesOf 3:=by decide +kernel
def Says (f:Nat):Prop:=∀(H:Hp) (n:Nat) (v w:Value) np nj nk ps js ks nl ls,GroveI H n v np nj nk ps js ks→spec.ListR H n w nl ls →
  ∃ l H' n',(calE G.P G.A (G.KK+1) G.tab.get l).call f [v,w] H n=some (.bool true,H',n')
set_option maxRecDepth 100000
theorem there {W:World} {base:Nat} {b o len cap:Nat} {H:Hp} (hH:∀ i,H.get i=yk W i) (hok:Cell.okWide Try.prog W .any base 44 (.slice (some ⟨b,o,none⟩) len cap)):∃ c,H.get b=some (.rows c):=by
  simp only[Cell.okWide,Try.underlying44,Cell.ok] at hok
  obtain⟨_,_,_,hsp,row,cells,hshape,_⟩:=hok
  rw[hH]
  unfold yk
  unfold World.shape? at hshape
  dsimp only at hshape
  cases hb:W.heap[b]? with
  | none=>rw[hb] at hshape; simp at hshape
  | some B=>
    rw[hb] at hshape
    cases B with
    | cells arr x y=>exact⟨_,rfl⟩
    | _=>simp at hshape
theorem list_in {W:World} {base n len:Nat} {w:Value} {xs:List Int} {H:Hp} (hH:∀ i,H.get i=yk W i) (hok:Cell.okWide Try.prog W .any base 44 w) (h:SliceI H n 1 w len xs):spec.ListR H n w len xs:=by
  obtain⟨h1,h2,h3⟩:=h
  refine⟨by omega,h2,?_⟩
  rcases h3 with h3 | ⟨b,o,cap,e,a1,a2,a3,a4⟩
  · exact .inl h3
  · refine .inr ⟨b,o,cap,e,a3,?_⟩
    rcases a4 with rfl | a4
    · subst e
      obtain⟨c,hc⟩:=there hH hok
      have:xs=[]:=List.length_eq_zero_iff.1 (by omega)
      subst this
      exact⟨_,c,hc,rfl,fun k v h=>by simp [ints] at h⟩
    · exact a4
theorem cells_one {W:World} {base:Nat} {w:Value} (hok:Cell.okWide Try.prog W .any base 44 w):w.cells.toList=[w]:=by
  cases w with
  | slice a l c=>rfl
  | _=>simp only[Cell.okWide,Try.underlying44,Cell.ok] at hok
set_option maxRecDepth 100000 in
theorem walk (hs:Says 4) {K:Type} {enc:TypeId × Value→K} {W:World} {base:Nat} {v w:Value} {d d':DataW K} {p p':List MemPlace}
    (hok:Value.okWide Try.prog W .any base 26 v) (ht:DataW.Trod enc Try.prog W 0 (fun _=>true) true 26 v d p) (hw:∀ n ∈ d.weights Try.prog 26,n≤reachBytes)
    (hok':Value.okWide Try.prog W .any base 44 w) (ht':DataW.Trod enc Try.prog W 0 (fun _=>true) true 44 w d' p') (hw':∀ n ∈ d'.weights Try.prog 44,n≤reachBytes) :
    Calls Try.prog 4 #[v,w] W fun e w'=>e=.returned (.bool true)∧Grown W w'∧∀ b,b<W.heap.size→w'.heap[b]?=W.heap[b]?:=by
  obtain⟨H,hH,hI⟩:=I.start W
  obtain⟨np,nj,nk,ps,js,ks,hg,hv⟩:=Zz hH hok ht hw
  have hc:Cell.okWide Try.prog W .any base 44 w:=by
    unfold Value.okWide at hok'
    rw[Try.underlying44] at hok'
    exact hok'
  obtain⟨fuel,ht'⟩:=ht'
  rw[cells_one hc] at ht'
  obtain⟨nl,ls,hsl,hv'⟩:=KQ hH Try.underlying44 flat3 (by omega) bytes3 ht' hw' hc
  obtain⟨l,H',n',e⟩:=hs H W.heap.size v w np nj nk ps js ks nl ls hg (list_in hH hc hsl)
  refine(uv G.tab_ok hI (VRL.cons hv (VRL.cons hv' VRL.nil)) e rfl).mono ?_
  rintro en w' ⟨h1,h2,h3,h4,h5,h6,h7⟩
  exact⟨h1,Zy h2 h4 h5 h6 h7,h6⟩
set_option maxRecDepth 100000 in
theorem Zk (hs:Says 4) (os:Os) (started:os.Started) (H:Type) (enc:TypeId × Value→H) :
    ReturnsInHanded {} Try.checked os 4 .any (Rows.nestBoundsSpec.pre6 enc Try.prog Try.f4 Rows.nestBoundsRow.domain false) (Rows.nestBoundsSpec.post enc Try.prog Try.f4 false true false false):=by
  refine returnsInHanded_of_change_sized (C:=Try.checked) own started (by kernel_rfl) Try.func4
    (ChangeSpec.witness6 (enc:=enc) (C:=Try.checked) false ⟨#[],#[.agg #[.slice none 0 0,.slice none 0 0,.slice none 0 0],.slice none 0 0],[]⟩ 8 (by kernel_rfl) (by kernel_rfl) (by kernel_rfl) (by kernel_rfl)) ?_
  intro W base args ds gs before hval0 hW hcnd hsz _
  have hval:∀(j:Nat) t v,Try.f4.params[j]?=some t→args[j]?=some v→Value.okWide Try.prog W .any base t v:=hval0
  have hW':=hW
  obtain⟨p,q,hA0,hV,rfl,hfz,hnd⟩:=hW
  have hA:DataW.TrodAll enc Try.prog W 0 (fun _=>true) true Try.f4.params.toList args.toList ds p:=hA0
  have hAk:=hA
  rw[Try.params4] at hA hval
  obtain⟨v,w,d,d',p0,p1,rfl,rfl,rfl,h0,h1⟩:=trodAll_two hA
  obtain⟨rfl,rfl⟩:=trodVars_none hV
  simp only[List.append_nil] at hW' hAk
  have hall:∀ n ∈ d.weights Try.prog 26++(d'.weights Try.prog 44++[]),n≤reachBytes:=by
    intro n hn
    have hm:n ∈ DataW.weightsEach Try.checked.prog (Try.f4.params.toList++DataSpec.varTypes Try.checked.prog Rows.nestBoundsSpec.plain) ([d,d']++[]):=by
      rw[Try.params4]
      exact hn
    have:=List.all_eq_true.1 hsz n hm
    simpa using this
  refine(walk hs (hval 0 26 v rfl rfl) h0 (fun n hn=>hall n (List.mem_append_left _ hn)) (hval 1 44 w rfl rfl) h1 (fun n hn=>hall n (List.mem_append_right _ (List.mem_append_left _ hn)))).mono fun e W' ⟨he,hg,hk⟩=>?_
  subst he
  exact⟨_,rfl,post_of_same (pv:=[]) hW' (fun _ _ _=>(trodAll_cons_mk (shut_bool Try.underlying4 _) trodAll_mk0))
    (fun sp hsp=>DataW.TrodAll.respare kids full (by rw[Try.params4]; decide +kernel) (Qx hk hAk) hsp) (fun _ _=>rfl) (by simp)
    (hg.frame _) hg.2.1 (ok_one (by kernel_rfl) rfl (okWide_bool_mk Try.underlying4 _))⟩
theorem over (hs:Says 4):Rows.nestBoundsRow.holds Try.pinned (OpenSpec.ofChange Rows.nestBoundsSpec):=
  OpenClaim.holds_of_wide 4 Try.f4 rfl rfl rfl rfl rfl rfl rfl ⟨rfl,rfl,rfl,rfl,rfl⟩ rfl rfl rfl rfl rfl (by kernel_rfl) Try.func4 (by kernel_rfl)
    (of_decide_eq_true (by kernel_rfl)) (by unfold Func.isWrapper; first | (rw[if_pos (by decide +kernel)]; kernel_rfl) | (rw[if_neg (by decide +kernel)]; exact⟨rfl,rfl⟩))
    (fun os started H enc _=>Zk hs os started H enc)
theorem said (hs:Says 4):Rows.NestBoundsSaid:=over hs
end Go.Proofs.Ytekajfobmnedjaa.nestBounds
end
section
namespace Go.Proofs.Ytekajfobmnedjaa.nestEvery
open Go.ChangeShapes Go.WideShapes Go.ChangeAt Go.RowKit Go.Ev Go.Proofs.Ytekajfobmnedjaa.nestFits Go.Proofs.Ytekajfobmnedjaa.nestBounds
set_option maxRecDepth 100000
def Says (f:Nat):Prop:=∀(H:Hp) (n:Nat) (v w u:Value) np nj nk ps js ks nl ls lw,GroveI H n v np nj nk ps js ks→spec.ListR H n w nl ls→spec.WordsR H n u lw →
  ∃ l H' n',(calE G.P G.A (G.KK+1) G.tab.get l).call f [v,w,u] H n=some (.bool true,H',n')
theorem cells97:Try.prog.cellsOf 97=1:=by kernel_rfl
theorem bytes97:1≤Try.prog.bytesOf 97:=by decide +kernel
theorem cells_one91 {W:World} {base:Nat} {w:Value} (hok:Cell.okWide Try.prog W .any base 91 w):w.cells.toList=[w]:=by
  cases w with
  | slice a l c=>rfl
  | _=>simp only[Cell.okWide,Try.underlying91,Cell.ok] at hok
set_option maxRecDepth 100000 in
theorem words_in {K:Type} {enc:TypeId × Value→K} {w:World} {fuel base:Nat} {v:Value} {dd:DataW K} {ps:List MemPlace} {Hp0:Hp}
    (hH:∀ i,Hp0.get i=yk w i)
    (ht:DataW.trod enc Try.prog w 0 (fun _=>true) true fuel 91 [v]=some (dd,ps)) (hw:∀ n ∈ dd.weights Try.prog 91,n≤reachBytes) (hok:Cell.okWide Try.prog w .any base 91 v) :
    ∃ len,spec.WordsR Hp0 w.heap.size v len∧VR (FV w) v v:=by
  have hu:=Try.underlying91
  cases fuel with
  | zero=>simp [DataW.trod] at ht
  | succ fuel=>
    unfold DataW.trod at ht
    cases v with
    | slice ao len cap=>
      cases ao with
      | none=>
        simp only[hu] at ht
        split at ht <;> simp_all
        exact⟨⟨0,by omega,.inl ⟨rfl,rfl⟩⟩,by simp only[VR]⟩
      | some a=>
        simp only[hu] at ht
        simp only[Cell.okWide,hu,Cell.ok] at hok
        obtain⟨_,_,_,hsp,row,cells,hshape,_⟩:=hok
        split at ht
        case isFalse=>cases ht
        rename_i hcond
        obtain⟨_,hlc,_⟩:=hcond
        rw[cells97] at ht
        simp only[if_true,Option.bind_eq_some_iff,Option.map_eq_some_iff] at ht
        obtain⟨elems,hel,rest,hrest,hdd⟩:=ht
        have l1:=Kk hel
        have l2:=Kk hrest
        simp only[List.length_range] at l1 l2
        simp only[Prod.mk.injEq] at hdd
        obtain⟨rfl,rfl⟩:=hdd
        have hcap:cap<capV:=by
          have:=hw ((elems.length+rest.length) * Try.prog.bytesOf 97) (by simp [DataW.weights,hu])
          have h1:elems.length+rest.length=cap:=by omega
          rw[h1] at this
          have h2:cap≤cap * Try.prog.bytesOf 97:=Nat.le_mul_of_pos_right _ bytes97
          have h3:reachBytes<capV:=by decide
          omega
        have hblk:a.block<w.heap.size:=by
          unfold World.shape? at hshape
          rcases Nat.lt_or_ge a.block w.heap.size with q | q
          · exact q
          · rw[Array.getElem?_eq_none q] at hshape; simp at hshape
        have ha:a=⟨a.block,a.off,none⟩:=oZ hsp
        have num:∀ k,k<len→∃ x:Int,w.cell? ⟨a.block,a.off+k,none⟩=some (.int .u16 x)∧0≤x∧x≤65535:=by
          intro k hk
          obtain⟨y,hy⟩:=WideShapes.mapM_each hel k (by simp [hk])
          simp only[Option.bind_eq_some_iff] at hy
          obtain⟨cs,hc1,hc2⟩:=hy
          obtain⟨m1,m2⟩:=cells?_get hc1
          obtain⟨m,e1,e2,e3⟩:=DataW.trod_int Try.underlying97 hc2
          have h0:IntKind.u16.min=0:=by decide
          have h1:IntKind.u16.max=65535:=by decide
          unfold Lit.wf at e3
          rw[Bool.and_eq_true,decide_eq_true_iff,decide_eq_true_iff,h0,h1] at e3
          refine⟨m,?_,e3.1,e3.2⟩
          have:=m2 0 (by omega)
          rw[e1,ha,Aw,Aw] at this
          simpa using this
        obtain⟨xs,hx1,hx2⟩:=KJ len num
        have hget:∀ k,k<len→∃ x,xs[k]?=some x∧xs.getD k 0=x:=by
          intro k hk
          have:k<xs.length:=by omega
          exact⟨xs[k],by simp [this],by simp [List.getD,this]⟩
        have h3:capV≤4611686018427387904:=by decide
        refine⟨len,⟨by omega,.inr ⟨a.block,a.off,cap,fun i=>(xs.getD i 0).toNat,by rw[← ha],hblk,fun i=>?_,?_⟩⟩,?_⟩
        · rcases Nat.lt_or_ge i len with q | q
          · obtain⟨x,g1,g2⟩:=hget i q
            obtain⟨_,g3,g4⟩:=hx2 i x g1
            show(xs.getD i 0).toNat<65536
            rw[g2]; omega
          · show(xs.getD i 0).toNat<65536
            have:xs.getD i 0=0:=by simp [List.getD,List.getElem?_eq_none (show xs.length≤i by omega)]
            rw[this]; decide
        · rcases Nat.eq_zero_or_pos len with q | q
          · exact .inl q
          · refine .inr ?_
            obtain⟨x0,hx0,_⟩:=num 0 q
            obtain⟨arr,el,fr,hbk,_⟩:=HQ hx0
            simp only at hbk
            refine⟨_,arr.toList.map (hole (FV w)),by rw[hH]; unfold yk; rw[hbk],rfl,fun k v hv=>?_⟩
            simp only[List.getElem?_map,Option.map_eq_some_iff] at hv
            obtain⟨i,hi,rfl⟩:=hv
            have hk:k<len:=by
              rcases Nat.lt_or_ge k len with q | q
              · exact q
              · rw[List.getElem?_eq_none (by simp; omega)] at hi; cases hi
            rw[List.getElem?_range hk] at hi
            cases hi
            obtain⟨x,g1,g2⟩:=hget k hk
            obtain⟨g0,g3,g4⟩:=hx2 k x g1
            obtain⟨arr',el',fr',hbk',harr⟩:=HQ g0
            simp only at hbk' harr
            rw[hbk] at hbk'; cases hbk'
            rw[List.getElem?_map]
            have:arr.toList[a.off+k]?=some (.int .u16 x):=by simpa using harr
            rw[this]
            simp only[Option.map_some,Option.some.injEq]
            unfold hole
            rw[if_pos (by simp only[VR])]
            rw[g2,Int.toNat_of_nonneg g3]
        · simp only[VR]
          exact⟨a,cap,rfl,⟨⟨0,by unfold FV; rw[if_pos hblk]⟩,rfl,rfl⟩,.inl ⟨hcap,rfl⟩⟩
    | _=>simp_all
set_option maxRecDepth 100000 in
theorem walk (hs:Says 11) {K:Type} {enc:TypeId × Value→K} {W:World} {base:Nat} {v w x:Value} {d d' d2:DataW K} {p p' p2:List MemPlace}
    (hok:Value.okWide Try.prog W .any base 26 v) (ht:DataW.Trod enc Try.prog W 0 (fun _=>true) true 26 v d p) (hw:∀ n ∈ d.weights Try.prog 26,n≤reachBytes)
    (hok':Value.okWide Try.prog W .any base 44 w) (ht':DataW.Trod enc Try.prog W 0 (fun _=>true) true 44 w d' p') (hw':∀ n ∈ d'.weights Try.prog 44,n≤reachBytes)
    (hok2:Value.okWide Try.prog W .any base 91 x) (ht2:DataW.Trod enc Try.prog W 0 (fun _=>true) true 91 x d2 p2) (hw2:∀ n ∈ d2.weights Try.prog 91,n≤reachBytes) :
    Calls Try.prog 11 #[v,w,x] W fun e w'=>e=.returned (.bool true)∧Grown W w'∧∀ b,b<W.heap.size→w'.heap[b]?=W.heap[b]?:=by
  obtain⟨H,hH,hI⟩:=I.start W
  obtain⟨np,nj,nk,ps,js,ks,hg,hv⟩:=Zz hH hok ht hw
  have hc:Cell.okWide Try.prog W .any base 44 w:=by
    unfold Value.okWide at hok'
    rw[Try.underlying44] at hok'
    exact hok'
  have hc2:Cell.okWide Try.prog W .any base 91 x:=by
    unfold Value.okWide at hok2
    rw[Try.underlying91] at hok2
    exact hok2
  obtain⟨fuel,ht'⟩:=ht'
  rw[cells_one hc] at ht'
  obtain⟨nl,ls,hsl,hv'⟩:=KQ hH Try.underlying44 flat3 (by omega) bytes3 ht' hw' hc
  obtain⟨fuel2,ht2⟩:=ht2
  rw[cells_one91 hc2] at ht2
  obtain⟨lw,hsw,vw⟩:=words_in hH ht2 hw2 hc2
  obtain⟨l,H',n',e⟩:=hs H W.heap.size v w x np nj nk ps js ks nl ls lw hg (list_in hH hc hsl) hsw
  refine(uv G.tab_ok hI (VRL.cons hv (VRL.cons hv' (VRL.cons vw VRL.nil))) e rfl).mono ?_
  rintro en w' ⟨h1,h2,h3,h4,h5,h6,h7⟩
  exact⟨h1,Zy h2 h4 h5 h6 h7,h6⟩
theorem trodAll_three {H:Type} {enc:TypeId × Value→H} {P:Program} {w:World} {base:Nat} {spare:Nat→Bool} {held:Bool} {t t' t2:TypeId} {args:Array Value} {ds:List (DataW H)} {ps:List MemPlace} (h:DataW.TrodAll enc P w base spare held [t,t',t2] args.toList ds ps) :
    ∃ v v' v2 d d' d2 p p' p2,args=#[v,v',v2]∧ds=[d,d',d2]∧ps=p++p'++p2∧DataW.Trod enc P w base spare held t v d p∧DataW.Trod enc P w base spare held t' v' d' p'∧DataW.Trod enc P w base spare held t2 v2 d2 p2:=by
  obtain⟨v,vs,d,ds',p,q,hargs,rfl,rfl,hd,hrest⟩:=trodAll_cons h
  obtain⟨v',vs',d',ds'',p',q',rfl,rfl,rfl,hd',hrest'⟩:=trodAll_cons hrest
  obtain⟨v2,vs2,d2,ds2,p2,q2,rfl,rfl,rfl,hd2,hrest2⟩:=trodAll_cons hrest'
  obtain⟨rfl,rfl,rfl⟩:=trodAll_nil hrest2
  exact⟨v,v',v2,d,d',d2,p,p',p2,by cases args; simp_all,rfl,by simp,hd,hd',hd2⟩
set_option maxRecDepth 100000 in
theorem Zk (hs:Says 11) (os:Os) (started:os.Started) (H:Type) (enc:TypeId × Value→H) :
    ReturnsInHanded {} Try.checked os 11 .any (Rows.nestEverySpec.pre6 enc Try.prog Try.f11 Rows.nestEveryRow.domain false) (Rows.nestEverySpec.post enc Try.prog Try.f11 false true false false):=by
  refine returnsInHanded_of_change_sized (C:=Try.checked) own started (by kernel_rfl) Try.func11
    (ChangeSpec.witness6 (enc:=enc) (C:=Try.checked) false ⟨#[],#[.agg #[.slice none 0 0,.slice none 0 0,.slice none 0 0],.slice none 0 0,.slice none 0 0],[]⟩ 8 (by kernel_rfl) (by kernel_rfl) (by kernel_rfl) (by kernel_rfl)) ?_
  intro W base args ds gs before hval0 hW hcnd hsz _
  have hval:∀(j:Nat) t v,Try.f11.params[j]?=some t→args[j]?=some v→Value.okWide Try.prog W .any base t v:=hval0
  have hW':=hW
  obtain⟨p,q,hA0,hV,rfl,hfz,hnd⟩:=hW
  have hA:DataW.TrodAll enc Try.prog W 0 (fun _=>true) true Try.f11.params.toList args.toList ds p:=hA0
  have hAk:=hA
  rw[Try.params11] at hA hval
  obtain⟨v,w,x,d,d',d2,p0,p1,p2,rfl,rfl,rfl,h0,h1,h2⟩:=trodAll_three hA
  obtain⟨rfl,rfl⟩:=trodVars_none hV
  simp only[List.append_nil] at hW' hAk
  have hall:∀ n ∈ d.weights Try.prog 26++(d'.weights Try.prog 44++(d2.weights Try.prog 91++[])),n≤reachBytes:=by
    intro n hn
    have hm:n ∈ DataW.weightsEach Try.checked.prog (Try.f11.params.toList++DataSpec.varTypes Try.checked.prog Rows.nestEverySpec.plain) ([d,d',d2]++[]):=by
      rw[Try.params11]
      exact hn
    have:=List.all_eq_true.1 hsz n hm
    simpa using this
  refine(walk hs (hval 0 26 v rfl rfl) h0 (fun n hn=>hall n (List.mem_append_left _ hn)) (hval 1 44 w rfl rfl) h1 (fun n hn=>hall n (List.mem_append_right _ (List.mem_append_left _ hn))) (hval 2 91 x rfl rfl) h2 (fun n hn=>hall n (List.mem_append_right _ (List.mem_append_right _ (List.mem_append_left _ hn))))).mono fun e W' ⟨he,hg,hk⟩=>?_
  subst he
  exact⟨_,rfl,post_of_same (pv:=[]) hW' (fun _ _ _=>(trodAll_cons_mk (shut_bool Try.underlying4 _) trodAll_mk0))
    (fun sp hsp=>DataW.TrodAll.respare kids full (by rw[Try.params11]; decide +kernel) (Qx hk hAk) hsp) (fun _ _=>rfl) (by simp)
    (hg.frame _) hg.2.1 (ok_one (by kernel_rfl) rfl (okWide_bool_mk Try.underlying4 _))⟩
theorem over (hs:Says 11):Rows.nestEveryRow.holds Try.pinned (OpenSpec.ofChange Rows.nestEverySpec):=
  OpenClaim.holds_of_wide 11 Try.f11 rfl rfl rfl rfl rfl rfl rfl ⟨rfl,rfl,rfl,rfl,rfl⟩ rfl rfl rfl rfl rfl (by kernel_rfl) Try.func11 (by kernel_rfl)
    (of_decide_eq_true (by kernel_rfl)) (by unfold Func.isWrapper; first | (rw[if_pos (by decide +kernel)]; kernel_rfl) | (rw[if_neg (by decide +kernel)]; exact⟨rfl,rfl⟩))
    (fun os started H enc _=>Zk hs os started H enc)
theorem said (hs:Says 11):Rows.NestEverySaid:=over hs
end Go.Proofs.Ytekajfobmnedjaa.nestEvery
end
section
namespace Go.Proofs.Ytekajfobmnedjaa.spec
open Go Go.Ev Go.Proofs.Ytekajfobmnedjaa.nestFits Go.Proofs.Ytekajfobmnedjaa.G
set_option maxRecDepth 100000
theorem call11 (v w x:Value) (H:Hp) (n:Nat):(cal (60+1)).call 11 [v,w,x] H n=C11_0 (cal 60) KK v w x H n:=by kernel_rfl
theorem every_says:nestEvery.Says 11:=by
  intro H n v w u np nj nk ps js ks nl ls lw hg hw hu
  obtain⟨H',n',e⟩:=every_law hg hw hu
  exact⟨60+1,H',n',(call11 v w u H n).trans e⟩
theorem proved:Rows.NestEverySaid:=nestEvery.said every_says
#print axioms proved
end Go.Proofs.Ytekajfobmnedjaa.spec
end
