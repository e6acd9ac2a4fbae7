/- Show's answer is a good spread, or the error is as the document says; and whether any lists are a good spread. -/
import Derived.Test.YtmjbdjnnojfhkaaB3
section
namespace Go.Proofs.Ytmjbdjnnojfhkaa.spec
open Go Go.Ev Go.Proofs.Ytmjbdjnnojfhkaa.nestFits Go.Proofs.Ytmjbdjnnojfhkaa.G
set_option maxRecDepth 100000
theorem neq4(a:Bool):binV P BinOp.neq 4 (Operand.tmp 39) (Operand.tmp 52) (.bool a) (.bool a)=some (.bool false):=by cases a <;> kernel_rfl
theorem len59:lenV P 59 (.slice none 0 0)=some (.int .i64 0):=by kernel_rfl
theorem shows_err(c:Cal)(Hawake:∀(H:Hp) (n:Nat) (k:Value→Hp→Nat→Res),aX P c 16 [] H n k=k (.bool true) H n){w pt:Value}{E:Int}(hE:E≠0)(H:Hp)(n:Nat) :
  C6_1 c KK w pt (.slice none 0 0) (.int .i64 E) (.int .i64 E) H n=some (.bool true,H,n):=by
 unfold C6_1 B6_1
 have d0:decide (E=0)=false:=decide_eq_false hE
 have d1:decide (E=E)=true:=decide_eq_true rfl
 have d2:decide ((0:Int)=0)=true:=rfl
 rw[ax iV,d0,Bool.not_false,fX,ax jY,d1]
 simp only[dk,len59,aj,ax jY,decide_true,dw,Hawake]
theorem shows_ok(c:Cal)(Hawake:∀(H:Hp) (n:Nat) (k:Value→Hp→Nat→Res),aX P c 16 [] H n k=k (.bool true) H n){w t x y z:Value}{b0:Nat}{H:Hp}{n:Nat}(ld:∀ H2,aW H2 b0 0 [x,y,z]→az P H2 26 ⟨b0,0,none⟩=some (.agg ⟨[x,y,z]⟩))(hb:aW H b0 0 [x,y,z])
  (h33:∃ H' n',(∀ k:Value→Hp→Nat→Res,aX P c 33 [.agg ⟨[x,y,z]⟩,w,t] H n k=k (.bool true) H' n')∧aW H' b0 0 [x,y,z]∧∃ H'' n'',∀ k:Value→Hp→Nat→Res,aX P c 40 [.agg ⟨[x,y,z]⟩,t] H' n' k=k (.bool true) H'' n'') :
  ∃ H' n',C6_1 c KK w (.pointer (some ⟨b0,0,none⟩)) t (.int .i64 0) (.int .i64 0) H n=some (.bool true,H',n'):=by
 obtain⟨H1,n1,e1,hb1,H2,n2,e2⟩:=h33
 unfold C6_1 B6_1
 have d2:decide ((0:Int)=0)=true:=rfl
 rw[ax iV,d2,Bool.not_true,ez,ax jY,d2]
 simp only[dk,ak,aj,ld H hb,e1,dw,ld H1 hb1,e2,Hawake]
 exact⟨_,_,rfl⟩
noncomputable def T6(c:Cal)(w:Value)(b0:Nat)(r0 r1:Value)(pl:Int)(H_3a:Hp)(n_3b:Nat):Res:=
 binK P BinOp.eql 29 (Operand.tmp 54) (Operand.const (Value.int IntKind.i64 0)) (.int .i64 pl) (Value.int IntKind.i64 0) fun v_60=>
 aQ v_60 true (fun k_62=>aq (az P H_3a 26 ⟨b0,0,none⟩) fun v_66=>k_62 v_66 H_3a n_3b) H_3a n_3b fun v_63 H_64 n_65=>
 aQ v_60 true (fun k_68=>k_68 w H_64 n_65) H_64 n_65 fun v_69 H_6a n_6b=>
 aQ v_60 true (fun k_6d=>aX P c 41 [v_63,v_69] H_6a n_6b fun v_6h H_6i n_6j=>k_6d v_6h H_6i n_6j) H_6a n_6b fun v_6e H_6f n_6g=>
 aQ v_60 true (fun k_6k=>aq (dX P v_6e (Op.unary UnOp.not v_6e)) fun v_6o=>k_6k v_6o H_6f n_6g) H_6f n_6g fun v_6l H_6m n_6n=>
 aq (fy v_60 v_6l (Value.bool false)) fun v_6p=>
 ifK v_6p (C6_1 c KK w (.pointer (some ⟨b0,0,none⟩)) r0 r1 (Value.int IntKind.i64 9) H_6m n_6n) (C6_1 c KK w (.pointer (some ⟨b0,0,none⟩)) r0 r1 (.int .i64 pl) H_6m n_6n)
theorem T6_bad(c:Cal)(Hawake:∀(H:Hp) (n:Nat) (k:Value→Hp→Nat→Res),aX P c 16 [] H n k=k (.bool true) H n){w:Value}{b0:Nat}{pl:Int}(hE:pl≠0)(H:Hp)(n:Nat):T6 c w b0 (.slice none 0 0) (.int .i64 pl) pl H n=some (.bool true,H,n):=by
 have d0:decide (pl=0)=false:=decide_eq_false hE
 unfold T6
 rw[ax jY,d0]
 simp only[eJ,dQ,aj,ez]
 exact shows_err c Hawake hE H n
theorem shows_core(c:Cal){np nj nk nl nv:Nat}{ps js ks ls:List Int}{w u:Value}{rw_:Nat→Value}{R:Nat→List Int}{Fw Sh Cut:Prop}{pl:Int}
  (Hawake:∀(H:Hp) (n:Nat) (k:Value→Hp→Nat→Res),aX P c 16 [] H n k=k (.bool true) H n)
  (Hfew:∀(H:Hp) (n:Nat) (v:Value),GroveI H n v np nj nk ps js ks→ListR H n w nl ls→∃(r:Bool) (H':Hp) (n':Nat),(r=true↔Fw)∧(∀ k:Value→Hp→Nat→Res,aX P c 35 [v,w] H n k=k (.bool r) H' n')∧n≤n'∧Keep n H H')
  (Hshort:∀(H:Hp) (n:Nat),SpreadJ H n u nv rw_ R→∃(r:Bool) (H':Hp) (n':Nat),(r=true↔Sh)∧(∀ k:Value→Hp→Nat→Res,aX P c 36 [u] H n k=k (.bool r) H' n')∧n≤n'∧Keep n H H')
  (Hgrove:Fw→∀(H:Hp) (n:Nat) (v:Value),GroveI H n v np nj nk ps js ks→∃ g H' n',(∀ k:Value→Hp→Nat→Res,aX P c 18 [v] H n k=k g H' n')∧n≤n'∧Keep n H H'∧kq H' n' g np nj nk ps js ks)
  (Hlist:Fw→∀(H:Hp) (n:Nat),ListR H n w nl ls→∃ g H' n',(∀ k:Value→Hp→Nat→Res,aX P c 23 [w] H n k=k g H' n')∧n≤n'∧Keep n H H'∧ListR H' n' g nl ls)
  (Hshow:Fw→∀(H:Hp) (n:Nat) (v l:Value),kq H n v np nj nk ps js ks→ListR H n l nl ls→∃ r H' n',(∀ k:Value→Hp→Nat→Res,aX P c 37 [v,l] H n k=k r H' n')∧n≤n'∧Keep n H H'∧(pl≠0→r=.tuple ⟨[.slice none 0 0,.int .i64 pl]⟩)∧(pl=0→ShowOut js ks ps (ej ls np) nj np r H' n'))
  (Hrows:Sh→∀(H:Hp) (n:Nat),SpreadJ H n u nv rw_ R→∃ t nvv H' n',(∀ k:Value→Hp→Nat→Res,aX P c 39 [u] H n k=k t H' n')∧n≤n'∧Keep n H H'∧fq H' n' t nv nvv R)
  (Hprove:Fw→∀(H:Hp) (n:Nat) (v l t:Value) (nvv:Nat→Value),kq H n v np nj nk ps js ks→ListR H n l nl ls→fq H n t nv nvv R→∃(r:Bool) (H':Hp) (n':Nat),(r=true↔pl=0∧(nv=np∧∀ q,q<np→wx js ks nj np q (ls.getD q 0) (R q))∧GJ ps R np)∧(∀ k:Value→Hp→Nat→Res,aX P c 38 [v,l,t] H n k=k (.bool r) H' n')∧n≤n'∧Keep n H H')
  (Hplaced:∀(H:Hp) (n:Nat) (v:Value),GroveI H n v np nj nk ps js ks→ListR H n w nl ls→∃ H' n',(∀ k:Value→Hp→Nat→Res,aX P c 25 [v,w] H n k=k (.int .i64 pl) H' n')∧n≤n'∧Keep n H H')
  (HisS:Fw→pl=0→∀(H:Hp) (n:Nat) (v t:Value) (nt:Nat) (nvv:Nat→Value) (R':Nat→List Int),GroveI H n v np nj nk ps js ks→ListR H n w nl ls→SpreadJ H n t nt nvv R'→∃(r:Bool) (H':Hp) (n':Nat),(r=true↔nt=np∧∀ q,q<np→wx js ks nj np q (ls.getD q 0) (R' q))∧(∀ k:Value→Hp→Nat→Res,aX P c 33 [v,w,t] H n k=k (.bool r) H' n')∧n≤n'∧Keep n H H')
  (HisG:Fw→pl=0→∀(H:Hp) (n:Nat) (v t:Value) (nvv:Nat→Value) (R':Nat→List Int),GroveI H n v np nj nk ps js ks→SpreadJ H n t np nvv R'→(∀ q,q<np→wx js ks nj np q (ls.getD q 0) (R' q))→∃(r:Bool) (H':Hp) (n':Nat),(r=true↔GJ ps R' np)∧(∀ k:Value→Hp→Nat→Res,aX P c 40 [v,t] H n k=k (.bool r) H' n')∧n≤n'∧Keep n H H')
  (Hcan:Fw→pl=0→∀(H:Hp) (n:Nat) (v:Value),GroveI H n v np nj nk ps js ks→ListR H n w nl ls→∃(r:Bool) (H':Hp) (n':Nat),(r=true↔Cut)∧(∀ k:Value→Hp→Nat→Res,aX P c 41 [v,w] H n k=k (.bool r) H' n')∧n≤n'∧Keep n H H')
  (Hsent:Fw→pl=0→∀ m2:Net,Sending js ks ps (ej ls np) nj np (fun p q=>if p<8∧q<8 then m2 (8+q) p else 0)→(∀ q,q<np→wx js ks nj np q (ls.getD q 0) (oZ js ks (ej ls np) nj np m2 q))∧GJ ps (oZ js ks (ej ls np) nj np m2) np∧Cut)
  (Hcut:(∃(A B:Nat→Bool) (b e:Bool),(b=true→e=true)∧canC js ks ps (ej ls np) nj np A B b e<wk js ks ps (ej ls np) nj np A B b e)→¬ Cut)
  {H:Hp} {n:Nat} {v:Value} (hg:GroveI H n v np nj nk ps js ks) (hw:ListR H n w nl ls) (hu:SpreadJ H n u nv rw_ R):∃ H' n',B6_0 c KK (C6_1 c KK) v w u H n=some (.bool true,H',n'):=by
 have hg0:=hg
 obtain⟨x,y,z,rfl,h1,h2,h3⟩:=hg.eq
 unfold B6_0
 rw[dZ]
 simp only[aZ,ptr]
 have hk:Keep n H (H.set n (some (.cells [x,y,z] 26 false none))):=(Keep.refl n H).set (Nat.le_refl _) _
 have hb:aW (H.set n (some (.cells [x,y,z] 26 false none))) n 0 [x,y,z]:=aW.new
 generalize H.set n (some (.cells [x,y,z] 26 false none))=H1 at hk hb ⊢
 have ld:∀ H2,aW H2 n 0 [x,y,z]→az P H2 26 ⟨n,0,none⟩=some (.agg ⟨[x,y,z]⟩):=fun H2 h=>KV h h1.hole.1 h2.hole.1 h3.hole.1
 have tup:∀ a b:Value,tupV (.tuple ⟨[a,b]⟩) 0=some a∧tupV (.tuple ⟨[a,b]⟩) 1=some b:=fun _ _=>⟨rfl,rfl⟩
 have st:∀(H2:Hp) (n2:Nat),n+1≤n2→Keep (n+1) H1 H2→aW H2 n 0 [x,y,z]∧GroveI H2 n2 (.agg ⟨[x,y,z]⟩) np nj nk ps js ks∧ListR H2 n2 w nl ls∧SpreadJ H2 n2 u nv rw_ R:=fun H2 n2 q k=>
  have k0:Keep n H H2:=hk.trans k (by omega)
  ⟨hb.keep k (by omega),hg0.keep k0 (by omega),hw.keep k0 (by omega),hu.keep k0 (by omega)⟩
 obtain⟨_,g1,l1,s1⟩:=st H1 (n+1) (Nat.le_refl _) (Keep.refl _ _)
 obtain⟨t,H2,n2,t1,t2,t3,t4⟩:=Hfew H1 (n+1) _ g1 l1
 rw[ak,aj,ld H1 hb,aj,t2]
 cases t with
 | false=>
  rw[tv,aj]
  simp only[nw,dw,aj,fX,Hawake]
  exact⟨_,_,rfl⟩
 | true=>
  have fw:=t1.1 rfl
  obtain⟨b2,g2,l2,s2⟩:=st H2 n2 t3 t4
  obtain⟨t',H3,n3,a1,a2,a3,a4⟩:=Hshort H2 n2 s2
  have k3:Keep (n+1) H1 H3:=t4.trans a4 t3
  obtain⟨b3,g3,l3,s3⟩:=st H3 n3 (by omega) k3
  rw[qK,aj]
  simp only[nq,a2,dQ,aj]
  cases t' with
  | false=>
   rw[tv,aj,fX,Hawake]
   exact⟨_,_,rfl⟩
  | true=>
   have sh:=a1.1 rfl
   obtain⟨gv,H4,n4,c1,c2,c3,c4⟩:=Hgrove fw H3 n3 _ g3
   have k4:=k3.trans c3 (by omega)
   obtain⟨b4,g4,l4,s4⟩:=st H4 n4 (by omega) k4
   obtain⟨lv,H5,n5,d1,d2,d3,d4⟩:=Hlist fw H4 n4 l4
   have k5:=k4.trans d3 (by omega)
   obtain⟨r,H6,n6,e1,e2,e3,e4,e5⟩:=Hshow fw H5 n5 gv lv (c4.keep d3 d2) d4
   have k6:=k5.trans e3 (by omega)
   obtain⟨b6,g6,l6,s6⟩:=st H6 n6 (by omega) k6
   obtain⟨gv2,H7,n7,f1,f2,f3,f4⟩:=Hgrove fw H6 n6 _ g6
   have k7:=k6.trans f3 (by omega)
   obtain⟨b7,g7,l7,s7⟩:=st H7 n7 (by omega) k7
   obtain⟨lv2,H8,n8,i1,i2,i3,i4⟩:=Hlist fw H7 n7 l7
   have k8:=k7.trans i3 (by omega)
   obtain⟨b8,g8,l8,s8⟩:=st H8 n8 (by omega) k8
   obtain⟨rv,nvv,H9,n9,j1,j2,j3,j4⟩:=Hrows sh H8 n8 s8
   have k9:=k8.trans j3 (by omega)
   have k79:Keep n7 H7 H9:=i3.trans j3 i2
   obtain⟨pr,H10,n10,m1,m2,m3,m4⟩:=Hprove fw H9 n9 gv2 lv2 rv nvv (f4.keep k79 (by omega)) (i4.keep j3 j2) j4
   have k10:=k9.trans m4 (by omega)
   obtain⟨b10,g10,l10,s10⟩:=st H10 n10 (by omega) k10
   obtain⟨H11,n11,o1,o2,o3⟩:=Hplaced H10 n10 _ g10 l10
   have k11:=k10.trans o3 (by omega)
   obtain⟨b11,g11,l11,s11⟩:=st H11 n11 (by omega) k11
   rw[qK,aj,ez,ld H3 b3,aj,c1,d1,e1]
   obtain⟨r0,r1,hr⟩:∃ r0 r1,r=.tuple ⟨[r0,r1]⟩:=by
    by_cases hp:pl=0
    ·rcases e5 hp with⟨_,_,_,h,_⟩ | ⟨h,_⟩ <;> exact⟨_,_,h⟩
    ·exact⟨_,_,e4 hp⟩
   subst hr
   rw[(tup _ _).1,aj,(tup _ _).2,aj,ld H6 b6,aj,f1,i1,j1,m2,ld H10 b10,aj,o1,ax jY]
   by_cases hp:pl=0
   ·subst hp
    have d2:decide ((0:Int)=0)=true:=rfl
    have fin:∀(Hx:Hp) (nx:Nat),n11≤nx→Keep (n+1) H1 Hx→Keep n6 H6 Hx→∃ H' n',T6 c w n r0 r1 0 Hx nx=some (.bool true,H',n'):=fun Hx nx q1 q2 q3=>by
     obtain⟨bx,gx,lx,sx⟩:=st Hx nx (by omega) q2
     obtain⟨q,H12,n12,p1,p2,p3,p4⟩:=Hcan fw rfl Hx nx _ gx lx
     have k12:=q2.trans p4 (by omega)
     obtain⟨b12,g12,l12,s12⟩:=st H12 n12 (by omega) k12
     unfold T6
     rw[ax jY,d2]
     simp only[dk,aj,ld Hx bx,p2]
     rcases e5 rfl with⟨t,nv',m2,h,z1,z2,z3⟩ | ⟨h,cut⟩
     ·simp only[Value.tuple.injEq,Array.mk.injEq,List.cons.injEq,and_true] at h
      obtain⟨rfl,rfl⟩:=h
      obtain⟨w1,w2,w3⟩:=Hsent fw rfl m2 z3
      have hq:q=true:=p1.2 w3
      subst hq
      rw[qK,aj,dw,aj,ez]
      have z4:=(z2.keep q3 (show n6≤nx by omega)).keep p4 p3
      obtain⟨v33,H13,n13,y1,y2,y3,y4⟩:=HisS fw rfl H12 n12 _ r0 np nv' _ g12 l12 z4.toJ
      have y0:v33=true:=y1.2 ⟨rfl,w1⟩
      subst y0
      have k13:=k12.trans y4 (by omega)
      obtain⟨b13,g13,l13,s13⟩:=st H13 n13 (by omega) k13
      obtain⟨v40,H14,n14,x1,x2,x3,x4⟩:=HisG fw rfl H13 n13 _ r0 nv' _ g13 (z4.keep y4 y3).toJ w1
      have x0:v40=true:=x1.2 w2
      subst x0
      exact shows_ok c Hawake ld b12 ⟨H13,n13,y2,b13,H14,n14,x2⟩
     ·simp only[Value.tuple.injEq,Array.mk.injEq,List.cons.injEq,and_true] at h
      obtain⟨rfl,rfl⟩:=h
      have hq:q=false:=by
       cases q with
       | false=>rfl
       | true=>exact absurd (p1.1 rfl) (Hcut cut)
      subst hq
      rw[tv,aj,dw,aj,fX]
      exact⟨_,_,shows_err c Hawake (by decide) H12 n12⟩
    obtain⟨q,H12,n12,p1,p2,p3,p4⟩:=HisS fw rfl H11 n11 _ u nv rw_ R g11 l11 s11
    have k12:=k11.trans p4 (by omega)
    have k612:Keep n6 H6 H12:=((((f3.trans i3 f2).trans j3 (by omega)).trans m4 (by omega)).trans o3 (by omega)).trans p4 (by omega)
    obtain⟨b12,g12,l12,s12⟩:=st H12 n12 (by omega) k12
    rw[d2]
    simp only[dk,aj,ld H11 b11,p2,dw]
    cases q with
    | false=>
     have hpr:pr=false:=by
      cases pr with
      | false=>rfl
      | true=>have:=p1.2 (m1.1 rfl).2.1; cases this
     subst hpr
     simp only[eJ,dQ,aj]
     rw[ax (neq4 false),ez]
     exact fin H12 n12 (by omega) k12 k612
    | true=>
     obtain⟨hnv,hrow⟩:=p1.1 rfl
     subst hnv
     obtain⟨g,H13,n13,y1,y2,y3,y4⟩:=HisG fw rfl H12 n12 _ u rw_ R g12 s12 hrow
     have hpr:pr=g:=by
      cases pr with
      | true=>exact(y1.2 (m1.1 rfl).2.2).symm
      | false=>
       cases g with
       | false=>rfl
       | true=>have:=m1.2 ⟨rfl,⟨rfl,hrow⟩,y1.1 rfl⟩; cases this
     subst hpr
     simp only[dk,aj,ld H12 b12,y2,dw]
     rw[ax (neq4 _),ez]
     exact fin H13 n13 (by omega) (k12.trans y4 (by omega)) (k612.trans y4 (by omega))
   ·have hr:=e4 hp
    simp only[Value.tuple.injEq,Array.mk.injEq,List.cons.injEq,and_true] at hr
    obtain⟨rfl,rfl⟩:=hr
    have hpr:pr=false:=by
     cases pr with
     | false=>rfl
     | true=>exact absurd (m1.1 rfl).1 hp
    subst hpr
    rw[decide_eq_false hp]
    simp only[eJ,dQ,aj]
    rw[ax (neq4 false),ez]
    exact⟨_,_,T6_bad c Hawake hp H11 n11⟩
end Go.Proofs.Ytmjbdjnnojfhkaa.spec
end
section
namespace Go.Proofs.Ytmjbdjnnojfhkaa.nestBounds
open Go.ChangeShapes Go.WideShapes Go.ChangeAt Go.RowKit Go.Ev Go.Proofs.Ytmjbdjnnojfhkaa.nestFits
theorem flat3:RK Try.prog 5 3=some 1:=by kernel_rfl
theorem bytes3:1≤Try.prog.bytesOf 3:=by decide +kernel
theorem cells44:Try.prog.cellsOf 44=1:=by kernel_rfl
def Says(f:Nat):Prop:=∀(H:Hp) (n:Nat) (v w:Value) np nj nk ps js ks nl ls,GroveI H n v np nj nk ps js ks→spec.ListR H n w nl ls →
 ∃ l H' n',(calE G.P G.A (G.KK+1) G.tab.get l).call f [v,w] H n=some (.bool true,H',n')
set_option maxRecDepth 100000
theorem there{m:Nat}{W:World}{base:Nat}{b o len cap:Nat}{H:Hp}(hH:∀ i,H.get i=pK m W i)(hok:Cell.okWide Try.prog W .any base 44 (.slice (some ⟨b,o,none⟩) len cap)):∃ c,H.get b=some (.rows c):=by
 simp only[Cell.okWide,Try.underlying44,Cell.ok] at hok
 obtain⟨_,_,_,hsp,row,cells,hshape,_⟩:=hok
 rw[hH]
 unfold pK
 unfold World.shape? at hshape
 dsimp only at hshape
 cases hb:W.heap[b]? with
 | none=>rw[hb] at hshape; simp at hshape
 | some B=>
  rw[hb] at hshape
  cases B with
  | cells arr x y=>exact⟨_,rfl⟩
  | _=>simp at hshape
theorem list_in{m:Nat}{W:World}{base n len:Nat}{w:Value}{xs:List Int}{H:Hp}(hH:∀ i,H.get i=pK m W i)(hok:Cell.okWide Try.prog W .any base 44 w)(h:SliceI H n 1 w len xs):spec.ListR H n w len xs:=by
 obtain⟨h1,h2,h3⟩:=h
 refine⟨by omega,h2,?_⟩
 rcases h3 with h3 | ⟨b,o,cap,e,a1,a2,a3,a4⟩
 ·exact .inl h3
 ·refine .inr ⟨b,o,cap,e,a3,?_⟩
  rcases a4 with rfl | a4
  ·subst e
   obtain⟨c,hc⟩:=there hH hok
   have:xs=[]:=List.length_eq_zero_iff.1 (by omega)
   subst this
   exact⟨_,c,hc,rfl,fun k v h=>by simp [ints] at h⟩
  ·exact a4
theorem cells_one{W:World}{base:Nat}{w:Value}(hok:Cell.okWide Try.prog W .any base 44 w):w.cells.toList=[w]:=by
 cases w with
 | slice a l c=>rfl
 | _=>simp only[Cell.okWide,Try.underlying44,Cell.ok] at hok
end Go.Proofs.Ytmjbdjnnojfhkaa.nestBounds
end
section
namespace Go.Proofs.Ytmjbdjnnojfhkaa.nestGood
open Go.ChangeShapes Go.WideShapes Go.ChangeAt Go.RowKit Go.Ev Go.Proofs.Ytmjbdjnnojfhkaa.nestFits Go.Proofs.Ytmjbdjnnojfhkaa.nestBounds
def Says(f:Nat):Prop:=∀(H:Hp) (n:Nat) (v w:Value) np nj nk ps js ks nl ls,GroveI H n v np nj nk ps js ks→spec.ListR H n w nl ls →
 ∃ l H' n',(calE G.P G.A (G.KK+1) G.tab.get l).call f [v,w] H n=some (.bool true,H',n')
end Go.Proofs.Ytmjbdjnnojfhkaa.nestGood
end
section
namespace Go.Proofs.Ytmjbdjnnojfhkaa.spec
open Go.Ev Go.Proofs.Ytmjbdjnnojfhkaa.nestFits Go.Proofs.Ytmjbdjnnojfhkaa.G
set_option maxRecDepth 1000000
noncomputable def isB(c:Bool)(r:Res):Bool:=match r with
 | some (.bool b,_,_)=>b == c
 | _=>false
theorem isB_eq{c:Bool}{r:Res}(h:isB c r=true):∃ H n,r=some (.bool c,H,n):=by
 unfold isB at h
 split at h
 ·rename_i b H n
  have h:=eq_of_beq h
  subst h
  exact⟨H,n,rfl⟩
 ·cases h
theorem run_awake:isB true ((cal 60).call 16 [] .nil 0)=true:=by kernel_rfl
theorem flat16:iY P 16=true:=by kernel_rfl
theorem awake_call{ρ:Type}(H:Hp)(n:Nat)(k:Value→Hp→Nat→Option ρ):aX P (cal 60) 16 [] H n k=k (.bool true) H n:=by
 obtain⟨H',n',e⟩:=isB_eq run_awake
 exact iZ flat16 rfl e rfl
end Go.Proofs.Ytmjbdjnnojfhkaa.spec
end
section
namespace Go.Proofs.Ytmjbdjnnojfhkaa.spec
open Go Go.Ev Go.Proofs.Ytmjbdjnnojfhkaa.nestFits Go.Proofs.Ytmjbdjnnojfhkaa.G
set_option maxRecDepth 100000
variable {ρ:Type}
theorem flat37:iY P 37=false:=by kernel_rfl
theorem call37(l:Nat)(a b:Value)(H:Hp)(n:Nat):(cal (l+1)).call 37 [a,b] H n=C37_0 (cal l) KK a b H n:=by kernel_rfl
theorem Show_call(l:Nat)(v w:Value)(H:Hp)(n:Nat)(k:Value→Hp→Nat→Option ρ):aX P (cal (l+1)) 37 [v,w] H n k=aq (C37_0 (cal l) KK v w H n) fun r=>k r.1 r.2.1 r.2.2:=by
 unfold aX
 rw[flat37,call37]
 rfl
theorem rx{np nj nk nl:Nat}{ps js ks ls:List Int}(h:gX np nj nk nl ps js ks ls=0):Good np nj nk ps js ks∧nl=np∧nQ js ks ls nj np nk:=by
 unfold gX at h
 by_cases c1:iq np nj nk ps js ks≠0
 ·rw[if_pos c1] at h; exact absurd h c1
 ·rw[if_neg c1] at h
  by_cases c2:nl=np∧nQ js ks ls nj np nk
  ·exact⟨Qw (Decidable.not_not.1 c1),c2.1,c2.2⟩
  ·rw[if_neg c2] at h; omega
theorem call35(l:Nat)(a b:Value)(H:Hp)(n:Nat):(cal (l+1)).call 35 [a,b] H n=C35_0 (cal l) KK a b H n:=by kernel_rfl
theorem few_call(l:Nat){np nj nk nl:Nat}{ps js ks ls:List Int}{H:Hp}{n:Nat}{v w:Value}(hg:GroveI H n v np nj nk ps js ks)(hw:ListR H n w nl ls) :
  ∃(r:Bool) (H':Hp) (n':Nat),(r=true↔few np nj nk nl ps js ks)∧(∀ k:Value→Hp→Nat→Option ρ,aX P (cal (l+4)) 35 [v,w] H n k=k (.bool r) H' n')∧n≤n'∧Keep n H H':=by
 obtain⟨r,H',n',⟨b,rfl,hb⟩,e1,e2,e3⟩:=eZ (ρ:=ρ) (P:=P) (cal:=cal (l+4)) (f:=35) (args:=[v,w]) (H:=H) (n:=n)
  (Pre:=fun H n=>GroveI H n v np nj nk ps js ks∧ListR H n w nl ls) (Q:=fun r=>∃ b:Bool,r=.bool b∧(b=true↔few np nj nk nl ps js ks))
  (fun H n h=>by
   obtain⟨r,h1,h2⟩:=few_spec l h.1 h.2
   exact⟨.bool r,by rw[show l+4=(l+3)+1 by omega,call35]; exact h1,r,rfl,h2⟩) (fun r ⟨b,e,_⟩ _=>by subst e; rfl) ⟨hg,hw⟩ (fun hp=>by
    simp only[ck,Bool.and_eq_true] at hp
    exact⟨hg.nil hp.1,hw.nil hp.2.1⟩)
 exact⟨b,H',n',hb,e1,e2,e3⟩
theorem few_six{np nj nk nl nl':Nat}{ps js ks ls:List Int}(h:few np nj nk nl ps js ks)(hp:gX np nj nk nl' ps js ks ls=0):np≤6:=by
 rcases h.2 with q | q
 ·unfold gX at hp
  rw[if_pos q] at hp
  exact absurd hp q
 ·exact q
theorem sL_low{np nj nk:Nat}{ps js ks ls:List Int}(good:Good np nj nk ps js ks)(hjs:js.length=nj * 2)(hls:ls.length=np)(hok:nQ js ks ls nj np nk):∀ p,isN (ej ls np) p→∀ q,0≤(sL js ks (ej ls np) nj np p).getD (q * 2) 0:=by
 intro p hp q
 have np8:=good.np8
 have hlt:=QV hls hp
 obtain⟨l1,l2⟩:=VQ hls hok np8 hlt
 have hn:=l1.1 hp
 have hk:(ls.getD p 0).toNat<nk:=by
  rcases hok p hlt with q | ⟨_,q,_⟩
  ·omega
  ·omega
 unfold sL
 rw[l2,(uv (ks:=ks) (good.inner hjs) np8 hlt q).1]
 exact(tK good.small hk _ _).1
theorem shows_law{np nj nk nl nv:Nat}{ps js ks ls:List Int}{H:Hp}{n:Nat}{v w u:Value}{rw_:Nat→Value}{R:Nat→List Int}(hg:GroveI H n v np nj nk ps js ks)(hw:ListR H n w nl ls)(hu:SpreadJ H n u nv rw_ R):∃ H' n',C6_0 (cal 60) KK v w u H n=some (.bool true,H',n'):=by
 have hjs:js.length=nj * 2:=by obtain⟨_,_,_,_,_,h2,_⟩:=hg.eq; exact h2.1
 have hls:ls.length=nl:=hw.1
 unfold C6_0
 refine shows_core (cal 60) (Fw:=few np nj nk nl ps js ks) (Sh:=shortR nv R) (pl:=gX np nj nk nl ps js ks ls)
  (Cut:=∀(A B:Nat→Bool) (b e:Bool),(b=true→e=true)→wk js ks ps (ej ls np) nj np A B b e≤canC js ks ps (ej ls np) nj np A B b e)
  (fun H n k=>awake_call H n k) (fun H n v h1 h2=>few_call 56 h1 h2) (fun H n h=>short_call 59 h)
  (fun fw H n v h=>by
   obtain⟨l1,l2,l3,_⟩:=fw.1
   exact grove_call 58 h (by omega) (by omega) (by omega))
  (fun fw H n h=>list_call 59 h (by have:=fw.1.2.2.2; omega))
  (fun fw H n v l h1 h2=>by
   obtain⟨l1,l2,l3,_⟩:=fw.1
   obtain⟨s1,s2⟩:=Show_spec 34 h1 h2 (by omega) (by omega) (by omega) hjs
   by_cases hp:gX np nj nk nl ps js ks ls=0
   ·obtain⟨r,H',n',e,e1,e2,e3⟩:=s2 hp
    exact⟨r,H',n',fun k=>by rw[Show_call 59,e]; rfl,e1,e2,fun h=>absurd hp h,fun _=>e3⟩
   ·obtain⟨H',n',e,e1,e2⟩:=s1 hp
    exact⟨_,H',n',fun k=>by rw[Show_call 59,e]; rfl,e1,e2,fun _=>rfl,fun h=>absurd h hp⟩)
  (fun sh H n h=>by
   obtain⟨a,b,c,d,e1,e2,e3,e4⟩:=rows_callJ (ρ:=Value × Hp × Nat) 58 h (by have:=sh.1; omega) (fun p hp=>by have:=sh.2 p hp; omega)
   exact⟨a,b,c,d,e1,e2,e3,e4⟩)
  (fun fw H n v l t nvv h1 h2 h3=>by
   obtain⟨l1,l2,l3,_⟩:=fw.1
   obtain⟨r,H',n',e0,e1,e2,e3⟩:=ProveSpread_any (ρ:=Value × Hp × Nat) 52 h1 h2 h3 (by omega) (by omega) (by omega)
   refine⟨r,H',n',e0.trans ?_,e1,e2,e3⟩
   constructor
   ·rintro⟨a,b,c,d⟩
    obtain⟨good,hnl,hok⟩:=rx a
    subst hnl
    exact⟨a,⟨b,fun q hq=>(pad_row good hjs hls hok R hq).1 (c q hq)⟩,d⟩
   ·rintro⟨a,⟨b,c⟩,d⟩
    obtain⟨good,hnl,hok⟩:=rx a
    subst hnl
    exact⟨a,b,fun q hq=>(pad_row good hjs hls hok R hq).2 (c q hq),d⟩)
  (fun H n v h1 h2=>placedN_call 54 h1 h2)
  (fun fw hp H n v t nt nvv R' h1 h2 h3=>by
   obtain⟨good,hnl,hok⟩:=rx hp
   subst hnl
   exact isSpread_callJ 57 good hok h1 h2 h3)
  (fun fw hp H n v t nvv R' h1 h3 h4=>by
   obtain⟨good,hnl,hok⟩:=rx hp
   subst hnl
   refine isGood_callJ 58 h1 h3 (rows_in good hok h4) (by have:=good.np8; omega) ?_
   rcases h3.1 with⟨_,q⟩ | ⟨b,o,cap,rfl,_⟩
   ·exact absurd q good.np1
   ·rfl)
  (fun fw hp H n v h1 h2=>by
   obtain⟨good,hnl,hok⟩:=rx hp
   have np6:=few_six fw hp
   subst hnl
   obtain⟨r,H',n',e0,e1,e2,e3⟩:=canBeGood_call (ρ:=Value × Hp × Nat) 57 good np6 hok h1 h2
   exact⟨r,H',n',e0.trans (cuts_iff good hjs hls hok),e1,e2,e3⟩)
  (fun fw hp m2 hs=>by
   obtain⟨good,hnl,hok⟩:=rx hp
   subst hnl
   have ok:=qmx good hjs hls hok
   obtain⟨p1,p2,_⟩:=sent_good ok (laid_bounded good hls hok).1 (fun p hp=>QV hls hp) hs
   exact⟨fun q hq=>(pad_row good hjs hls hok _ hq).1 (p1 q hq),p2,fun A B b e hbe=>cuts_of_sending ok (sL_low good hjs hls hok) hs A B b e hbe⟩)
  (fun⟨A,B,b,e,h1,h2⟩ h=>by have:=h A B b e h1; omega) hg hw hu
theorem call6(v w u:Value)(H:Hp)(n:Nat):(cal (60+1)).call 6 [v,w,u] H n=C6_0 (cal 60) KK v w u H n:=by kernel_rfl
end Go.Proofs.Ytmjbdjnnojfhkaa.spec
end
section
namespace Go.Proofs.Ytmjbdjnnojfhkaa.nestShows
open Go.ChangeShapes Go.WideShapes Go.ChangeAt Go.RowKit Go.Ev Go.Proofs.Ytmjbdjnnojfhkaa.nestFits Go.Proofs.Ytmjbdjnnojfhkaa.nestBounds
set_option maxRecDepth 100000
def Says(f:Nat):Prop:=∀(H:Hp) (n:Nat) (v w u:Value) np nj nk ps js ks nl ls nv rw_ R,GroveI H n v np nj nk ps js ks→spec.ListR H n w nl ls→spec.SpreadJ H n u nv rw_ R →
 ∃ l H' n',(calE G.P G.A (G.KK+1) G.tab.get l).call f [v,w,u] H n=some (.bool true,H',n')
theorem mapM_get{α β:Type}{f:α→Option β}:∀ {l:List α} {r:List β},l.mapM f=some r→∀(k:Nat) (x:α),l[k]?=some x→∃ y,f x=some y∧r[k]?=some y
 | [],r,h,k,x,e=>by simp at e
 | a::l,r,h,k,x,e=>by
  rw[List.mapM_cons] at h
  cases h1:f a with
  | none=>rw[h1] at h; cases h
  | some y=>
   rw[h1] at h
   cases h2:l.mapM f with
   | none=>rw[h2] at h; cases h
   | some q=>
    rw[h2] at h
    cases h
    cases k with
    | zero=>simp at e; subst e; exact⟨y,h1,rfl⟩
    | succ k=>exact mapM_get h2 k x (by simpa using e)
theorem weights_in{H:Type}{P:Program}{e:TypeId}{n:Nat}:∀ {ds:List (DataW H)} {d:DataW H},d ∈ ds→n ∈ d.weights P e→n ∈ DataW.weightsAll P e ds
 | [],d,hm,hn=>by simp at hm
 | c::ds,d,hm,hn=>by
  unfold DataW.weightsAll
  rcases List.mem_cons.1 hm with rfl | h
  ·exact List.mem_append_left _ hn
  ·exact List.mem_append_right _ (weights_in h hn)
theorem slice_open{H:Type}{enc:TypeId × Value→H}{P:Program}{w:World}{fuel s len cap:Nat}{t e:TypeId}{a:Addr}{dd:DataW H}{ps:List MemPlace}(hu:P.underlying t=some (.slice e))(hc:P.cellsOf e=s)(hb:1≤P.bytesOf e)
  (ht:DataW.trod enc P w 0 (fun _=>true) true (fuel+1) t [.slice (some a) len cap]=some (dd,ps)) (hw:∀ n ∈ dd.weights P t,n≤reachBytes) :
  len≤cap∧cap<capV∧∀ k,k<len→∃ cs y,w.cells? 0 (a.add (k * s)) s=some cs∧DataW.trod enc P w 0 (fun _=>true) true fuel e cs=some y∧∀ n ∈ y.1.weights P e,n≤reachBytes:=by
 unfold DataW.trod at ht
 simp only[hu] at ht
 split at ht
 case isFalse=>cases ht
 rename_i hcond
 obtain⟨_,hlc,_⟩:=hcond
 rw[hc] at ht
 simp only[if_true,Option.bind_eq_some_iff,Option.map_eq_some_iff] at ht
 obtain⟨elems,hel,rest,hrest,hdd⟩:=ht
 have l1:=Nw hel
 have l2:=Nw hrest
 simp only[List.length_range] at l1 l2
 simp only[Prod.mk.injEq] at hdd
 obtain⟨rfl,rfl⟩:=hdd
 have hcap:cap<capV:=by
  have:=hw ((elems.length+rest.length) * P.bytesOf e) (by simp [DataW.weights,hu])
  have h1:elems.length+rest.length=cap:=by omega
  rw[h1] at this
  have h2:cap≤cap * P.bytesOf e:=Nat.le_mul_of_pos_right _ hb
  have h3:reachBytes<capV:=by decide
  omega
 refine⟨hlc,hcap,fun k hk=>?_⟩
 obtain⟨y,hy,hy2⟩:=mapM_get hel k k (List.getElem?_range hk)
 simp only[Option.bind_eq_some_iff] at hy
 obtain⟨cs,hc1,hc2⟩:=hy
 refine⟨cs,y,hc1,hc2,fun n hn=>hw n ?_⟩
 simp only[DataW.weights,hu]
 exact List.mem_cons_of_mem _ (List.mem_append_left _ (weights_in (List.mem_map.2 ⟨y,List.mem_of_getElem? hy2,rfl⟩) hn))
theorem cell_there{w:World}{a:Addr}{v:Value}(h:w.cell? a=some v):a.block<w.heap.size∧a.spot=none:=by
 obtain⟨arr,e,fr,h1,_⟩:=Fj h
 refine⟨(Array.getElem?_eq_some_iff.1 h1).1,?_⟩
 unfold World.cell? at h
 rw[h1] at h
 dsimp only at h
 split at h
 ·cases h
 ·rename_i hs
  cases hq:a.spot with
  | none=>rfl
  | some _=>rw[hq] at hs; simp at hs
theorem cells_in{W:World}{m:Nat}{H:Hp}(hH:∀ i,H.get i=pK m W i){b o:Nat}{vs:List Value}(hne:0<vs.length)(h:∀(k:Nat) (v:Value),vs[k]?=some v→W.cell? ⟨b,o+k,none⟩=some v∧VR (qZ m) v v):aW H b o vs:=by
 obtain⟨v0,hv0⟩:∃ v,vs[0]?=some v:=⟨vs[0],List.getElem?_eq_getElem hne⟩
 obtain⟨arr,el,fr,hbk,_⟩:=Fj (h 0 v0 hv0).1
 simp only at hbk
 refine⟨_,arr.toList.map (hole (qZ m)),by rw[hH]; unfold pK; rw[hbk],rfl,fun k v hv=>?_⟩
 obtain⟨h1,h2⟩:=h k v hv
 obtain⟨arr',el',fr',hbk',harr⟩:=Fj h1
 simp only at hbk' harr
 rw[hbk] at hbk'; cases hbk'
 rw[List.getElem?_map]
 have:arr.toList[o+k]?=some v:=by simpa using harr
 rw[this]
 simp only[Option.map_some,Option.some.injEq]
 unfold hole
 rw[if_pos h2]
theorem addr_at{a:Addr}(h:a.spot=none)(k:Nat):a.add k=⟨a.block,a.off+k,none⟩:=by
 have ha:a=⟨a.block,a.off,none⟩:=ov h
 rw[ha,Cz]
theorem qmw{m len cap:Nat}{a:Addr}(hm:a.block<m)(hc:cap<capV):VR (qZ m) (.slice (some a) len cap) (.slice (some a) len cap):=by
 simp only[VR]
 exact⟨a,cap,rfl,⟨⟨0,by unfold qZ; rw[if_pos hm]⟩,rfl,rfl⟩,.inl ⟨hc,rfl⟩⟩
theorem vr_nil{m:Nat}:VR (qZ m) (.slice none 0 0) (.slice none 0 0):=by simp only[VR]
theorem vr_int{m:Nat}{x:Int}:VR (qZ m) (.int .i64 x) (.int .i64 x):=by simp only[VR]
theorem cells3:Try.prog.cellsOf 3=1:=by kernel_rfl
theorem bytes44:1≤Try.prog.bytesOf 44:=by decide +kernel
theorem row_in{K:Type}{enc:TypeId × Value→K}{W:World}{fuel:Nat}{x:Value}{r:DataW K × List MemPlace}(ht:DataW.trod enc Try.prog W 0 (fun _=>true) true fuel 44 [x]=some r)(hw:∀ n ∈ r.1.weights Try.prog 44,n≤reachBytes) :
  ∃(m0:Nat) (xs:List Int),∀ m,m0≤m→W.heap.size≤m→VR (qZ m) x x∧∀ H,(∀ i,H.get i=pK m W i)→spec.RowR H m x xs.length xs:=by
 cases fuel with
 | zero=>simp [DataW.trod] at ht
 | succ fuel=>
  have ht0:=ht
  unfold DataW.trod at ht
  cases x with
  | slice ao len cap=>
   cases ao with
   | none=>
    simp only[Try.underlying44] at ht
    split at ht <;> simp_all
    exact⟨0,[],fun m _ _=>⟨vr_nil,fun H _=>.inl ⟨rfl,by simp,.inl ⟨rfl,rfl⟩⟩⟩⟩
   | some a=>
    obtain⟨dd,pp⟩:=r
    obtain⟨hlc,hcap,hel⟩:=slice_open Try.underlying44 cells3 bytes3 ht0 hw
    by_cases h0:len=0
    ·subst h0
     exact⟨a.block+1,[],fun m h1 _=>⟨qmw (by omega) hcap,fun H _=>.inr ⟨rfl,rfl,a,cap,rfl⟩⟩⟩
    ·have num0:∀ k,k<len→∃ x,W.cell? (a.add k)=some (.int .i64 x)∧I64 x:=fun k hk=>by
      obtain⟨cs,y,c1,c2,_⟩:=hel k hk
      obtain⟨n1,n2⟩:=Xx 5 flat3 c2
      obtain⟨m1,m2⟩:=SZ c1
      obtain⟨x,hx,hx2⟩:=n2 0 (by omega)
      have:=m2 0 (by omega)
      rw[hx,Nat.mul_one] at this
      exact⟨x,this,hx2⟩
     obtain⟨x0,hx0,_⟩:=num0 0 (by omega)
     obtain⟨hb,hs⟩:=cell_there hx0
     have hs:a.spot=none:=hs
     have hb:a.block<W.heap.size:=hb
     have num:∀ k,k<len→∃ x,W.cell? ⟨a.block,a.off+k,none⟩=some (.int .i64 x)∧I64 x:=fun k hk=>by
      obtain⟨x,q1,q2⟩:=num0 k hk
      rw[addr_at hs] at q1
      exact⟨x,q1,q2⟩
     obtain⟨xs,hx1,hx2⟩:=Nx len num
     have ha:a=⟨a.block,a.off,none⟩:=ov hs
     refine⟨0,xs,fun m _ hm=>⟨qmw (by omega) hcap,fun H hH=>.inl ⟨rfl,fun x hx=>?_,.inr ⟨a.block,a.off,cap,by rw[← ha,hx1],by omega,cells_in hH (by rw[bv]; omega) fun k v hv=>?_⟩⟩⟩⟩
     ·obtain⟨k,hk⟩:=List.getElem?_of_mem hx
      exact(hx2 k x hk).2
     ·simp only[ints,List.getElem?_map,Option.map_eq_some_iff] at hv
      obtain⟨x,hx,rfl⟩:=hv
      exact⟨(hx2 k x hx).1,vr_int⟩
  | _=>simp_all
theorem choose_fun{α:Type}(d:α){R:Nat→α→Prop}{n:Nat}(h:∀ k,k<n→∃ x,R k x):∃ f:Nat→α,∀ k,k<n→R k (f k):=
 ⟨fun k=>open Classical in if h':k<n then Classical.choose (h k h') else d,fun k hk=>by dsimp only; rw[dif_pos hk]; exact Classical.choose_spec (h k hk)⟩
theorem bound_fun(f:Nat→Nat):∀ n:Nat,∃ M,∀ k,k<n→f k≤M
 | 0=>⟨0,fun k h=>absurd h (by omega)⟩
 | n+1=>by
  obtain⟨M,h⟩:=bound_fun f n
  refine⟨max M (f n),fun k hk=>?_⟩
  by_cases e:k=n
  ·subst e; omega
  ·have:=h k (by omega); omega
theorem spread_in{K:Type}{enc:TypeId × Value→K}{W:World}{base fuel:Nat}{u:Value}{d:DataW K}{p:List MemPlace}(ht:DataW.trod enc Try.prog W 0 (fun _=>true) true fuel 59 [u]=some (d,p))(hw:∀ n ∈ d.weights Try.prog 59,n≤reachBytes)(hok:Cell.okWide Try.prog W .any base 59 u) :
  ∃(m0 len:Nat) (R:Nat→List Int) (rw_:Nat→Value),∀ m,m0≤m→W.heap.size≤m→VR (qZ m) u u∧∀ H,(∀ i,H.get i=pK m W i)→spec.SpreadJ H m u len rw_ R:=by
 cases fuel with
 | zero=>simp [DataW.trod] at ht
 | succ fuel=>
  have ht0:=ht
  unfold DataW.trod at ht
  cases u with
  | slice ao len cap=>
   cases ao with
   | none=>
    simp only[Try.underlying59] at ht
    split at ht <;> simp_all
    exact⟨0,0,fun _=>[],fun _=>.slice none 0 0,fun m _ _=>⟨vr_nil,fun H _=>⟨.inl ⟨rfl,rfl⟩,fun p hp=>absurd hp (by omega)⟩⟩⟩
   | some a=>
    simp only[Cell.okWide,Try.underlying59,Cell.ok] at hok
    obtain⟨_,_,_,hs,row,cells,hshape,_⟩:=hok
    obtain⟨hlc,hcap,hel⟩:=slice_open Try.underlying59 cells44 bytes44 ht0 hw
    have ha:a=⟨a.block,a.off,none⟩:=ov hs
    obtain⟨arr,el,fr,hbk⟩:∃ arr el fr,W.heap[a.block]?=some (.cells arr el fr):=by
     unfold World.shape? at hshape
     split at hshape
     ·rename_i h; exact⟨_,_,_,h⟩
     ·cases hshape
    have hb:a.block<W.heap.size:=(Array.getElem?_eq_some_iff.1 hbk).1
    have each:∀ k,k<len→∃ z:Value × Nat × List Int,W.cell? ⟨a.block,a.off+k,none⟩=some z.1∧∀ m,z.2.1≤m→W.heap.size≤m→VR (qZ m) z.1 z.1∧∀ H,(∀ i,H.get i=pK m W i)→spec.RowR H m z.1 z.2.2.length z.2.2:=fun k hk=>by
     obtain⟨cs,y,c1,c2,c3⟩:=hel k hk
     obtain⟨m1,m2⟩:=SZ c1
     match cs,m1 with
     | [x],_=>
      obtain⟨m0,xs,hx⟩:=row_in c2 c3
      have:=m2 0 (by omega)
      rw[Nat.mul_one,addr_at hs,Cz] at this
      exact⟨(x,m0,xs),by simpa using this,hx⟩
    obtain⟨f,hf⟩:=choose_fun (.bool true,0,[]) each
    obtain⟨M,hM⟩:=bound_fun (fun k=>(f k).2.1) len
    refine⟨M,len,fun k=>(f k).2.2,fun k=>(f k).1,fun m h1 hm=>⟨qmw (by omega) hcap,fun H hH=>⟨.inr ⟨a.block,a.off,cap,by rw[← ha],by omega,?_⟩,fun k hk=>((hf k hk).2 m (Nat.le_trans (hM k hk) h1) hm).2 H hH⟩⟩⟩
    by_cases h0:len=0
    ·subst h0
     exact⟨_,arr.toList.map (hole (qZ m)),by rw[hH]; unfold pK; rw[hbk],rfl,fun k v hv=>by simp at hv⟩
    ·refine cells_in hH (by simp; omega) fun k v hv=>?_
     rw[List.getElem?_map] at hv
     by_cases hk:k<len
     ·rw[List.getElem?_range hk] at hv
      simp only[Option.map_some,Option.some.injEq] at hv
      subst hv
      exact⟨(hf k hk).1,((hf k hk).2 m (Nat.le_trans (hM k hk) h1) hm).1⟩
     ·rw[List.getElem?_eq_none (by simp; omega)] at hv; simp at hv
  | _=>simp_all
theorem cells_one59{W:World}{base:Nat}{w:Value}(hok:Cell.okWide Try.prog W .any base 59 w):w.cells.toList=[w]:=by
 cases w with
 | slice a l c=>rfl
 | _=>simp only[Cell.okWide,Try.underlying59,Cell.ok] at hok
set_option maxRecDepth 100000 in
theorem walk(hs:Says 6){K:Type}{enc:TypeId × Value→K}{W:World}{base:Nat}{v w x:Value}{d d' d2:DataW K}{p p' p2:List MemPlace}
  (hok:Value.okWide Try.prog W .any base 26 v) (ht:DataW.Trod enc Try.prog W 0 (fun _=>true) true 26 v d p) (hw:∀ n ∈ d.weights Try.prog 26,n≤reachBytes)
  (hok':Value.okWide Try.prog W .any base 44 w) (ht':DataW.Trod enc Try.prog W 0 (fun _=>true) true 44 w d' p') (hw':∀ n ∈ d'.weights Try.prog 44,n≤reachBytes)
  (hok2:Value.okWide Try.prog W .any base 59 x) (ht2:DataW.Trod enc Try.prog W 0 (fun _=>true) true 59 x d2 p2) (hw2:∀ n ∈ d2.weights Try.prog 59,n≤reachBytes) :
  Calls Try.prog 6 #[v,w,x] W fun e w'=>e=.returned (.bool true)∧Grown W w'∧∀ b,b<W.heap.size→w'.heap[b]?=W.heap[b]?:=by
 have hc:Cell.okWide Try.prog W .any base 44 w:=by
  unfold Value.okWide at hok'
  rw[Try.underlying44] at hok'
  exact hok'
 have hc2:Cell.okWide Try.prog W .any base 59 x:=by
  unfold Value.okWide at hok2
  rw[Try.underlying59] at hok2
  exact hok2
 obtain⟨fuel2,ht2⟩:=ht2
 rw[cells_one59 hc2] at ht2
 obtain⟨m0,nv,R,rw_,hx⟩:=spread_in ht2 hw2 hc2
 have hm:W.heap.size≤max m0 W.heap.size:=by omega
 obtain⟨vx,hx⟩:=hx (max m0 W.heap.size) (by omega) hm
 obtain⟨H,hH,hI⟩:=I.startN W hm
 obtain⟨np,nj,nk,ps,js,ks,hg,hv⟩:=grove_inN hm hH hok ht hw
 obtain⟨fuel,ht'⟩:=ht'
 rw[cells_one hc] at ht'
 obtain⟨nl,ls,hsl,hv'⟩:=PY hm hH Try.underlying44 flat3 (by omega) bytes3 ht' hw' hc
 obtain⟨l,H',n',e⟩:=hs H (max m0 W.heap.size) v w x np nj nk ps js ks nl ls nv rw_ R hg (list_in hH hc hsl) (hx H hH)
 refine(calls_of_tower_open G.tab_ok hI (VRL.cons hv (VRL.cons hv' (VRL.cons vx VRL.nil))) e rfl).mono ?_
 rintro en w' ⟨h1,h2,h3,h4,h5,h6,h7⟩
 exact⟨h1,grown_of h2 h4 h5 h6 h7,h6⟩
theorem trodAll_three{H:Type}{enc:TypeId × Value→H}{P:Program}{w:World}{base:Nat}{spare:Nat→Bool}{held:Bool}{t t' t2:TypeId}{args:Array Value}{ds:List (DataW H)}{ps:List MemPlace}(h:DataW.TrodAll enc P w base spare held [t,t',t2] args.toList ds ps) :
  ∃ v v' v2 d d' d2 p p' p2,args=#[v,v',v2]∧ds=[d,d',d2]∧ps=p++p'++p2∧DataW.Trod enc P w base spare held t v d p∧DataW.Trod enc P w base spare held t' v' d' p'∧DataW.Trod enc P w base spare held t2 v2 d2 p2:=by
 obtain⟨v,vs,d,ds',p,q,hargs,rfl,rfl,hd,hrest⟩:=trodAll_cons h
 obtain⟨v',vs',d',ds'',p',q',rfl,rfl,rfl,hd',hrest'⟩:=trodAll_cons hrest
 obtain⟨v2,vs2,d2,ds2,p2,q2,rfl,rfl,rfl,hd2,hrest2⟩:=trodAll_cons hrest'
 obtain⟨rfl,rfl,rfl⟩:=trodAll_nil hrest2
 exact⟨v,v',v2,d,d',d2,p,p',p2,by cases args; simp_all,rfl,by simp,hd,hd',hd2⟩
set_option maxRecDepth 100000 in
theorem lifted(hs:Says 6)(os:Os)(started:os.Started)(H:Type)(enc:TypeId × Value→H) :
  ReturnsInHanded {} Try.checked os 6 .any (Rows.nestShowsSpec.pre6 enc Try.prog Try.f6 Rows.nestShowsRow.domain false) (Rows.nestShowsSpec.post enc Try.prog Try.f6 false true false false):=by
 refine returnsInHanded_of_change_sized (C:=Try.checked) own started (by kernel_rfl) Try.func6
  (ChangeSpec.witness6 (enc:=enc) (C:=Try.checked) false ⟨#[],#[.agg #[.slice none 0 0,.slice none 0 0,.slice none 0 0],.slice none 0 0,.slice none 0 0],[]⟩ 8 (by kernel_rfl) (by kernel_rfl) (by kernel_rfl) (by kernel_rfl)) ?_
 intro W base args ds gs before hval0 hW hcnd hsz _
 have hval:∀(j:Nat) t v,Try.f6.params[j]?=some t→args[j]?=some v→Value.okWide Try.prog W .any base t v:=hval0
 have hW':=hW
 obtain⟨p,q,hA0,hV,rfl,hfz,hnd⟩:=hW
 have hA:DataW.TrodAll enc Try.prog W 0 (fun _=>true) true Try.f6.params.toList args.toList ds p:=hA0
 have hAk:=hA
 rw[Try.params6] at hA hval
 obtain⟨v,w,x,d,d',d2,p0,p1,p2,rfl,rfl,rfl,h0,h1,h2⟩:=trodAll_three hA
 obtain⟨rfl,rfl⟩:=trodVars_none hV
 simp only[List.append_nil] at hW' hAk
 have hall:∀ n ∈ d.weights Try.prog 26++(d'.weights Try.prog 44++(d2.weights Try.prog 59++[])),n≤reachBytes:=by
  intro n hn
  have hm:n ∈ DataW.weightsEach Try.checked.prog (Try.f6.params.toList++DataSpec.varTypes Try.checked.prog Rows.nestShowsSpec.plain) ([d,d',d2]++[]):=by
   rw[Try.params6]
   exact hn
  have:=List.all_eq_true.1 hsz n hm
  simpa using this
 refine(walk hs (hval 0 26 v rfl rfl) h0 (fun n hn=>hall n (List.mem_append_left _ hn)) (hval 1 44 w rfl rfl) h1 (fun n hn=>hall n (List.mem_append_right _ (List.mem_append_left _ hn))) (hval 2 59 x rfl rfl) h2 (fun n hn=>hall n (List.mem_append_right _ (List.mem_append_right _ (List.mem_append_left _ hn))))).mono fun e W' ⟨he,hg,hk⟩=>?_
 subst he
 exact⟨_,rfl,post_of_same (pv:=[]) hW' (fun _ _ _=>(trodAll_cons_mk (shut_bool Try.underlying4 _) trodAll_mk0))
  (fun sp hsp=>DataW.TrodAll.respare kids full (by rw[Try.params6]; decide +kernel) (carryAll hk hAk) hsp) (fun _ _=>rfl) (by simp)
  (hg.frame _) hg.2.1 (ok_one (by kernel_rfl) rfl (okWide_bool_mk Try.underlying4 _))⟩
theorem over(hs:Says 6):Rows.nestShowsRow.holds Try.pinned (OpenSpec.ofChange Rows.nestShowsSpec):=
 OpenClaim.holds_of_wide 6 Try.f6 rfl rfl rfl rfl rfl rfl rfl ⟨rfl,rfl,rfl,rfl,rfl⟩ rfl rfl rfl rfl rfl (by kernel_rfl) Try.func6 (by kernel_rfl)
  (of_decide_eq_true (by kernel_rfl)) (by unfold Func.isWrapper; first | (rw[if_pos (by decide +kernel)]; kernel_rfl) | (rw[if_neg (by decide +kernel)]; exact⟨rfl,rfl⟩))
  (fun os started H enc _=>lifted hs os started H enc)
theorem said(hs:Says 6):Rows.NestShowsSaid:=over hs
end Go.Proofs.Ytmjbdjnnojfhkaa.nestShows
end
section
namespace Go.Proofs.Ytmjbdjnnojfhkaa.spec
open Go Go.Ev Go.Proofs.Ytmjbdjnnojfhkaa.nestFits Go.Proofs.Ytmjbdjnnojfhkaa.G
set_option maxRecDepth 100000
theorem shows_says:nestShows.Says 6:=by
 intro H n v w u np nj nk ps js ks nl ls nv rw_ R hg hw hu
 obtain⟨H',n',e⟩:=shows_law hg hw hu
 exact⟨60+1,H',n',(call6 v w u H n).trans e⟩
theorem proved:Rows.NestShowsSaid:=nestShows.said shows_says
#print axioms proved
end Go.Proofs.Ytmjbdjnnojfhkaa.spec
end
