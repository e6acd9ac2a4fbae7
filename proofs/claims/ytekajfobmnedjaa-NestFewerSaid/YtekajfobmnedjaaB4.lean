/- No right layout has fewer nests than the best one, nor as many and is lexicographically before it; no nest of the best layout is spare; a right layout has at least as many nests as any pads that are apart: whatever the grove, the list and the bits. -/
import Derived.Test.YtekajfobmnedjaaB3
section
namespace Go.Proofs.Ytekajfobmnedjaa.nestFewer
open Go.ChangeShapes Go.WideShapes Go.ChangeAt Go.RowKit Go.Ev Go.Proofs.Ytekajfobmnedjaa.nestFits Go.Proofs.Ytekajfobmnedjaa.nestBounds
def Says (f:Nat):Prop:=∀(H:Hp) (n:Nat) (v w:Value) np nj nk ps js ks nl ls (a:Nat),GroveI H n v np nj nk ps js ks→spec.ListR H n w nl ls→a<65536 →
 ∃ l H' n',(calE G.P G.A (G.KK+1) G.tab.get l).call f [v,w,.int .u16 (a:Int)] H n=some (.bool true,H',n')
set_option maxRecDepth 100000 in
theorem word_in {K:Type} {enc:TypeId × Value→K} {W:World} {base:Nat} {w:Value} {d:DataW K} {p:List MemPlace}
  (hok:Value.okWide Try.prog W .any base 97 w) (ht:DataW.Trod enc Try.prog W 0 (fun _=>true) true 97 w d p):∃ a:Nat,w=.int .u16 (a:Int)∧a<65536∧VR (JJ W) w w:=by
 obtain⟨a,rfl⟩:=okWide_int Try.underlying97 hok
 obtain⟨fuel,ht⟩:=ht
 obtain⟨m,e1,e2,e3⟩:=DataW.trod_int Try.underlying97 ht
 have e:m=a:=by
  have:([.int .u16 a]:List Value)=[.int .u16 m]:=e1
  simpa using this.symm
 subst e
 have h0:IntKind.u16.min=0:=by decide
 have h1:IntKind.u16.max=65535:=by decide
 unfold Lit.wf at e3
 rw[Bool.and_eq_true,decide_eq_true_iff,decide_eq_true_iff,h0,h1] at e3
 obtain⟨k,hk⟩:∃ k:Nat,m=(k:Int):=⟨m.toNat,by omega⟩
 subst hk
 exact⟨k,rfl,by omega,by simp only[VR]⟩
set_option maxRecDepth 100000 in
theorem walk (hs:Says 12) {K:Type} {enc:TypeId × Value→K} {W:World} {base:Nat} {v w x:Value} {d d' d2:DataW K} {p p' p2:List MemPlace}
  (hok:Value.okWide Try.prog W .any base 26 v) (ht:DataW.Trod enc Try.prog W 0 (fun _=>true) true 26 v d p) (hw:∀ n ∈ d.weights Try.prog 26,n≤reachBytes)
  (hok':Value.okWide Try.prog W .any base 44 w) (ht':DataW.Trod enc Try.prog W 0 (fun _=>true) true 44 w d' p') (hw':∀ n ∈ d'.weights Try.prog 44,n≤reachBytes)
  (hok2:Value.okWide Try.prog W .any base 97 x) (ht2:DataW.Trod enc Try.prog W 0 (fun _=>true) true 97 x d2 p2) :
  Calls Try.prog 12 #[v,w,x] W fun e w'=>e=.returned (.bool true)∧Grown W w'∧∀ b,b<W.heap.size→w'.heap[b]?=W.heap[b]?:=by
 obtain⟨H,hH,hI⟩:=I.start W
 obtain⟨np,nj,nk,ps,js,ks,hg,hv⟩:=grove_in hH hok ht hw
 have hc:Cell.okWide Try.prog W .any base 44 w:=by
  unfold Value.okWide at hok'
  rw[Try.underlying44] at hok'
  exact hok'
 obtain⟨fuel,ht'⟩:=ht'
 rw[cells_one hc] at ht'
 obtain⟨nl,ls,hsl,hv'⟩:=QZ hH Try.underlying44 flat3 (by omega) bytes3 ht' hw' hc
 obtain⟨a,rfl,a1,va⟩:=word_in hok2 ht2
 obtain⟨l,H',n',e⟩:=hs H W.heap.size v w np nj nk ps js ks nl ls a hg (list_in hH hc hsl) a1
 refine(calls_of_tower_open G.tab_ok hI (VRL.cons hv (VRL.cons hv' (VRL.cons va VRL.nil))) e rfl).mono ?_
 rintro en w' ⟨h1,h2,h3,h4,h5,h6,h7⟩
 exact⟨h1,grown_of h2 h4 h5 h6 h7,h6⟩
theorem trodAll_three {H:Type} {enc:TypeId × Value→H} {P:Program} {w:World} {base:Nat} {spare:Nat→Bool} {held:Bool} {t t' t2:TypeId} {args:Array Value} {ds:List (DataW H)} {ps:List MemPlace} (h:DataW.TrodAll enc P w base spare held [t,t',t2] args.toList ds ps) :
  ∃ v v' v2 d d' d2 p p' p2,args=#[v,v',v2]∧ds=[d,d',d2]∧ps=p++p'++p2∧DataW.Trod enc P w base spare held t v d p∧DataW.Trod enc P w base spare held t' v' d' p'∧DataW.Trod enc P w base spare held t2 v2 d2 p2:=by
 obtain⟨v,vs,d,ds',p,q,hargs,rfl,rfl,hd,hrest⟩:=trodAll_cons h
 obtain⟨v',vs',d',ds'',p',q',rfl,rfl,rfl,hd',hrest'⟩:=trodAll_cons hrest
 obtain⟨v2,vs2,d2,ds2,p2,q2,rfl,rfl,rfl,hd2,hrest2⟩:=trodAll_cons hrest'
 obtain⟨rfl,rfl,rfl⟩:=trodAll_nil hrest2
 exact⟨v,v',v2,d,d',d2,p,p',p2,by cases args; simp_all,rfl,by simp,hd,hd',hd2⟩
set_option maxRecDepth 100000 in
theorem lifted (hs:Says 12) (os:Os) (started:os.Started) (H:Type) (enc:TypeId × Value→H) :
  ReturnsInHanded {} Try.checked os 12 .any (Rows.nestFewerSpec.pre6 enc Try.prog Try.f12 Rows.nestFewerRow.domain false) (Rows.nestFewerSpec.post enc Try.prog Try.f12 false true false false):=by
 refine returnsInHanded_of_change_sized (C:=Try.checked) own started (by kernel_rfl) Try.func12
  (ChangeSpec.witness6 (enc:=enc) (C:=Try.checked) false ⟨#[],#[.agg #[.slice none 0 0,.slice none 0 0,.slice none 0 0],.slice none 0 0,.int .u16 0],[]⟩ 8 (by kernel_rfl) (by kernel_rfl) (by kernel_rfl) (by kernel_rfl)) ?_
 intro W base args ds gs before hval0 hW hcnd hsz _
 have hval:∀(j:Nat) t v,Try.f12.params[j]?=some t→args[j]?=some v→Value.okWide Try.prog W .any base t v:=hval0
 have hW':=hW
 obtain⟨p,q,hA0,hV,rfl,hfz,hnd⟩:=hW
 have hA:DataW.TrodAll enc Try.prog W 0 (fun _=>true) true Try.f12.params.toList args.toList ds p:=hA0
 have hAk:=hA
 rw[Try.params12] at hA hval
 obtain⟨v,w,x,d,d',d2,p0,p1,p2,rfl,rfl,rfl,h0,h1,h2⟩:=trodAll_three hA
 obtain⟨rfl,rfl⟩:=trodVars_none hV
 simp only[List.append_nil] at hW' hAk
 have hall:∀ n ∈ d.weights Try.prog 26++(d'.weights Try.prog 44++(d2.weights Try.prog 97++[])),n≤reachBytes:=by
  intro n hn
  have hm:n ∈ DataW.weightsEach Try.checked.prog (Try.f12.params.toList++DataSpec.varTypes Try.checked.prog Rows.nestFewerSpec.plain) ([d,d',d2]++[]):=by
   rw[Try.params12]
   exact hn
  have:=List.all_eq_true.1 hsz n hm
  simpa using this
 refine(walk hs (hval 0 26 v rfl rfl) h0 (fun n hn=>hall n (List.mem_append_left _ hn)) (hval 1 44 w rfl rfl) h1 (fun n hn=>hall n (List.mem_append_right _ (List.mem_append_left _ hn))) (hval 2 97 x rfl rfl) h2).mono fun e W' ⟨he,hg,hk⟩=>?_
 subst he
 exact⟨_,rfl,post_of_same (pv:=[]) hW' (fun _ _ _=>(trodAll_cons_mk (shut_bool Try.underlying4 _) trodAll_mk0))
  (fun sp hsp=>DataW.TrodAll.respare kids full (by rw[Try.params12]; decide +kernel) (carryAll hk hAk) hsp) (fun _ _=>rfl) (by simp)
  (hg.frame _) hg.2.1 (ok_one (by kernel_rfl) rfl (okWide_bool_mk Try.underlying4 _))⟩
theorem over (hs:Says 12):Rows.nestFewerRow.holds Try.pinned (OpenSpec.ofChange Rows.nestFewerSpec):=
 OpenClaim.holds_of_wide 12 Try.f12 rfl rfl rfl rfl rfl rfl rfl ⟨rfl,rfl,rfl,rfl,rfl⟩ rfl rfl rfl rfl rfl (by kernel_rfl) Try.func12 (by kernel_rfl)
  (of_decide_eq_true (by kernel_rfl)) (by unfold Func.isWrapper; first | (rw[if_pos (by decide +kernel)]; kernel_rfl) | (rw[if_neg (by decide +kernel)]; exact⟨rfl,rfl⟩))
  (fun os started H enc _=>lifted hs os started H enc)
theorem said (hs:Says 12):Rows.NestFewerSaid:=over hs
end Go.Proofs.Ytekajfobmnedjaa.nestFewer
end
section
namespace Go.Proofs.Ytekajfobmnedjaa.spec
open Go.Ev Go.Proofs.Ytekajfobmnedjaa.nestFits Go.Proofs.Ytekajfobmnedjaa.G
set_option maxRecDepth 1000000
noncomputable def isB (c:Bool) (r:Res):Bool:=match r with
 | some (.bool b,_,_)=>b == c
 | _=>false
theorem isB_eq {c:Bool} {r:Res} (h:isB c r=true):∃ H n,r=some (.bool c,H,n):=by
 unfold isB at h
 split at h
 ·rename_i b H n
  have h:=eq_of_beq h
  subst h
  exact⟨H,n,rfl⟩
 ·cases h
theorem run_awake:isB true ((cal 60).call 16 [] .nil 0)=true:=by kernel_rfl
theorem flat16:fj P 16=true:=by kernel_rfl
theorem awake_call {ρ:Type} (H:Hp) (n:Nat) (k:Value→Hp→Nat→Option ρ):aW P (cal 60) 16 [] H n k=k (.bool true) H n:=by
 obtain⟨H',n',e⟩:=isB_eq run_awake
 exact gj flat16 rfl e rfl
end Go.Proofs.Ytekajfobmnedjaa.spec
end
section
namespace Go.Proofs.Ytekajfobmnedjaa.spec
open Go Go.Ev Go.Proofs.Ytekajfobmnedjaa.nestFits Go.Proofs.Ytekajfobmnedjaa.G
set_option maxRecDepth 100000
theorem rises_len {np:Nat}:∀ {t:List Nat} {a:Nat},pk a t→(∀ x ∈ t,x<np)→t=[]∨a+t.length≤np
 | [],_,_,_=>.inl rfl
 | x::t,a,h,hx=>by
  refine .inr ?_
  have h0:=hx x List.mem_cons_self
  have h1:=h.1
  rcases rises_len h.2 fun y hy=>hx y (List.mem_cons_of_mem _ hy) with e | e
  ·subst e; simp; omega
  ·simp only[List.length_cons]; omega
noncomputable def Yw (ps js ks:List Int) (nj np nk:Nat):Int:=match xX ps js ks nj np nk with
 | some M=>cntI M 8
 | none=>0
noncomputable def Yx (ps js ks:List Int) (nj np nk:Nat):Int:=match xX ps js ks nj np nk with
 | some _=>0
 | none=>10
theorem fewer_law {np nj nk nl bits:Nat} {ps js ks ls:List Int} {H:Hp} {n:Nat} {v w:Value} (hg:GroveI H n v np nj nk ps js ks) (hw:ListR H n w nl ls) (hbits:bits<65536):∃ H' n',C12_0 (cal 60) KK v w (.int .u16 (bits:Int)) H n=some (.bool true,H',n'):=by
 unfold C12_0
 have ap:=proofL_spec (ap:=apB js ps nj np) (np:=np) apB_pre apB_nil
 refine fewer_core (cal 60) (F:=dj np nj nk ps js ks) (E:=Yx ps js ks nj np nk) (cnt:=Yw ps js ks nj np nk) (O:=(xX ps js ks nj np nk).map fun M=>M.take np) (A:=DK (apB js ps nj np) np)
  (fun H n k=>awake_call H n k) (fun H n v h1 h2=>thin_call 59 h1 h2.len_eq) (fun H n v h=>lawfault_call 56 h)
  (fun ht H n v h=>grove_call 58 h (by have:=ht.1; omega) (by have:=ht.2.1; omega) (by have:=ht.2.2.1; omega))
  (fun H n u len xs h hl=>list_call 59 h (by omega)) ?_ ?_ ?_ ?_ ?_ ?_ ?_
  (fun H n u len xs h hl=>PJ 59 h (by omega))
  (fun he H n u v us bs h1 h2=>less_call 58 h1 h2 (by have:=(nJ he).np8; omega))
  (fun he=>(nJ he).np8) ?_ (fun he=>⟨_,rfl,ap.1⟩) ?_ ?_ ?_ hbits hg hw
 ·intro he H n v h
  have good:=nJ he
  have np8:=good.np8
  have nj16:=good.nj16
  have nk3:=good.nk3
  obtain⟨s1,s2,s3⟩:=Best_spec 43 h (by omega) (by omega) (by omega)
  unfold Yw Yx
  cases hc:xX ps js ks nj np nk with
  | none=>
   obtain⟨H',n',q1,q2,q3⟩:=s2 he hc
   exact⟨_,H',n',fun k=>by rw[Best_call 59,q1]; rfl,q2,q3,rfl⟩
  | some M=>
   obtain⟨b1,b2,b3,b4,b5,b6,b7⟩:=Ax np8 good.kinds hc
   obtain⟨u,H',n',q1,q2,q3,q4⟩:=s3 he M hc
   have hl:=q4.list (fun x hx=>kinds_I64 b1 (by obtain⟨i,_,g,_⟩:=Pk np8 good.kinds hc; exact g.kindsIn) nk3 x (List.mem_of_mem_take hx))
   rw[b2] at hl
   exact⟨u,H',n',fun k=>by rw[Best_call 59,q1]; rfl,q2,q3,hl⟩
 ·intro he H n v u len xs a h1 h2
  have good:=nJ he
  exact ProveLayout_call 52 h1 h2 (by have:=good.np8; omega) (by have:=good.nj16; omega) (by have:=good.nk3; omega) a
 ·intro he H n v h
  have good:=nJ he
  obtain⟨w',H',n',q1,q2,q3,q4⟩:=(Apart_spec 43 h (by have:=good.np8; omega) (by have:=good.nj16; omega) (by have:=good.nk3; omega)).2 he
  exact⟨w',H',n',fun k=>by rw[Apart_call 59,q1]; rfl,q2,q3,q4.list fun p hp=>by have:=ap.1.2.1 p hp; have:=good.np8; omega⟩
 ·intro H n
  obtain⟨u,H',n',q1,q2,q3,q4⟩:=Bits_call (ρ:=Value×Hp×Nat) 59 (show bits % 256<256 by omega) H n
  have hlen:(WV (bits % 256)).length≤8:=by
   have:=List.length_filter_le (bitB (bits % 256)) (List.range 8)
   rw[List.length_range] at this
   exact this
  exact⟨u,H',n',WV (bits % 256),q1,q2,q3,by omega,q4.list fun p hp=>by have:=List.mem_range.1 (List.mem_filter.1 hp).1; omega⟩
 ·intro he H n v u len xs h1 h2 hl
  have good:=nJ he
  obtain⟨r,H',n',q0,q1,q2,q3⟩:=ProveApart_call (ρ:=Value×Hp×Nat) 53 h1 h2 (by have:=good.np8; omega) (by have:=good.nj16; omega) (by have:=good.nk3; omega) (by omega)
  exact⟨r,H',n',q0.trans ⟨fun h=>h.2,fun h=>⟨he,h⟩⟩,q1,q2,q3⟩
 ·intro he B hB H n v u h1 h2
  have good:=nJ he
  have np8:=good.np8
  cases hc:xX ps js ks nj np nk with
  | none=>rw[hc] at hB; cases hB
  | some M=>
   rw[hc] at hB
   cases hB
   obtain⟨b1,b2,b3,b4,b5,b6,b7⟩:=Ax np8 good.kinds hc
   obtain⟨sv,H',n',q1,q2,q3,q4⟩:=(Spare_spec 52 h1 h2 (by omega) (by have:=good.nj16; omega) (by have:=good.nk3; omega)).2 (placed_of he b4)
   rw[b3,best_no_spare np8 good.kinds hc] at q4
   exact⟨sv,H',n',fun k=>by rw[Spare_call,q1]; rfl,q2,q3,q4⟩
 ·intro he B hB H n v u h1 h2
  have good:=nJ he
  have np8:=good.np8
  cases hc:xX ps js ks nj np nk with
  | none=>rw[hc] at hB; cases hB
  | some M=>
   rw[hc] at hB
   cases hB
   obtain⟨b1,b2,b3,b4,b5,b6,b7⟩:=Ax np8 good.kinds hc
   obtain⟨r,H',n',q0,q1,q2,q3⟩:=isLayout_call (ρ:=Value×Hp×Nat) 55 good h1 h2
   have:r=true:=q0.2 ⟨rfl,b4⟩
   subst this
   exact⟨H',n',q1,q2,q3⟩
 ·intro he
  have np8:=(nJ he).np8
  rcases rises_len ap.1.1 ap.1.2.1 with e | e
  ·rw[e]; simp
  ·omega
 ·rintro he L ⟨t,ht,h⟩
  rw[Ux ht]
  exact ap.2.1 t h
 ·intro he hO
  have good:=nJ he
  cases hc:xX ps js ks nj np nk with
  | some M=>rw[hc] at hO; cases hO
  | none=>
   refine⟨by unfold Yx; rw[hc],?_⟩
   rintro⟨h1,h2,_⟩
   obtain⟨e,hok⟩:=placed_ok h1
   subst e
   exact bestL_not good.np8 good.kinds hc ls hw.1 hok h2
 ·intro he B hB
  have good:=nJ he
  have np8:=good.np8
  cases hc:xX ps js ks nj np nk with
  | none=>rw[hc] at hB; cases hB
  | some M=>
   rw[hc] at hB
   cases hB
   obtain⟨b1,b2,b3,b4,b5,b6,b7⟩:=Ax np8 good.kinds hc
   have ec:Yw ps js ks nj np nk=cntI M 8:=by unfold Yw; rw[hc]
   have e8:cntI M 8≤8:=by
    have:=Yv (L:=M) (p:=0) (d:=8)
    rw[← MZ]
    omega
   refine⟨by unfold Yx; rw[hc],by rw[ec]; exact b6,⟨placed_of he b4,by rw[b3]; exact b5,by rw[b3,ec]; exact Int.le_refl _⟩,?_,?_,by rw[ec]; exact e8,?_⟩
   ·rintro⟨_,_,h⟩
    rw[b3,ec] at h
    omega
   ·rw[ec,b6]
    exact apart_nests good b2 b4 (by rw[b3]; exact b5) (fun p hp=>good.need hp) ap.1.2.1 ap.1.2.2
   ·rintro⟨h1,h2,_⟩
    obtain⟨e,hok⟩:=placed_ok h1
    subst e
    exact⟨rfl,less_not (b7 ls hw.1 hok h2),apart_nests good hw.1 hok h2 (fun p hp=>good.need hp) ap.1.2.1 ap.1.2.2⟩
theorem call12 (v w x:Value) (H:Hp) (n:Nat):(cal (60+1)).call 12 [v,w,x] H n=C12_0 (cal 60) KK v w x H n:=by kernel_rfl
theorem fewer_says:nestFewer.Says 12:=by
 intro H n v w np nj nk ps js ks nl ls a hg hw ha
 obtain⟨H',n',e⟩:=fewer_law hg hw ha
 exact⟨60+1,H',n',(call12 v w _ H n).trans e⟩
theorem proved:Rows.NestFewerSaid:=nestFewer.said fewer_says
#print axioms proved
end Go.Proofs.Ytekajfobmnedjaa.spec
end
