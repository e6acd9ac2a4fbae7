/- If a layout is right, Show returns a spread; if Show returns none, some pad can be missed, or some can be overfull: whatever the grove and the layout. -/
import Derived.Test.YtndkmmelelchcaaB3
section
namespace Go.Proofs.Ytndkmmelelchcaa.spec
open Go Go.Ev Go.Proofs.Ytndkmmelelchcaa.nestFits Go.Proofs.Ytndkmmelelchcaa.G
set_option maxRecDepth 100000
theorem good_law{np nj nk nl:Nat}{ps js ks ls:List Int}{H:Hp}{n:Nat}{v w:Value}(hg:GroveI H n v np nj nk ps js ks)(hw:ListR H n w nl ls):∃ H' n',C14_0 (cal 60) KK v w H n=some (.bool true,H',n'):=by
 have hjs:js.length=nj * 2:=by obtain⟨_,_,_,_,_,h2,_⟩:=hg.eq; exact h2.1
 have hls:ls.length=nl:=hw.1
 unfold C14_0
 exact good_core (cal 60) (Rd:=thin np nj nk nl∧eY np nj nk nl ps js ks ls=0) (fun H n k=>awake_call H n k) (fun H n v h1 h2=>ready_call 53 h1 h2)
  (fun rd H n v h=>by
   obtain⟨l1,l2,l3,_⟩:=rd.1
   exact grove_call 58 h (by omega) (by omega) (by omega))
  (fun rd H n h=>list_call 59 h (by have:=rd.1.2.2.2; omega))
  (fun rd H n v u h1 h2=>by
   obtain⟨l1,l2,l3,_⟩:=rd.1
   obtain⟨r,H',n',e,e1,e2,e3⟩:=(Show_spec 34 h1 h2 (by omega) (by omega) (by omega) hjs).2 rd.2
   exact⟨r,H',n',fun k=>by rw[Show_call 59,e]; rfl,e1,e2,e3⟩)
  (fun rd H n v u h1 h2=>by
   obtain⟨l1,l2,l3,_⟩:=rd.1
   obtain⟨good,hnl,hok⟩:=DX rd.2
   subst hnl
   obtain⟨X,hX,u4,u5,H',n',e,e1,e2,e3,e4⟩:=(Faults_spec 52 h1 h2 (by omega) (by omega) (by omega)).2 rd.2
   have s4:=(tW (DV X ps) nl (by omega)).1
   have s5:=(tW (DW X ps) nl (by omega)).1
   have np8:=good.np8
   refine⟨u4,u5,_,_,_,_,H',n',fun k=>by rw[Faults_call 52,e]; rfl,e1,e2,e3,e4,by omega,by omega,fun hc=>?_⟩
   exact fault_some hX np8 fun hr=>right_no_cut (UQ good hjs hls hok) (Cv good hls hok).1 (CX hls np8) hr hc)
  (fun rd H n v u t rw_ m2 h1 h2 h3 h4 h5=>by
   obtain⟨l1,l2,l3,_⟩:=rd.1
   obtain⟨good,hnl,hok⟩:=DX rd.2
   subst hnl
   obtain⟨p1,p2,_⟩:=sent_good (UQ good hjs hls hok) (Cv good hls hok).1 (fun p hp=>laid_nest hls hp) h5
   obtain⟨r,H',n',r0,r1,r2,r3⟩:=ProveSpread_call (ρ:=Value × Hp × Nat) 52 h1 h2 h3 (by omega) (by omega) (by omega) h4
   have:r=true:=r0.2 ⟨rd.2,rfl,p1,p2⟩
   subst this
   exact⟨H',n',r1,r2,r3⟩)
  (fun rd H n v t rw_ m2 h1 h3 h4 h5=>by
   obtain⟨l1,l2,l3,_⟩:=rd.1
   obtain⟨good,hnl,hok⟩:=DX rd.2
   subst hnl
   obtain⟨_,p2,p3⟩:=sent_good (UQ good hjs hls hok) (Cv good hls hok).1 (fun p hp=>laid_nest hls hp) h5
   obtain⟨r,H',n',r0,r1,r2,r3⟩:=isGood_call (ρ:=Value × Hp × Nat) 58 h1 h3 p3 (by omega) h4
   have:r=true:=r0.2 p2
   subst this
   exact⟨H',n',r1,r2,r3⟩) hg hw
theorem call14(v w:Value)(H:Hp)(n:Nat):(cal (60+1)).call 14 [v,w] H n=C14_0 (cal 60) KK v w H n:=by kernel_rfl
theorem good_says:nestGood.Says 14:=by
 intro H n v w np nj nk ps js ks nl ls hg hw
 obtain⟨H',n',e⟩:=good_law hg hw
 exact⟨60+1,H',n',(call14 v w H n).trans e⟩
theorem proved:Rows.NestGoodSaid:=nestGood.said good_says
#print axioms proved
end Go.Proofs.Ytndkmmelelchcaa.spec
end
