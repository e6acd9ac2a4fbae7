/- Texts S142 to S186. -/
import Derived.Test.YtmjbdjnnojfhkaaB2
section
namespace Go.Proofs.Ytmjbdjnnojfhkaa.spec
open Go Go.Ev Go.Proofs.Ytmjbdjnnojfhkaa.nestFits Go.Proofs.Ytmjbdjnnojfhkaa.G
set_option maxRecDepth 100000
theorem cK(f g:Nat→Int):∀ n:Nat,ay (fun i=>f i+g i) n=ay f n+ay g n
 | 0=>rfl
 | n+1=>by
  simp only[ay]
  rw[cK f g n]
  omega
theorem kV(n:Nat):ay (fun _=>0) n=0:=by
 rw[oy (i:=0) (by omega) (fun _ _ _=>rfl)]
 rfl
theorem Qz(f:Nat→Int):∀ n:Nat,ay (fun i=>- f i) n=- ay f n
 | 0=>rfl
 | n+1=>by
  simp only[ay]
  rw[Qz f n]
  omega
theorem FJ(f:Nat→Nat→Int)(m:Nat):∀ n:Nat,ay (fun u=>ay (f u) m) n=ay (fun v=>ay (fun u=>f u v) n) m
 | 0=>by
  simp only[ay]
  exact(kV m).symm
 | n+1=>by
  simp only[ay]
  rw[FJ f m n,cK]
theorem yz{f:Nat→Int}{s:Nat}:∀ {n:Nat},s<n→(∀ i,i<n→i≠s→f i=0)→ay f n=f s
 | 0,h,_=>by omega
 | n+1,h,hz=>by
  simp only[ay]
  by_cases e:s=n
  ·subst e
   rw[oy (i:=0) (by omega) (fun i _ hi=>hz i (by omega) (by omega))]
   show(0:Int)+f s=f s
   omega
  ·rw[yz (s:=s) (by omega) (fun i hi h2=>hz i (by omega) h2),hz n (by omega) (fun q=>e q.symm)]
   omega
structure Flow (N s t:Nat) (f:Nat→Nat→Int):Prop where
 anti:∀ u v,u<N→v<N→f u v=- f v u
 keep:∀ u,u<N→u≠s→u≠t→ay (f u) N=0
noncomputable def over(N:Nat)(R:Nat→Bool)(f:Nat→Nat→Int):Int:=ay (fun u=>ay (fun v=>if R u=true∧R v=false then f u v else 0) N) N
theorem inside_zero{N:Nat}{R:Nat→Bool}{f:Nat→Nat→Int}(h:∀ u v,u<N→v<N→f u v=- f v u):ay (fun u=>ay (fun v=>if R u=true∧R v=true then f u v else 0) N) N=0:=by
 have e:ay (fun u=>ay (fun v=>if R u=true∧R v=true then f u v else 0) N) N=- ay (fun u=>ay (fun v=>if R u=true∧R v=true then f u v else 0) N) N:=by
  refine(FJ (fun u v=>if R u=true∧R v=true then f u v else 0) N N).trans ?_
  rw[← Qz]
  refine bz fun v hv=>?_
  rw[← Qz]
  refine bz fun u hu=>?_
  show(if R u=true∧R v=true then f u v else 0)=- (if R v=true∧R u=true then f v u else 0)
  by_cases c:R u=true∧R v=true
  ·rw[if_pos c,if_pos ⟨c.2,c.1⟩,h u v hu hv]
  ·rw[if_neg c,if_neg (fun q=>c ⟨q.2,q.1⟩)]
   rfl
 omega
theorem Flow.worth{N s t:Nat}{R:Nat→Bool}{f:Nat→Nat→Int}(h:Flow N s t f)(hs:s<N)(Rs:R s=true)(Rt:R t=false):ay (f s) N=over N R f:=by
 have e:ay (fun u=>if R u=true then ay (f u) N else 0) N=ay (f s) N:=by
  rw[yz (s:=s) hs fun u hu hus=>?_,if_pos Rs]
  by_cases c:R u=true
  ·rw[if_pos c]
   exact h.keep u hu hus (fun q=>by rw[q,Rt] at c; cases c)
  ·rw[if_neg c]
 have z:=inside_zero (R:=R) h.anti
 rw[← e]
 unfold over
 have split:ay (fun u=>if R u=true then ay (f u) N else 0) N =
   ay (fun u=>ay (fun v=>if R u=true∧R v=true then f u v else 0) N) N+ay (fun u=>ay (fun v=>if R u=true∧R v=false then f u v else 0) N) N:=by
  rw[← cK]
  refine bz fun u _=>?_
  show(if R u=true then ay (f u) N else 0)=ay (fun v=>if R u=true∧R v=true then f u v else 0) N+ay (fun v=>if R u=true∧R v=false then f u v else 0) N
  rw[← cK]
  by_cases c:R u=true
  ·rw[if_pos c]
   refine bz fun v _=>?_
   cases d:R v with
   | true=>rw[if_pos ⟨c,rfl⟩,if_neg (fun q=>by cases q.2)]; omega
   | false=>rw[if_neg (fun q=>by cases q.2),if_pos ⟨c,rfl⟩]; omega
  ·rw[if_neg c]
   have:ay (fun _=>(0:Int)) N=ay (fun v=>(if R u=true∧R v=true then f u v else 0)+(if R u=true∧R v=false then f u v else 0)) N:=bz fun v _=>by
    rw[if_neg (fun q=>c q.1),if_neg (fun q=>c q.1)]
    rfl
   rw[← this,kV]
 rw[split,z]
 omega
abbrev Net:=Nat→Nat→Int
def wz(n:Net)(u v:Nat)(x:Int):Net:=fun a b=>if a=u∧b=v then n a b-x else if a=v∧b=u then n a b+x else n a b
def seeN(seen:Nat→Bool)(u:Nat):Nat→Bool:=fun a=>if a=u then true else seen a
structure Went where
 sent:Int
 seen:Nat→Bool
 net:Net
def zx(rec:Nat→Int→(Nat→Bool)→Net→Went)(N node:Nat)(young:Int):Nat→(Nat→Bool)→Net→Went
 | 0,seen,n=>⟨0,seen,n⟩
 | k+1,seen,n=>
  if n node (N-(k+1))=0∨seen (N-(k+1))=true then zx rec N node young k seen n
  else if 0<(rec (N-(k+1)) (min young (n node (N-(k+1)))) seen n).sent then⟨(rec (N-(k+1)) (min young (n node (N-(k+1)))) seen n).sent,(rec (N-(k+1)) (min young (n node (N-(k+1)))) seen n).seen,wz (rec (N-(k+1)) (min young (n node (N-(k+1)))) seen n).net node (N-(k+1)) (rec (N-(k+1)) (min young (n node (N-(k+1)))) seen n).sent⟩
  else zx rec N node young k (rec (N-(k+1)) (min young (n node (N-(k+1)))) seen n).seen (rec (N-(k+1)) (min young (n node (N-(k+1)))) seen n).net
def dK(N t:Nat):Nat→Nat→Int→(Nat→Bool)→Net→Went
 | 0,_,_,seen,n=>⟨0,seen,n⟩
 | d+1,node,young,seen,n=>if node=t then⟨young,seen,n⟩ else zx (dK N t d) N node young N (seeN seen node) n
def vW(N:Nat)(seen:Nat→Bool):Nat:=((List.range N).filter fun u=>!seen u).length
theorem NX{N u:Nat}{seen:Nat→Bool}(hu:u<N)(h:seen u=false):vW N (seeN seen u)<vW N seen:=by
 unfold vW
 have sub:((List.range N).filter fun a=>!seeN seen u a)=((List.range N).filter fun a=>!seen a).filter fun a=>!(a == u):=by
  rw[List.filter_filter]
  refine List.filter_congr fun a _=>?_
  unfold seeN
  by_cases e:a=u
  ·simp [e]
  ·simp [e]
 rw[sub]
 refine List.length_filter_lt_length_iff_exists.2 ⟨u,List.mem_filter.2 ⟨List.mem_range.2 hu,by simp [h]⟩,by simp⟩
theorem XK{N:Nat}{seen seen':Nat→Bool}(h:∀ u,seen u=true→seen' u=true):vW N seen'≤vW N seen:=by
 unfold vW
 refine List.Sublist.length_le ?_
 have:((List.range N).filter fun u=>!seen' u)=((List.range N).filter fun u=>!seen u).filter fun u=>!seen' u:=by
  rw[List.filter_filter]
  refine List.filter_congr fun a _=>?_
  cases c:seen a with
  | true=>rw[h a c]; rfl
  | false=>simp
 rw[this]
 exact List.filter_sublist
structure Shut (N t:Nat) (node:Nat) (seen:Nat→Bool) (n:Net) (r:Went):Prop where
 net:r.net=n
 more:∀ u,seen u=true→r.seen u=true
 own:r.seen node=true
 shut:∀ u,r.seen u=true→seen u=false→u≠t∧∀ v,v<N→n u v≠0→r.seen v=true
theorem CY{N t:Nat}:∀ {d node:Nat} {young:Int} {seen:Nat→Bool} {n:Net},vW N seen<d→node<N→(node≠t→seen node=false)→0<young→(∀ u v,0≤n u v)→(dK N t d node young seen n).sent≤0→Shut N t node seen n (dK N t d node young seen n)
 | 0,node,young,seen,n,hd,hn,hs,hy,h0,_=>by omega
 | d+1,node,young,seen,n,hd,hn,hs,hy,h0,hle=>by
  unfold dK at hle ⊢
  by_cases e:node=t
  ·rw[if_pos e] at hle
   have:young≤0:=hle
   omega
  ·rw[if_neg e] at hle ⊢
   have us:=NX hn (hs e)
   have go:∀(k:Nat) (seen1:Nat→Bool),k≤N→(∀ u,seeN seen node u=true→seen1 u=true)→(∀ u,seen1 u=true→seeN seen node u=false→u≠t∧∀ v,v<N→n u v≠0→seen1 v=true)→(∀ v,v<N-k→n node v≠0→seen1 v=true) →
     (zx (dK N t d) N node young k seen1 n).sent≤0→Shut N t node seen n (zx (dK N t d) N node young k seen1 n):=by
    intro k
    induction k with
    | zero=>
     intro seen1 _ h1 h2 h3 _
     refine⟨rfl,fun u hu=>h1 u (by unfold seeN; split <;> simp_all),h1 node (by unfold seeN; simp),fun u hu hu0=>?_⟩
     by_cases q:u=node
     ·subst q
      exact⟨e,fun v hv hz=>h3 v (by omega) hz⟩
     ·exact h2 u hu (by unfold seeN; rw[if_neg q]; exact hu0)
    | succ k ih=>
     intro seen1 hk h1 h2 h3 hle
     unfold zx at hle ⊢
     by_cases c:n node (N-(k+1))=0∨seen1 (N-(k+1))=true
     ·rw[if_pos c] at hle ⊢
      refine ih seen1 (by omega) h1 h2 (fun v hv hz=>?_) hle
      by_cases q:v=N-(k+1)
      ·subst q
       rcases c with c | c
       ·exact absurd c hz
       ·exact c
      ·exact h3 v (by omega) hz
     ·rw[if_neg c] at hle ⊢
      have c1:n node (N-(k+1))≠0:=fun q=>c (.inl q)
      have c2:seen1 (N-(k+1))=false:=by
       cases q:seen1 (N-(k+1)) with
       | true=>exact absurd (.inr q) c
       | false=>rfl
      by_cases s:0<(dK N t d (N-(k+1)) (min young (n node (N-(k+1)))) seen1 n).sent
      ·rw[if_pos s] at hle
       have:(dK N t d (N-(k+1)) (min young (n node (N-(k+1)))) seen1 n).sent≤0:=hle
       omega
      ·rw[if_neg s] at hle ⊢
       have ul:=XK (N:=N) h1
       have hpos:=h0 node (N-(k+1))
       have r:=CY (N:=N) (t:=t) (d:=d) (node:=N-(k+1)) (young:=min young (n node (N-(k+1)))) (seen:=seen1) (n:=n) (by omega) (by omega) (fun _=>c2) (by omega) h0 (by omega)
       rw[r.net] at hle ⊢
       refine ih _ (by omega) (fun u hu=>r.more u (h1 u hu)) (fun u hu hu0=>?_) (fun v hv hz=>?_) hle
       ·cases q:seen1 u with
        | true=>
         obtain⟨a,b⟩:=h2 u q hu0
         exact⟨a,fun v hv hz=>r.more v (b v hv hz)⟩
        | false=>exact r.shut u hu q
       ·by_cases q:v=N-(k+1)
        ·subst q; exact r.own
        ·exact r.more v (h3 v (by omega) hz)
   refine go N (seeN seen node) (Nat.le_refl _) (fun _ h=>h) (fun u h1 h2=>by rw[h1] at h2; cases h2) (fun v hv=>by omega) hle
structure Sends (N t node:Nat) (young:Int) (seen:Nat→Bool) (n:Net) (r:Went):Prop where
 pos:0<r.sent
 le:r.sent≤young
 ge:∀ u v,0≤r.net u v
 anti:∀ u v,n u v-r.net u v=-(n v u-r.net v u)
 same:∀ u,seen u=true→∀ v,r.net u v=n u v∧r.net v u=n v u
 keep:∀ u,u<N→ay (fun v=>n u v-r.net u v) N=(if u=node then r.sent else 0)-(if u=t then r.sent else 0)
 up:∀ v,n t v≤r.net t v
theorem move_sum{N u w:Nat}{x:Int}{m:Net}(hu:u<N)(hw:w<N)(h:u≠w)(a:Nat):ay (fun v=>m a v-wz m u w x a v) N=(if a=u then x else 0)-(if a=w then x else 0):=by
 by_cases c1:a=u
 ·subst c1
  rw[if_pos rfl,if_neg h,yz (s:=w) hw fun i _ hi=>by
   unfold wz
   rw[if_neg (fun q=>hi q.2),if_neg (fun q=>h q.1)]
   omega]
  unfold wz
  rw[if_pos ⟨rfl,rfl⟩]
  omega
 ·by_cases c2:a=w
  ·subst c2
   rw[if_neg c1,if_pos rfl,yz (s:=u) hu fun i _ hi=>by
    unfold wz
    rw[if_neg (fun q=>c1 q.1),if_neg (fun q=>hi q.2)]
    omega]
   unfold wz
   rw[if_neg (fun q=>c1 q.1),if_pos ⟨rfl,rfl⟩]
   omega
  ·rw[if_neg c1,if_neg c2]
   have:ay (fun v=>m a v-wz m u w x a v) N=ay (fun _=>0) N:=bz fun v _=>by
    unfold wz
    rw[if_neg (fun q=>c1 q.1),if_neg (fun q=>c2 q.1)]
    omega
   rw[this,kV]
   rfl
theorem DQ{N t:Nat}:∀ {d node:Nat} {young:Int} {seen:Nat→Bool} {n:Net},vW N seen<d→node<N→(node≠t→seen node=false)→0<young→(∀ u v,0≤n u v)→0<(dK N t d node young seen n).sent→Sends N t node young seen n (dK N t d node young seen n)
 | 0,node,young,seen,n,hd,hn,hs,hy,h0,_=>by omega
 | d+1,node,young,seen,n,hd,hn,hs,hy,h0,hlt=>by
  unfold dK at hlt ⊢
  by_cases e:node=t
  ·rw[if_pos e]
   refine⟨hy,Int.le_refl _,h0,fun u v=>by show n u v-n u v=-(n v u-n v u); omega,fun u _ v=>⟨rfl,rfl⟩,fun u _=>?_,fun v=>Int.le_refl _⟩
   have:ay (fun v=>n u v-n u v) N=ay (fun _=>0) N:=bz fun v _=>by omega
   show ay (fun v=>n u v-n u v) N=_
   rw[this,kV,e]
   omega
  ·rw[if_neg e] at hlt ⊢
   have us:=NX hn (hs e)
   have go:∀(k:Nat) (seen1:Nat→Bool),k≤N→(∀ u,seeN seen node u=true→seen1 u=true)→0<(zx (dK N t d) N node young k seen1 n).sent→Sends N t node young seen n (zx (dK N t d) N node young k seen1 n):=by
    intro k
    induction k with
    | zero=>
     intro seen1 _ _ hlt
     have:(0:Int)<0:=hlt
     omega
    | succ k ih=>
     intro seen1 hk h1 hlt
     unfold zx at hlt ⊢
     by_cases c:n node (N-(k+1))=0∨seen1 (N-(k+1))=true
     ·rw[if_pos c] at hlt ⊢
      exact ih seen1 (by omega) h1 hlt
     ·rw[if_neg c] at hlt ⊢
      have c1:n node (N-(k+1))≠0:=fun q=>c (.inl q)
      have c2:seen1 (N-(k+1))=false:=by
       cases q:seen1 (N-(k+1)) with
       | true=>exact absurd (.inr q) c
       | false=>rfl
      have ul:=XK (N:=N) h1
      have hpos:=h0 node (N-(k+1))
      have hown:seen1 node=true:=h1 node (by unfold seeN; simp)
      have hne:node≠N-(k+1):=fun q=>by rw[← q,hown] at c2; cases c2
      by_cases s:0<(dK N t d (N-(k+1)) (min young (n node (N-(k+1)))) seen1 n).sent
      ·rw[if_pos s]
       have r:=DQ (N:=N) (t:=t) (d:=d) (node:=N-(k+1)) (young:=min young (n node (N-(k+1)))) (seen:=seen1) (n:=n) (by omega) (by omega) (fun _=>c2) (by omega) h0 s
       generalize dK N t d (N-(k+1)) (min young (n node (N-(k+1)))) seen1 n=w at r s
       have hw:N-(k+1)<N:=by omega
       generalize N-(k+1)=w1 at *
       have rle:=r.le
       have hm:∀ u v,wz w.net node w1 w.sent u v=if u=node∧v=w1 then w.net u v-w.sent else if u=w1∧v=node then w.net u v+w.sent else w.net u v:=fun _ _=>rfl
       refine⟨s,by show w.sent≤young; omega,fun u v=>?_,fun u v=>?_,fun u hu v=>?_,fun u hu=>?_,fun v=>?_⟩
       ·show 0≤wz w.net node w1 w.sent u v
        have g:=r.ge u v
        rw[hm]
        by_cases q1:u=node∧v=w1
        ·obtain⟨rfl,rfl⟩:=q1
         rw[if_pos ⟨rfl,rfl⟩,(r.same u hown v).1]
         omega
        ·rw[if_neg q1]
         split <;> omega
       ·show n u v-wz w.net node w1 w.sent u v=-(n v u-wz w.net node w1 w.sent v u)
        have g:=r.anti u v
        rw[hm,hm]
        by_cases q1:u=node∧v=w1
        ·have z:¬ (v=node∧u=w1):=fun q=>hne (q.1.symm.trans q1.2)
         rw[if_pos q1,if_neg z,if_pos ⟨q1.2,q1.1⟩]
         omega
        ·rw[if_neg q1]
         by_cases q2:u=w1∧v=node
         ·rw[if_pos q2,if_pos ⟨q2.2,q2.1⟩]
          omega
         ·rw[if_neg q2,if_neg (fun q=>q2 ⟨q.2,q.1⟩),if_neg (fun q=>q1 ⟨q.2,q.1⟩)]
          exact g
       ·show wz w.net node w1 w.sent u v=n u v∧wz w.net node w1 w.sent v u=n v u
        have hu1:seen1 u=true:=h1 u (by unfold seeN; split <;> simp_all)
        have n1:u≠node:=fun q=>by rw[q,hs e] at hu; cases hu
        have n2:u≠w1:=fun q=>by rw[q,c2] at hu1; cases hu1
        rw[hm,hm,if_neg (fun q=>n1 q.1),if_neg (fun q=>n2 q.1),if_neg (fun q=>n2 q.2),if_neg (fun q=>n1 q.2)]
        exact r.same u hu1 v
       ·show ay (fun v=>n u v-wz w.net node w1 w.sent u v) N=(if u=node then w.sent else 0)-(if u=t then w.sent else 0)
        have k1:=r.keep u hu
        have k2:=move_sum (x:=w.sent) (m:=w.net) hn hw hne u
        have:ay (fun v=>n u v-wz w.net node w1 w.sent u v) N=ay (fun v=>(n u v-w.net u v)+(w.net u v-wz w.net node w1 w.sent u v)) N:=bz fun v _=>by omega
        rw[this,cK,k1,k2]
        omega
       ·show n t v≤wz w.net node w1 w.sent t v
        have g:=r.up v
        rw[hm,if_neg (fun q=>e q.1.symm)]
        split <;> omega
      ·rw[if_neg s] at hlt ⊢
       have r:=CY (N:=N) (t:=t) (d:=d) (node:=N-(k+1)) (young:=min young (n node (N-(k+1)))) (seen:=seen1) (n:=n) (by omega) (by omega) (fun _=>c2) (by omega) h0 (by omega)
       rw[r.net] at hlt ⊢
       exact ih _ (by omega) (fun u hu=>r.more u (h1 u hu)) hlt
   exact go N (seeN seen node) (Nat.le_refl _) (fun _ h=>h) hlt
theorem FQ(N:Nat)(seen:Nat→Bool):vW N seen<N+1:=by
 unfold vW
 have:=List.length_filter_le (fun u=>!seen u) (List.range N)
 rw[List.length_range] at this
 omega
theorem Flow.add{N s t:Nat}{f g:Nat→Nat→Int}(hf:Flow N s t f)(hg:Flow N s t g):Flow N s t (fun u v=>f u v+g u v):=by
 refine⟨fun u v hu hv=>?_,fun u hu h1 h2=>?_⟩
 ·have:=hf.anti u v hu hv
  have:=hg.anti u v hu hv
  show f u v+g u v=- (f v u+g v u)
  omega
 ·show ay (fun v=>f u v+g u v) N=0
  rw[cK,hf.keep u hu h1 h2,hg.keep u hu h1 h2]
  rfl
theorem Sends.flow{N t node:Nat}{young:Int}{seen:Nat→Bool}{n:Net}{r:Went}(h:Sends N t node young seen n r):Flow N node t (fun u v=>n u v-r.net u v):=
 ⟨fun u v _ _=>h.anti u v,fun u hu h1 h2=>by
  have:=h.keep u hu
  rw[if_neg h1,if_neg h2] at this
  exact this⟩
def CZ(N t s:Nat)(y:Int):Nat→Net→Int × Net
 | 0,n=>(0,n)
 | k+1,n=>if(dK N t (N+1) s y (fun _=>false) n).sent≤0 then(0,n) else((dK N t (N+1) s y (fun _=>false) n).sent+(CZ N t s y k (dK N t (N+1) s y (fun _=>false) n).net).1,(CZ N t s y k (dK N t (N+1) s y (fun _=>false) n).net).2)
structure Filled (N s t:Nat) (n:Net) (x:Int) (m:Net):Prop where
 ge:∀ u v,0≤m u v
 flow:Flow N s t (fun u v=>n u v-m u v)
 worth:ay (fun v=>n s v-m s v) N=x
 cut:∃ R:Nat→Bool,R s=true∧R t=false∧∀ u v,u<N→v<N→R u=true→R v=false→m u v=0
 up:∀ v,n t v≤m t v
theorem Yj{N s t:Nat}{y:Int}(hs:s<N)(hst:s≠t)(hy:0<y):∀ {k:Nat} {n:Net},(∀ u v,0≤n u v)→ay (fun v=>n s v) N<k→Filled N s t n (CZ N t s y k n).1 (CZ N t s y k n).2
 | 0,n,h0,hk=>by
  exfalso
  have:ay (fun _=>0) N≤ay (fun v=>n s v) N:=kQ fun v _=>h0 s v
  rw[kV] at this
  omega
 | k+1,n,h0,hk=>by
  unfold CZ
  by_cases c:(dK N t (N+1) s y (fun _=>false) n).sent≤0
  ·rw[if_pos c]
   have r:=CY (N:=N) (t:=t) (d:=N+1) (node:=s) (young:=y) (seen:=fun _=>false) (n:=n) (FQ N _) hs (fun _=>rfl) hy h0 c
   generalize dK N t (N+1) s y (fun _=>false) n=w at r
   refine⟨h0,⟨fun u v _ _=>by show n u v-n u v=-(n v u-n v u); omega,fun u _ _ _=>?_⟩,?_,⟨w.seen,r.own,?_,fun u v hu hv h1 h2=>?_⟩,fun v=>Int.le_refl _⟩
   ·have:ay (fun v=>n u v-n u v) N=ay (fun _=>0) N:=bz fun v _=>by omega
    show ay (fun v=>n u v-n u v) N=0
    rw[this,kV]
   ·have:ay (fun v=>n s v-n s v) N=ay (fun _=>0) N:=bz fun v _=>by omega
    show ay (fun v=>n s v-n s v) N=0
    rw[this,kV]
   ·cases q:w.seen t with
    | false=>rfl
    | true=>exact absurd rfl (r.shut t q rfl).1
   ·refine Classical.byContradiction fun hz=>?_
    have:=(r.shut u h1 rfl).2 v hv hz
    rw[h2] at this
    cases this
  ·rw[if_neg c]
   have r:=DQ (N:=N) (t:=t) (d:=N+1) (node:=s) (young:=y) (seen:=fun _=>false) (n:=n) (FQ N _) hs (fun _=>rfl) hy h0 (by omega)
   generalize dK N t (N+1) s y (fun _=>false) n=w at r
   have pos:=r.pos
   have ks:=r.keep s hs
   rw[if_pos rfl,if_neg hst] at ks
   have e:ay (fun v=>n s v) N=ay (fun v=>n s v-w.net s v) N+ay (fun v=>w.net s v) N:=by
    rw[← cK]
    exact bz fun v _=>by omega
   have q:=Yj hs hst hy (k:=k) (n:=w.net) r.ge (by omega)
   generalize CZ N t s y k w.net=z at q
   refine⟨q.ge,?_,?_,q.cut,fun v=>Int.le_trans (r.up v) (q.up v)⟩
   ·have:=r.flow.add q.flow
    have same:(fun u v=>(n u v-w.net u v)+(w.net u v-z.2 u v))=(fun u v=>n u v-z.2 u v):=by
     funext u v
     omega
    rw[same] at this
    exact this
   ·have:ay (fun v=>n s v-z.2 s v) N=ay (fun v=>(n s v-w.net s v)+(w.net s v-z.2 s v)) N:=bz fun v _=>by omega
    show ay (fun v=>n s v-z.2 s v) N=w.sent+z.1
    rw[this,cK,ks,q.worth]
    omega
end Go.Proofs.Ytmjbdjnnojfhkaa.spec
end
section
namespace Go.Proofs.Ytmjbdjnnojfhkaa.spec
open Go Go.Ev Go.Proofs.Ytmjbdjnnojfhkaa.nestFits Go.Proofs.Ytmjbdjnnojfhkaa.G
set_option maxRecDepth 100000
variable {ρ:Type}
end Go.Proofs.Ytmjbdjnnojfhkaa.spec
end
section
namespace Go.Proofs.Ytmjbdjnnojfhkaa.spec
open Go Go.Ev Go.Proofs.Ytmjbdjnnojfhkaa.nestFits Go.Proofs.Ytmjbdjnnojfhkaa.G
set_option maxRecDepth 100000
end Go.Proofs.Ytmjbdjnnojfhkaa.spec
end
section
namespace Go.Proofs.Ytmjbdjnnojfhkaa.spec
open Go Go.Ev Go.Proofs.Ytmjbdjnnojfhkaa.nestFits Go.Proofs.Ytmjbdjnnojfhkaa.G
set_option maxRecDepth 100000
variable {np nj nk kd:Nat} {js js' ks ps ps':List Int} {s t:Nat→Nat}
end Go.Proofs.Ytmjbdjnnojfhkaa.spec
end
section
namespace Go.Proofs.Ytmjbdjnnojfhkaa.spec
open Go Go.Ev Go.Proofs.Ytmjbdjnnojfhkaa.nestFits Go.Proofs.Ytmjbdjnnojfhkaa.G
set_option maxRecDepth 100000
theorem sumTo_add(f:Nat→Int)(a:Nat):∀ b:Nat,ay f (a+b)=ay f a+ay (fun i=>f (a+i)) b
 | 0=>by simp [ay]
 | b+1=>by
  rw[show a+(b+1)=(a+b)+1 by omega]
  simp only[ay]
  rw[sumTo_add f a b]
  omega
def tnet(w:Nat→Nat→Int)(spare cap:Nat→Int):Net:=fun u v=>
 if u=16∧v<8 then spare v else if u<8∧8≤v∧v<16 then w u (v-8) else if 8≤u∧u<16∧v=17 then cap (u-8) else 0
theorem sum18(f:Nat→Int):ay f 18=ay f 8+ay (fun i=>f (8+i)) 8+f 16+f 17:=by
 have e:ay f (8+8)=ay f 8+ay (fun i=>f (8+i)) 8:=sumTo_add f 8 8
 show ay f (8+8)+f 16+f 17=_
 rw[e]
theorem eW{f:Nat→Int}{n:Nat}(h:∀ i,i<n→f i=0):ay f n=0:=(bz h).trans (kV n)
theorem Filled.into{N s t:Nat}{n m:Net}{x:Int}(h:Filled N s t n x m)(hs:s<N)(ht:t<N)(hst:s≠t):x=ay (fun u=>n u t-m u t) N:=by
 rw[← h.worth,h.flow.worth (R:=fun u=>!(u == t)) hs (by simp [hst]) (by simp)]
 unfold over
 refine bz fun u hu=>?_
 rw[yz (s:=t) ht fun v _ hv=>if_neg (fun q=>hv (by simpa using q.2))]
 by_cases c:u=t
 ·subst c
  have:=h.flow.anti u u hu hu
  rw[if_neg (fun q=>by simpa using q.1)]
  omega
 ·rw[if_pos ⟨by simp [c],by simp⟩]
theorem sumTo_ge_one{f:Nat→Int}{n i:Nat}(h:∀ k,k<n→0≤f k)(hi:i<n):f i≤ay f n:=by
 have e:ay (fun k=>if k=i then f i else 0) n=f i:=by
  rw[yz (s:=i) hi fun k _ hk=>if_neg hk,if_pos rfl]
 rw[← e]
 refine kQ fun k hk=>?_
 split
 ·rename_i q; rw[q]; exact Int.le_refl _
 ·exact h k hk
theorem yk(f g:Nat→Int)(n:Nat):ay (fun i=>f i-g i) n=ay f n-ay g n:=by
 have e:ay (fun i=>f i-g i) n+ay g n=ay f n:=by
  rw[← cK]
  exact bz fun i _=>by omega
 omega
theorem cap_sum(w:Nat→Nat→Int)(spare cap:Nat→Int):ay (fun u=>tnet w spare cap u 17) 18=ay cap 8:=by
 rw[sum18]
 have e1:ay (fun u=>tnet w spare cap u 17) 8=0:=eW fun v hv=>by
  unfold tnet
  rw[if_neg (by omega),if_neg (by omega),if_neg (by omega)]
 have e2:ay (fun i=>tnet w spare cap (8+i) 17) 8=ay cap 8:=bz fun i hi=>by
  show tnet w spare cap (8+i) 17=cap i
  unfold tnet
  rw[if_neg (by omega),if_neg (by omega),if_pos ⟨by omega,by omega,rfl⟩,show 8+i-8=i by omega]
 have e3:tnet w spare cap 16 17=0:=by
  unfold tnet
  rw[if_neg (by omega),if_neg (by omega),if_neg (by omega)]
 have e4:tnet w spare cap 17 17=0:=by
  unfold tnet
  rw[if_neg (by omega),if_neg (by omega),if_neg (by omega)]
 rw[e1,e2,e3,e4]
 omega
def anew(m:Net)(cap:Nat→Int):Net:=fun u v=>if 8≤u∧u<16∧v=17 then cap (u-8) else m u v
theorem Yq(w:Nat→Nat→Int)(spare cap:Nat→Int):ay (fun v=>tnet w spare cap 16 v) 18=ay spare 8:=by
 rw[sum18]
 have e1:ay (fun v=>tnet w spare cap 16 v) 8=ay spare 8:=bz fun v hv=>by
  unfold tnet
  rw[if_pos ⟨rfl,hv⟩]
 have e2:ay (fun i=>tnet w spare cap 16 (8+i)) 8=0:=eW fun i hi=>by
  show tnet w spare cap 16 (8+i)=0
  unfold tnet
  rw[if_neg (by omega),if_neg (by omega),if_neg (by omega)]
 have e3:tnet w spare cap 16 16=0:=by
  unfold tnet
  rw[if_neg (by omega),if_neg (by omega),if_neg (by omega)]
 have e4:tnet w spare cap 16 17=0:=by
  unfold tnet
  rw[if_neg (by omega),if_neg (by omega),if_neg (by omega)]
 rw[e1,e2,e3,e4]
 omega
theorem all_zero{f:Nat→Int}{n:Nat}(h0:∀ k,0≤f k)(h:ay f n=0):∀ k,k<n→f k=0:=fun k hk=>by
 have:=sumTo_ge_one (fun i _=>h0 i) hk
 have:=h0 k
 omega
theorem Tw{w:Nat→Nat→Int}{spare need:Nat→Int}{m:Net}(F:Filled 18 16 17 (tnet w spare need) (ay need 8) m):∀ u,u<18→m u 17=0:=by
 have up:=F.into (by omega) (by omega) (by omega)
 rw[yk,cap_sum] at up
 exact all_zero (f:=fun u=>m u 17) (fun k=>F.ge k 17) (by omega)
theorem second_full{w:Nat→Nat→Int}{spare need more:Nat→Int}{m m2:Net}(F:Filled 18 16 17 (tnet w spare need) (ay need 8) m)(F2:Filled 18 16 17 (anew m more) (ay spare 8-ay need 8) m2):∀ v,v<18→m2 16 v=0:=by
 have w1:=F.worth
 have w2:=F2.worth
 rw[yk] at w1 w2
 have w1:ay (tnet w spare need 16) 18-ay (m 16) 18=ay need 8:=w1
 have w2:ay (anew m more 16) 18-ay (m2 16) 18=ay spare 8-ay need 8:=w2
 have s1:ay (tnet w spare need 16) 18=ay spare 8:=Yq w spare need
 have same:ay (anew m more 16) 18=ay (m 16) 18:=bz fun v _=>by
  unfold anew
  rw[if_neg (by omega)]
 exact all_zero (f:=m2 16) (fun k=>F2.ge 16 k) (by omega)
theorem filled_back{w:Nat→Nat→Int}{spare need more:Nat→Int}{m m2:Net}(F:Filled 18 16 17 (tnet w spare need) (ay need 8) m)(F2:Filled 18 16 17 (anew m more) (ay spare 8-ay need 8) m2) :
  (∀ p q,p<8→q<8→0≤m2 (8+q) p∧m2 (8+q) p≤w p q)∧(∀ p,p<8→ay (fun q=>m2 (8+q) p) 8=spare p)∧∀ q,q<8→need q≤ay (fun p=>m2 (8+q) p) 8∧ay (fun p=>m2 (8+q) p) 8≤need q+more q:=by
 have z1:=Tw F
 have z2:=second_full F F2
 have fl:=F.flow.add F2.flow
 generalize hφ:(fun u v=>(tnet w spare need u v-m u v)+(anew m more u v-m2 u v))=φ at fl
 have φe:∀ u v,¬ (8≤u∧u<16∧v=17)→φ u v=tnet w spare need u v-m2 u v:=fun u v c=>by
  rw[← hφ]
  show(tnet w spare need u v-m u v)+(anew m more u v-m2 u v)=_
  have:anew m more u v=m u v:=if_neg c
  omega
 have none:∀ u v,u<18→v<18→¬ (8≤u∧u<16∧v=17)→¬ (8≤v∧v<16∧u=17)→tnet w spare need u v=0→tnet w spare need v u=0→φ u v=0:=fun u v hu hv c1 c2 t1 t2=>by
  have a:=fl.anti u v hu hv
  rw[φe u v c1,φe v u c2,t1,t2] at a
  rw[φe u v c1,t1]
  have:=F2.ge u v
  have:=F2.ge v u
  omega
 have pq:∀ p q,p<8→q<8→φ p (8+q)=m2 (8+q) p∧m2 (8+q) p=w p q-m2 p (8+q):=fun p q hp hq=>by
  have a:=fl.anti p (8+q) (by omega) (by omega)
  have t1:tnet w spare need p (8+q)=w p q:=by
   unfold tnet
   rw[if_neg (by omega),if_pos ⟨hp,by omega,by omega⟩,show 8+q-8=q by omega]
  have t2:tnet w spare need (8+q) p=0:=by
   unfold tnet
   rw[if_neg (by omega),if_neg (by omega),if_neg (by omega)]
  rw[φe _ _ (by omega),φe _ _ (by omega),t1,t2] at a
  rw[φe _ _ (by omega),t1]
  omega
 refine⟨fun p q hp hq=>?_,fun p hp=>?_,fun q hq=>?_⟩
 ·obtain⟨_,e⟩:=pq p q hp hq
  have:=F2.ge (8+q) p
  have:=F2.ge p (8+q)
  omega
 ·have k:=fl.keep p (by omega) (by omega) (by omega)
  rw[sum18] at k
  have e1:ay (φ p) 8=0:=eW fun v hv=>none p v (by omega) (by omega) (by omega) (by omega) (by unfold tnet; rw[if_neg (by omega),if_neg (by omega),if_neg (by omega)]) (by unfold tnet; rw[if_neg (by omega),if_neg (by omega),if_neg (by omega)])
  have e2:ay (fun i=>φ p (8+i)) 8=ay (fun q=>m2 (8+q) p) 8:=bz fun i hi=>(pq p i hp hi).1
  have e3:φ p 16=- spare p:=by
   have a:=fl.anti p 16 (by omega) (by omega)
   have t:tnet w spare need 16 p=spare p:=if_pos ⟨rfl,hp⟩
   rw[φe 16 p (by omega),t,z2 p (by omega)] at a
   omega
  have e4:φ p 17=0:=none p 17 (by omega) (by omega) (by omega) (by omega) (by unfold tnet; rw[if_neg (by omega),if_neg (by omega),if_neg (by omega)]) (by unfold tnet; rw[if_neg (by omega),if_neg (by omega),if_neg (by omega)])
  rw[e1,e2,e3,e4] at k
  omega
 ·have k:=fl.keep (8+q) (by omega) (by omega) (by omega)
  rw[sum18] at k
  have e1:ay (φ (8+q)) 8=- ay (fun p=>m2 (8+q) p) 8:=by
   rw[← Qz]
   refine bz fun p hp=>?_
   have:=fl.anti (8+q) p (by omega) (by omega)
   rw[this,(pq p q hp hq).1]
  have e2:ay (fun i=>φ (8+q) (8+i)) 8=0:=eW fun i hi=>none (8+q) (8+i) (by omega) (by omega) (by omega) (by omega) (by unfold tnet; rw[if_neg (by omega),if_neg (by omega),if_neg (by omega)]) (by unfold tnet; rw[if_neg (by omega),if_neg (by omega),if_neg (by omega)])
  have e3:φ (8+q) 16=0:=none (8+q) 16 (by omega) (by omega) (by omega) (by omega) (by unfold tnet; rw[if_neg (by omega),if_neg (by omega),if_neg (by omega)]) (by unfold tnet; rw[if_neg (by omega),if_neg (by omega),if_neg (by omega)])
  have t:tnet w spare need (8+q) 17=need q:=by
   unfold tnet
   rw[if_neg (by omega),if_neg (by omega),if_pos ⟨by omega,by omega,rfl⟩,show 8+q-8=q by omega]
  have t':anew m more (8+q) 17=more q:=by
   unfold anew
   rw[if_pos ⟨by omega,by omega,rfl⟩,show 8+q-8=q by omega]
  have e4:φ (8+q) 17=need q+(more q-m2 (8+q) 17):=by
   rw[← hφ]
   show(tnet w spare need (8+q) 17-m (8+q) 17)+(anew m more (8+q) 17-m2 (8+q) 17)=_
   rw[t,t',z1 _ (by omega)]
   omega
  have a2:=F2.flow.anti (8+q) 17 (by omega) (by omega)
  have u:=F2.up (8+q)
  have a2:anew m more (8+q) 17-m2 (8+q) 17=-(anew m more 17 (8+q)-m2 17 (8+q)):=a2
  rw[t'] at a2
  have g:=F2.ge (8+q) 17
  rw[e1,e2,e3,e4] at k
  omega
end Go.Proofs.Ytmjbdjnnojfhkaa.spec
end
section
namespace Go.Proofs.Ytmjbdjnnojfhkaa.spec
open Go Go.Ev Go.Proofs.Ytmjbdjnnojfhkaa.nestFits Go.Proofs.Ytmjbdjnnojfhkaa.G
set_option maxRecDepth 100000
variable {ρ:Type}
end Go.Proofs.Ytmjbdjnnojfhkaa.spec
end
section
namespace Go.Proofs.Ytmjbdjnnojfhkaa.spec
open Go Go.Ev Go.Proofs.Ytmjbdjnnojfhkaa.nestFits Go.Proofs.Ytmjbdjnnojfhkaa.G
set_option maxRecDepth 100000
noncomputable def yL(ks L:List Int)(p:Nat):Int:=ks.getD ((L.getD p 0).toNat * 5) 0
noncomputable def sL(js ks L:List Int)(nj np p:Nat):List Int:=shP js ks nj np p (L.getD p 0).toNat
def isN(L:List Int)(p:Nat):Prop:=p<8∧L.getD p 0≠-1
instance (L:List Int) (p:Nat):Decidable (isN L p):=by unfold isN; exact inferInstance
noncomputable def wL(js ks L:List Int)(nj np p q:Nat):Int:=if isN L p then(sL js ks L nj np p).getD (q * 2+1) 0-(sL js ks L nj np p).getD (q * 2) 0 else 0
noncomputable def cX(js ks L:List Int)(nj np p:Nat):Int:=if isN L p then yL ks L p-total (sL js ks L nj np p) 0 else 0
noncomputable def lowL(js ks L:List Int)(nj np q i:Nat):Int:=ay (fun p=>if isN L p then(sL js ks L nj np p).getD (q * 2) 0 else 0) i
noncomputable def fx(js ks ps L:List Int)(nj np q:Nat):Int:=if q<np then max (ps.getD (q * 2) 0-lowL js ks L nj np q 8) 0 else 0
noncomputable def tz(js ks ps L:List Int)(nj np q:Nat):Int:=if q<np then ps.getD (q * 2+1) 0-max (ps.getD (q * 2) 0) (lowL js ks L nj np q 8) else 0
structure LaidNests (js ks L:List Int) (nj np:Nat):Prop where
 le:∀ p,isN L p→∀ q,(sL js ks L nj np p).getD (q * 2) 0≤(sL js ks L nj np p).getD (q * 2+1) 0
 far:∀ p,isN L p→∀ q,np≤q→(sL js ks L nj np p).getD (q * 2) 0=0∧(sL js ks L nj np p).getD (q * 2+1) 0=0
 fits:∀ p,isN L p→total (sL js ks L nj np p) 0≤yL ks L p∧yL ks L p≤total (sL js ks L nj np p) 1
 np8:np≤8
theorem qmx{np nj nk:Nat}{ps js ks ls:List Int}(good:Good np nj nk ps js ks)(hjs:js.length=nj * 2)(hls:ls.length=np)(hok:nQ js ks ls nj np nk):LaidNests js ks (ej ls np) nj np:=by
 have np8:=good.np8
 have hin:=good.inner hjs
 have key:∀ p,isN (ej ls np) p→p<np∧∃ kd:Nat,(ej ls np).getD p 0=kd∧kd<nk∧fitD js ks nj np p kd=true:=fun p hp=>by
  have hpn:p<np:=Classical.byContradiction fun c=>hp.2 (IK hls (by omega) hp.1)
  refine⟨hpn,?_⟩
  have e:=IZ hls hpn
  have hne:=hp.2
  rw[e] at hne ⊢
  rcases hok p hpn with h | h
  ·exact absurd h hne
  ·obtain⟨t1,t2,t3⟩:=h
   exact⟨(ls.getD p 0).toNat,by omega,by omega,t3⟩
 refine⟨fun p hp q=>?_,fun p hp q hq=>?_,fun p hp=>?_,np8⟩
 ·obtain⟨h1,kd,h2,h3,h4⟩:=key p hp
  unfold sL
  rw[h2,Int.toNat_natCast]
  obtain⟨g1,g2⟩:=uv (ks:=ks) (kd:=kd) hin np8 h1 q
  rw[g1,g2]
  have:=tK (js:=js) (nj:=nj) good.small h3 p q
  exact this.2.1
 ·obtain⟨h1,kd,h2,h3,h4⟩:=key p hp
  unfold sL
  rw[h2,Int.toNat_natCast]
  obtain⟨g1,g2⟩:=uv (ks:=ks) (kd:=kd) hin np8 h1 q
  rw[g1,g2,IX hin h1 hq]
  exact⟨rfl,rfl⟩
 ·obtain⟨h1,kd,h2,h3,h4⟩:=key p hp
  unfold sL yL
  rw[h2,Int.toNat_natCast]
  exact of_decide_eq_true h4
structure Sending (js ks ps L:List Int) (nj np:Nat) (T:Nat→Nat→Int):Prop where
 ge:∀ p q,0≤T p q
 le:∀ p q,T p q≤wL js ks L nj np p q
 row:∀ p,p<8→ay (T p) 8=cX js ks L nj np p
 col:∀ q,q<np→ps.getD (q * 2) 0≤lowL js ks L nj np q 8+ay (fun p=>T p q) 8∧lowL js ks L nj np q 8+ay (fun p=>T p q) 8≤ps.getD (q * 2+1) 0
theorem sending_far{js ks L:List Int}{nj np:Nat}{T:Nat→Nat→Int}(ok:LaidNests js ks L nj np)(h0:∀ p q,0≤T p q)(hw:∀ p q,T p q≤wL js ks L nj np p q){p q:Nat}(hq:np≤q):T p q=0:=by
 have a:=h0 p q
 have b:=hw p q
 unfold wL at b
 by_cases c:isN L p
 ·rw[if_pos c] at b
  obtain⟨z1,z2⟩:=ok.far p c q hq
  omega
 ·rw[if_neg c] at b
  omega
theorem sending_of{js ks ps L:List Int}{nj np:Nat}{T:Nat→Nat→Int}(ok:LaidNests js ks L nj np)(hlow:∀ q,q<np→lowL js ks L nj np q 8≤ps.getD (q * 2+1) 0)(hps:∀ q,q<np→ps.getD (q * 2) 0≤ps.getD (q * 2+1) 0)
  (h0:∀ p q,0≤T p q) (hw:∀ p q,T p q≤wL js ks L nj np p q) (hr:∀ p,p<8→ay (T p) 8=cX js ks L nj np p)
  (hc:∀ q,q<8→fx js ks ps L nj np q≤ay (fun p=>T p q) 8∧ay (fun p=>T p q) 8≤fx js ks ps L nj np q+tz js ks ps L nj np q):Sending js ks ps L nj np T:=by
 have np8:=ok.np8
 refine⟨h0,hw,hr,fun q hq=>?_⟩
 have:=hc q (by omega)
 unfold fx tz at this
 rw[if_pos hq,if_pos hq] at this
 have:=hlow q hq
 have:=hps q hq
 omega
noncomputable def cutN(w:Nat→Nat→Int)(spare cap:Nat→Int)(R:Nat→Bool):Int:=
 ay (fun p=>if R p=true then 0 else spare p) 8+ay (fun p=>ay (fun q=>if R p=true∧R (8+q)=false then w p q else 0) 8) 8+ay (fun q=>if R (8+q)=true then cap q else 0) 8
theorem over_net{w:Nat→Nat→Int}{spare cap:Nat→Int}{R:Nat→Bool}(Rs:R 16=true)(Rt:R 17=false):over 18 R (tnet w spare cap)=cutN w spare cap R:=by
 have nil:∀ u v,¬ (u=16∧v<8)→¬ (u<8∧8≤v∧v<16)→¬ (8≤u∧u<16∧v=17)→(if R u=true∧R v=false then tnet w spare cap u v else 0)=0:=fun u v h1 h2 h3=>by
  unfold tnet
  rw[if_neg h1,if_neg h2,if_neg h3]
  split <;> rfl
 have rowP:∀ u,u<8→ay (fun v=>if R u=true∧R v=false then tnet w spare cap u v else 0) 18=ay (fun q=>if R u=true∧R (8+q)=false then w u q else 0) 8:=fun u hu=>by
  rw[sum18]
  have e1:ay (fun v=>if R u=true∧R v=false then tnet w spare cap u v else 0) 8=0:=eW fun v hv=>nil u v (by omega) (by omega) (by omega)
  have e2:ay (fun i=>if R u=true∧R (8+i)=false then tnet w spare cap u (8+i) else 0) 8=ay (fun q=>if R u=true∧R (8+q)=false then w u q else 0) 8:=bz fun i hi=>by
   have:tnet w spare cap u (8+i)=w u i:=by
    unfold tnet
    rw[if_neg (by omega),if_pos ⟨hu,by omega,by omega⟩,show 8+i-8=i by omega]
   rw[this]
  rw[e1,e2,nil u 16 (by omega) (by omega) (by omega),nil u 17 (by omega) (by omega) (by omega)]
  omega
 have rowQ:∀ i,i<8→ay (fun v=>if R (8+i)=true∧R v=false then tnet w spare cap (8+i) v else 0) 18=if R (8+i)=true then cap i else 0:=fun i hi=>by
  rw[sum18]
  have e1:ay (fun v=>if R (8+i)=true∧R v=false then tnet w spare cap (8+i) v else 0) 8=0:=eW fun v hv=>nil (8+i) v (by omega) (by omega) (by omega)
  have e2:ay (fun j=>if R (8+i)=true∧R (8+j)=false then tnet w spare cap (8+i) (8+j) else 0) 8=0:=eW fun j hj=>nil (8+i) (8+j) (by omega) (by omega) (by omega)
  have e3:tnet w spare cap (8+i) 17=cap i:=by
   unfold tnet
   rw[if_neg (by omega),if_neg (by omega),if_pos ⟨by omega,by omega,rfl⟩,show 8+i-8=i by omega]
  rw[e1,e2,nil (8+i) 16 (by omega) (by omega) (by omega),e3,Rt]
  cases R (8+i) <;> simp
 have rowS:ay (fun v=>if R 16=true∧R v=false then tnet w spare cap 16 v else 0) 18=ay (fun p=>if R p=true then 0 else spare p) 8:=by
  rw[sum18]
  have e1:ay (fun v=>if R 16=true∧R v=false then tnet w spare cap 16 v else 0) 8=ay (fun p=>if R p=true then 0 else spare p) 8:=bz fun v hv=>by
   have:tnet w spare cap 16 v=spare v:=if_pos ⟨rfl,hv⟩
   rw[this,Rs]
   cases R v <;> simp
  have e2:ay (fun j=>if R 16=true∧R (8+j)=false then tnet w spare cap 16 (8+j) else 0) 8=0:=eW fun j hj=>nil 16 (8+j) (by omega) (by omega) (by omega)
  rw[e1,e2,nil 16 16 (by omega) (by omega) (by omega),nil 16 17 (by omega) (by omega) (by omega)]
  omega
 have rowT:ay (fun v=>if R 17=true∧R v=false then tnet w spare cap 17 v else 0) 18=0:=eW fun v hv=>by rw[Rt,if_neg (fun h=>by cases h.1)]
 unfold over cutN
 rw[sum18,bz rowP,bz rowQ,rowS,rowT]
 omega
theorem fill_cut{w:Nat→Nat→Int}{spare need:Nat→Int}{x:Int}{m:Net}(F:Filled 18 16 17 (tnet w spare need) x m):∃ R:Nat→Bool,x=cutN w spare need R:=by
 obtain⟨R,Rs,Rt,cut⟩:=F.cut
 refine⟨R,?_⟩
 rw[← F.worth,F.flow.worth (R:=R) (by omega) Rs Rt,← over_net Rs Rt]
 unfold over
 refine bz fun u hu=>bz fun v hv=>?_
 by_cases c:R u=true∧R v=false
 ·rw[if_pos c,if_pos c]
  have:=cut u v hu hv c.1 c.2
  show tnet w spare need u v-m u v=tnet w spare need u v
  omega
 ·rw[if_neg c,if_neg c]
theorem fills_cut{w:Nat→Nat→Int}{spare need more:Nat→Int}{x2:Int}{m m2:Net}(F:Filled 18 16 17 (tnet w spare need) (ay need 8) m)(F2:Filled 18 16 17 (anew m more) x2 m2):∃ R:Nat→Bool,ay need 8+x2=cutN w spare (fun q=>need q+more q) R:=by
 have z:=Tw F
 obtain⟨R,Rs,Rt,cut⟩:=F2.cut
 refine⟨R,?_⟩
 have w0:=(F.flow.add F2.flow).worth (R:=R) (by omega) Rs Rt
 rw[cK] at w0
 have e1:=F.worth
 have e2:=F2.worth
 rw[← over_net Rs Rt]
 have:over 18 R (fun u v=>(tnet w spare need u v-m u v)+(anew m more u v-m2 u v))=over 18 R (tnet w spare (fun q=>need q+more q)):=by
  unfold over
  refine bz fun u hu=>bz fun v hv=>?_
  by_cases c:R u=true∧R v=false
  ·rw[if_pos c,if_pos c]
   have cz:=cut u v hu hv c.1 c.2
   show tnet w spare need u v-m u v+(anew m more u v-m2 u v)=tnet w spare (fun q=>need q+more q) u v
   rw[cz]
   unfold anew tnet
   by_cases d:8≤u∧u<16∧v=17
   ·have zz:=z u hu
    rw[d.2.2] at *
    rw[if_neg (by omega),if_neg (by omega),if_pos ⟨d.1,d.2.1,rfl⟩,if_pos ⟨d.1,d.2.1,rfl⟩,if_neg (by omega),if_neg (by omega),if_pos ⟨d.1,d.2.1,rfl⟩,zz]
    show need (u-8)-0+(more (u-8)-0)=need (u-8)+more (u-8)
    omega
   ·rw[if_neg d,if_neg d]
    by_cases d1:u=16∧v<8
    ·rw[if_pos d1,if_pos d1]; omega
    ·rw[if_neg d1,if_neg d1]
     by_cases d2:u<8∧8≤v∧v<16
     ·rw[if_pos d2,if_pos d2]; omega
     ·rw[if_neg d2,if_neg d2,if_neg d]; omega
  ·rw[if_neg c,if_neg c]
 rw[this] at w0
 have e1:ay (fun v=>tnet w spare need 16 v-m 16 v) 18=ay need 8:=e1
 have e2:ay (fun v=>anew m more 16 v-m2 16 v) 18=x2:=e2
 omega
section
variable (js ks ps L:List Int) (nj np:Nat) (A B:Nat→Bool) (b e:Bool)
noncomputable def wk:Int:=
 ay (fun p=>if isN L p then(if b=true∧A p=false then yL ks L p else 0)+ay (fun o=>if A p=true∧B o=false then(sL js ks L nj np p).getD (o * 2) 0 else 0) 8 else 0) 8
  + ay (fun o=>if o<np∧B o=true∧e=false then ps.getD (o * 2) 0 else 0) 8
noncomputable def canC:Int:=
 ay (fun p=>if isN L p then(if b=false∧A p=true then yL ks L p else 0)+ay (fun o=>if A p=false∧B o=true then(sL js ks L nj np p).getD (o * 2+1) 0 else 0) 8 else 0) 8
  + ay (fun o=>if o<np∧B o=false∧e=true then ps.getD (o * 2+1) 0 else 0) 8
end
theorem NY{c:Prop}[Decidable c]{f:Nat→Int}{n:Nat}:ay (fun i=>if c then f i else 0) n=if c then ay f n else 0:=by
 by_cases h:c
 ·rw[if_pos h]
  exact bz fun i _=>if_pos h
 ·rw[if_neg h]
  exact eW fun i _=>if_neg h
theorem cuts_of_sending{js ks ps L:List Int}{nj np:Nat}{T:Nat→Nat→Int}(ok:LaidNests js ks L nj np)(lo0:∀ p,isN L p→∀ q,0≤(sL js ks L nj np p).getD (q * 2) 0)(h:Sending js ks ps L nj np T)(A B:Nat→Bool)(b e:Bool)(hbe:b=true→e=true) :
  wk js ks ps L nj np A B b e≤canC js ks ps L nj np A B b e:=by
 have np8:=ok.np8
 obtain⟨X,hX⟩:∃ X:Nat→Nat→Int,∀ p o,X p o=if isN L p then(sL js ks L nj np p).getD (o * 2) 0+T p o else 0:=⟨_,fun _ _=>rfl⟩
 have Xn:∀ p,isN L p→∀ o,X p o=(sL js ks L nj np p).getD (o * 2) 0+T p o:=fun p hp o=>by rw[hX,if_pos hp]
 have Xz:∀ p,¬ isN L p→∀ o,X p o=0:=fun p hp o=>by rw[hX,if_neg hp]
 have X0:∀ p o,0≤X p o:=fun p o=>by
  by_cases c:isN L p
  ·rw[Xn p c]
   have:=lo0 p c o
   have:=h.ge p o
   omega
  ·rw[Xz p c]; exact Int.le_refl _
 have Xfar:∀ p o,np≤o→X p o=0:=fun p o ho=>by
  by_cases c:isN L p
  ·rw[Xn p c,(ok.far p c o ho).1,sending_far ok h.ge h.le ho]; rfl
  ·exact Xz p c o
 have Xrow:∀ p,isN L p→ay (X p) 8=yL ks L p:=fun p hp=>by
  have r:=h.row p hp.1
  unfold cX at r
  rw[if_pos hp] at r
  have:ay (X p) 8=ay (fun o=>(sL js ks L nj np p).getD (o * 2) 0) 8+ay (T p) 8:=by
   rw[← cK]
   exact bz fun o _=>Xn p hp o
  have t:total (sL js ks L nj np p) 0=ay (fun o=>(sL js ks L nj np p).getD (o * 2) 0) 8:=rfl
  omega
 have Xcol:∀ o,ay (fun p=>X p o) 8=lowL js ks L nj np o 8+ay (fun p=>T p o) 8:=fun o=>by
  unfold lowL
  rw[← cK]
  refine bz fun p hp=>?_
  by_cases c:isN L p
  ·rw[if_pos c,Xn p c]
  ·rw[if_neg c,Xz p c]
   have a:=h.ge p o
   have d:=h.le p o
   unfold wL at d
   rw[if_neg c] at d
   omega
 have hi:∀ p,isN L p→∀ o,(sL js ks L nj np p).getD (o * 2) 0≤X p o∧X p o≤(sL js ks L nj np p).getD (o * 2+1) 0:=fun p hp o=>by
  rw[Xn p hp]
  have a:=h.ge p o
  have d:=h.le p o
  unfold wL at d
  rw[if_pos hp] at d
  omega
 have up:wk js ks ps L nj np A B b e≤ay (fun p=>ay (fun o=>(if b=true∧A p=false then X p o else 0)+(if A p=true∧B o=false then X p o else 0)) 8) 8+ay (fun p=>ay (fun o=>if o<np∧B o=true∧e=false then X p o else 0) 8) 8:=by
  unfold wk
  have l1:∀ p,p<8→(if isN L p then(if b=true∧A p=false then yL ks L p else 0)+ay (fun o=>if A p=true∧B o=false then(sL js ks L nj np p).getD (o * 2) 0 else 0) 8 else 0)≤ay (fun o=>(if b=true∧A p=false then X p o else 0)+(if A p=true∧B o=false then X p o else 0)) 8:=fun p hp=>by
   rw[cK,NY]
   by_cases c:isN L p
   ·rw[if_pos c,show ay (fun i=>X p i) 8=ay (X p) 8 from rfl,Xrow p c]
    have:=kQ (f:=fun o=>if A p=true∧B o=false then(sL js ks L nj np p).getD (o * 2) 0 else 0) (g:=fun o=>if A p=true∧B o=false then X p o else 0) (i:=8) fun o _=>by
     by_cases d:A p=true∧B o=false
     ·show(if A p=true∧B o=false then _ else 0)≤(if A p=true∧B o=false then _ else 0)
      rw[if_pos d,if_pos d]; exact(hi p c o).1
     ·show(if A p=true∧B o=false then _ else 0)≤(if A p=true∧B o=false then _ else 0)
      rw[if_neg d,if_neg d]; exact Int.le_refl _
    omega
   ·rw[if_neg c]
    have z1:ay (fun i=>X p i) 8=0:=eW fun o _=>Xz p c o
    have z2:ay (fun o=>if A p=true∧B o=false then X p o else 0) 8=0:=eW fun o _=>by rw[Xz p c]; split <;> rfl
    rw[z1,z2]
    split <;> omega
  have l2:ay (fun o=>if o<np∧B o=true∧e=false then ps.getD (o * 2) 0 else 0) 8≤ay (fun p=>ay (fun o=>if o<np∧B o=true∧e=false then X p o else 0) 8) 8:=by
   rw[FJ]
   refine kQ fun o _=>?_
   rw[NY]
   by_cases c:o<np∧B o=true∧e=false
   ·rw[if_pos c,if_pos c,Xcol]; exact(h.col o c.1).1
   ·rw[if_neg c,if_neg c]; exact Int.le_refl _
  have:=kQ (i:=8) l1
  omega
 have low:ay (fun p=>ay (fun o=>(if b=false∧A p=true then X p o else 0)+(if A p=false∧B o=true then X p o else 0)) 8) 8+ay (fun p=>ay (fun o=>if o<np∧B o=false∧e=true then X p o else 0) 8) 8≤canC js ks ps L nj np A B b e:=by
  unfold canC
  have l1:∀ p,p<8→ay (fun o=>(if b=false∧A p=true then X p o else 0)+(if A p=false∧B o=true then X p o else 0)) 8≤(if isN L p then(if b=false∧A p=true then yL ks L p else 0)+ay (fun o=>if A p=false∧B o=true then(sL js ks L nj np p).getD (o * 2+1) 0 else 0) 8 else 0):=fun p hp=>by
   rw[cK,NY]
   by_cases c:isN L p
   ·rw[if_pos c,show ay (fun i=>X p i) 8=ay (X p) 8 from rfl,Xrow p c]
    have:=kQ (f:=fun o=>if A p=false∧B o=true then X p o else 0) (g:=fun o=>if A p=false∧B o=true then(sL js ks L nj np p).getD (o * 2+1) 0 else 0) (i:=8) fun o _=>by
     by_cases d:A p=false∧B o=true
     ·show(if A p=false∧B o=true then _ else 0)≤(if A p=false∧B o=true then _ else 0)
      rw[if_pos d,if_pos d]; exact(hi p c o).2
     ·show(if A p=false∧B o=true then _ else 0)≤(if A p=false∧B o=true then _ else 0)
      rw[if_neg d,if_neg d]; exact Int.le_refl _
    omega
   ·rw[if_neg c]
    have z1:ay (fun i=>X p i) 8=0:=eW fun o _=>Xz p c o
    have z2:ay (fun o=>if A p=false∧B o=true then X p o else 0) 8=0:=eW fun o _=>by rw[Xz p c]; split <;> rfl
    rw[z1,z2]
    split <;> omega
  have l2:ay (fun p=>ay (fun o=>if o<np∧B o=false∧e=true then X p o else 0) 8) 8≤ay (fun o=>if o<np∧B o=false∧e=true then ps.getD (o * 2+1) 0 else 0) 8:=by
   rw[FJ]
   refine kQ fun o _=>?_
   rw[NY]
   by_cases c:o<np∧B o=false∧e=true
   ·rw[if_pos c,if_pos c,Xcol]; exact(h.col o c.1).2
   ·rw[if_neg c,if_neg c]; exact Int.le_refl _
  have:=kQ (i:=8) l1
  omega
 refine Int.le_trans up (Int.le_trans ?_ low)
 rw[← cK,← cK]
 refine kQ fun p _=>?_
 rw[← cK,← cK]
 refine kQ fun o _=>?_
 by_cases ho:o<np
 ·have:=X0 p o
  cases b <;> cases e <;> cases A p <;> cases B o <;> simp [ho] <;> first | omega | (have:=hbe rfl; cases this)
 ·have z:=Xfar p o (by omega)
  simp only[z]
  cases b <;> cases e <;> cases A p <;> cases B o <;> simp
end Go.Proofs.Ytmjbdjnnojfhkaa.spec
end
section
namespace Go.Proofs.Ytmjbdjnnojfhkaa.spec
open Go Go.Ev Go.Proofs.Ytmjbdjnnojfhkaa.nestFits Go.Proofs.Ytmjbdjnnojfhkaa.G
set_option maxRecDepth 100000
variable {ρ:Type}
theorem range_in(c:Cal)(f g:FuncId)(first cap:List Value)(params:Array Tmp)(asg bod:Code)(K:KC ρ)(X:XC ρ)(Kr:KC ρ)(T:Tm)(H:Hp)(n:Nat)(D:List Nat) :
  EZ P c none f (.func (.func g) ⟨first⟩ ⟨cap⟩) params asg bod K X Kr T H n D =
   aX P c g (first++(.func (.yield (n+1)) #[] #[])::cap) ((H.set n (some .deferred)).set (n+1) (some (.loop .ready none f T (ntm P f) params asg bod n))) (n+2) fun _ H n'=>fin K X Kr (yY (n+1) { T:=T,H,n:=n',D:=n::D }):=rfl
theorem range_out{lb f N d:Nat}{T0 T:Tm}{params:Array Tmp}{asg bod:Code}{H:Hp}{n:Nat}{D:List Nat}{K:KC ρ}{X:XC ρ}{Kr:KC ρ}(h:H.get lb=some (.loop .ready none f T0 N params asg bod d)) :
  fin K X Kr (yY lb { T:=T,H,n,D })=K T (H.set lb (some (.loop .exhausted none f T0 N params asg bod d))) n D:=by
 unfold yY
 simp only[h]
 rfl
theorem yield_any{L lb f n1 n3 d:Nat}{T0 T1 T2 T3:Tm}{params:Array Tmp}{asg bod:Code}{args:List Value}{H H1 H3:Hp}{n:Nat}{D3:List Nat}{ex:Ex}{j:Option Code}
  (hl:H.get lb=some (.loop .ready none f T0 (ntm P f) params asg bod d)) (hpar:yX T0 (ntm P f) params.toList args=some T1)
  (hasg:(cal L).body lb f asg { T:=T1,H,n,D:=[] }=some (.norm,{ T:=T2,H:=H1,n:=n1,D:=[] })) (hl1:H1.get lb=H.get lb)
  (hbod:(cal L).body lb f bod { T:=T2,H:=H1.set lb (some (.loop .busy none f T0 (ntm P f) params asg bod d)),n:=n1,D:=[] }=some (ex,{ T:=T3,H:=H3,n:=n3,D:=D3 }))
  (hl3:H3.get lb=some (.loop .busy none f T0 (ntm P f) params asg bod d)) (hx:Wy ex=some j) (k:Value→Hp→Nat→Option ρ) :
  lQ P (cal L) (.func (.yield lb) #[] #[]) args H n k=k (.bool j.isNone) (H3.set lb (some (.loop (if j.isNone then .ready else .done) j f T0 (ntm P f) params asg bod d))) n3:=by
 rw[hl] at hl1
 have hrdy:Kv H1 lb=true:=by unfold Kv; rw[hl1]
 have hpen:yw H1 lb=none:=by unfold yw; rw[hl1]
 have hbusy:wV H1 lb .busy none=some (H1.set lb (some (.loop .busy none f T0 (ntm P f) params asg bod d))):=by unfold wV; rw[hl1]
 have hend:wV H3 lb (if j.isNone then .ready else .done) j=some (H3.set lb (some (.loop (if j.isNone then .ready else .done) j f T0 (ntm P f) params asg bod d))):=by unfold wV; rw[hl3]
 show stK (Ak (fun | some l=>(cal L).body l | none=>fun _ _ _=>none) P lb args (bare H n)) k=_
 have hy:Ak (fun | some l=>(cal L).body l | none=>fun _ _ _=>none) P lb args (bare H n)=some (.bool j.isNone,{ bare H n with H:=H3.set lb (some (.loop (if j.isNone then .ready else .done) j f T0 (ntm P f) params asg bod d)),n:=n3 }):=by
  unfold Ak
  have hb:Nat.beq (ntm P f) (ntm P f)=true:=Nat.beq_refl _
  simp only[bare,hl,hb,hpar,hasg,hrdy,hpen,hbusy,hbod,hx,hend]
 rw[hy]
 rfl
end Go.Proofs.Ytmjbdjnnojfhkaa.spec
end
section
namespace Go.Ev
open Go
variable {P:Program} {t t2 e e2:TypeId} {ρ:Type}
end Go.Ev
end
section
namespace Go.Ev
open Go
variable {P:Program}
theorem iX{α β:Type}(f:α→Sem β):∀ m:Sem α,cY P (m >>= f)=match cY P m with
  | some a=>cY P (f a)
  | none=>none
 | .pure _=>rfl
 | .load ..=>rfl
 | .store ..=>rfl
 | .new ..=>rfl
 | .shape ..=>rfl
 | .freeze ..=>rfl
 | .frozen ..=>rfl
 | .getObj ..=>rfl
 | .setObj ..=>rfl
 | .choose ..=>rfl
 | .sys ..=>rfl
 | .program k=>iX f (k P)
 | .mark _ k=>iX f k
 | .halt _=>rfl
theorem DV{α:Type}(a:α):cY P (pure a)=some a:=rfl
theorem sp_program:cY P program=some P:=rfl
theorem NZ{t:TypeId}{d:TypeDesc}(e:P.underlying t=some d):cY P (underlying t)=some d:=by
 unfold underlying
 rw[iX,sp_program]
 show cY P (match P.underlying t with | some d => pure d | none => stuck "no such type") = some d
 rw[e]
 rfl
theorem sp_isAgg{t:TypeId}{b:Bool}(e:fJ P t=some b):cY P (isAgg t)=some b:=by
 unfold fJ at e
 unfold isAgg
 rw[iX]
 split at e
 ·rename_i fs h; cases e; rw[NZ h]; rfl
 ·rename_i x y h; cases e; rw[NZ h]; rfl
 ·rename_i d h1 h2 h
  cases e
  rw[NZ h]
  cases d <;> first | rfl | exact absurd rfl (h1 _) | exact absurd rfl (h2 _ _)
 ·cases e
theorem sp_part{t:TypeId}{cs:List Value}{i:Nat}{v:Value}(e:fJ P t=some false)(h:cs[i]?=some v):cY P (part t ⟨cs⟩ i)=some v:=by
 unfold part
 rw[iX,sp_isAgg e]
 simp [h,DV]
theorem sp_equal_int{d:Nat}{t:TypeId}{k k':IntKind}{a b:Int}(h:P.underlying t=some (.int k')):cY P (Op.equalIn (d+1) t (.int k a) (.int k b))=some (a == b):=by
 unfold Op.equalIn
 rw[iX,NZ h]
 simp [DV]
theorem sp_equal_struct(d:Nat)(t:TypeId)(xs ys:Array Value){fs:Array Field}(ht:P.underlying t=some (.struct fs))(hp:P.stoodInHeld t=false) :
  cY P (Op.equalIn (d+1) t (.agg xs) (.agg ys))=cY P (Op.eqFields d xs ys fs.toList):=by
 unfold Op.equalIn
 rw[iX,NZ ht]
 simp only[iX,sp_program,hp,Bool.false_eq_true,if_false]
 rw[← Array.forIn_toList]
 generalize fs.toList=fs
 clear ht
 induction fs with
 | nil=>rfl
 | cons f fs ih=>
  by_cases hn : f.name ≠ "_"
  ·simp only[List.forIn_cons,Op.eqFields,iX,hn,ne_eq,not_false_eq_true,if_true]
   cases cY P (part f.type xs f.offset) with
   | none=>rfl
   | some a=>
    simp only
    cases cY P (part f.type ys f.offset) with
    | none=>rfl
    | some b=>
     simp only
     cases cY P (Op.equalIn d f.type a b) with
     | none=>rfl
     | some r=>
      cases r
      ·simp [DV]
      ·simp only[Bool.not_true,Bool.false_eq_true,if_false,DV]
       exact ih
  ·simp only[List.forIn_cons,Op.eqFields,iX,hn,if_false,DV]
   exact ih
theorem sp_eqFields{xs ys:List Value}(d:Nat):∀ {fs:List Field} {i:Nat} {l l':List Value} {r:Bool},Az P fs i=true→xs.drop i=l→ys.drop i=l'→fs.length=l.length→nW l l'=some r →
  cY P (Op.eqFields (d+1) ⟨xs⟩ ⟨ys⟩ fs)=some r
 | [],i,l,l',r,_,_,_,hl,he=>by
  cases l with
  | cons z zs=>simp at hl
  | nil=>cases l' with
   | nil=>simp [nW] at he; simp [Op.eqFields,he,DV]
   | cons z zs=>simp [nW] at he
 | f::fs,i,l,l',r,hf,hx,hy,hlen,he=>by
  simp only[Az] at hf
  split at hf
  ·rename_i k hn hu ha
   simp only[Bool.and_eq_true,bne_iff_ne,ne_eq,Nat.beq_eq] at hn
   obtain⟨hn,rfl⟩:=hn
   match l,l',he with
   | [],_,_=>simp at hlen
   | .int k1 a::l,.int k2 b::l',he=>
    have gx:xs[f.offset]?=some (.int k1 a):=by
     have:=congrArg (fun z=>z[0]?) hx; simpa using this
    have gy:ys[f.offset]?=some (.int k2 b):=by
     have:=congrArg (fun z=>z[0]?) hy; simpa using this
    have px:=sp_part ha gx
    have py:=sp_part ha gy
    have dx:xs.drop (f.offset+1)=l:=by rw[← List.drop_drop,hx]; rfl
    have dy:ys.drop (f.offset+1)=l':=by rw[← List.drop_drop,hy]; rfl
    simp only[nW] at he
    split at he
    ·rename_i h1 h2
     have h1:=of_decide_eq_true h1
     have h2:=of_decide_eq_true h2
     subst h1; subst h2
     have ih:=sp_eqFields d hf dx dy (by simpa using hlen) he
     simp only[Op.eqFields,hn,ne_eq,not_false_eq_true,if_true,iX,px,py,sp_equal_int hu,beq_self_eq_true,Bool.not_true,Bool.false_eq_true,if_false,ih]
    ·rename_i h1 h2
     have h1:=of_decide_eq_true h1
     have h2:=of_decide_eq_false h2
     cases he
     subst h1
     simp only[Op.eqFields,hn,ne_eq,not_false_eq_true,if_true,iX,px,py,sp_equal_int hu,beq_eq_false_iff_ne.2 h2,Bool.not_false,DV]
    ·cases he
  ·cases hf
theorem sp_check{xs:List Value}(em:Bool)(d:Nat):∀ {fs:List Field} {i:Nat},Az P fs i=true→i+fs.length≤xs.length →
  cY P (forIn (m:=Sem) fs PUnit.unit fun f _=>do
   if f.name ≠ "_" then do
    Instr.checkKey em (d+1) f.type (← part f.type ⟨xs⟩ f.offset)
    pure (ForInStep.yield PUnit.unit)
   else pure (ForInStep.yield PUnit.unit))=some PUnit.unit
 | [],i,_,_=>rfl
 | f::fs,i,hf,hl=>by
  simp only[Az] at hf
  split at hf
  ·rename_i k hn hu ha
   simp only[Bool.and_eq_true,bne_iff_ne,ne_eq,Nat.beq_eq] at hn
   obtain⟨hn,rfl⟩:=hn
   simp only[List.length_cons] at hl
   have hlt:f.offset<xs.length:=by omega
   have px:=sp_part (P:=P) (cs:=xs) ha (List.getElem?_eq_getElem hlt)
   have hc:cY P (Instr.checkKey em (d+1) f.type xs[f.offset])=some ():=by
    unfold Instr.checkKey
    rw[iX,NZ hu]
    rfl
   have ih:=sp_check (xs:=xs) em d hf (by omega)
   simp only[List.forIn_cons,iX,hn,ne_eq,not_false_eq_true,if_true,px,hc,DV]
   exact ih
  ·cases hf
theorem sp_checkKey{k:TypeId}{n:Nat}{x:List Value}(hn:Iv P k=some n)(hl:x.length=n)(em:Bool):cY P (Instr.checkKey em 10000 k (.agg ⟨x⟩))=some ():=by
 obtain⟨fs,hu,hp,hf,hl'⟩:=Uw hn
 rw[show(10000:Nat)=9998+1+1 from rfl,Instr.checkKey]
 rw[iX,NZ hu]
 show cY P (forIn (m:=Sem) fs PUnit.unit _ >>= _)=_
 rw[← Array.forIn_toList,iX]
 have:=sp_check (P:=P) (xs:=x) em 9998 hf (by omega)
 rw[this]
 rfl
theorem sp_asking{k:TypeId}{fs:Array Field}{x:List Value}(hu:P.underlying k=some (.struct fs))(hp:P.stoodInHeld k=false)(hf:Az P fs.toList 0=true)(hl:fs.toList.length=x.length) :
  ∀ {es:List MapEntry} {i:Nat} {r:Option (Nat × Value)},oq x es i=some r→cY P (Instr.findAsking k (.agg ⟨x⟩) es i)=some r
 | [],i,r,e=>by simp [oq] at e; simp [Instr.findAsking,← e,DV]
 | e0::es,i,r,e=>by
  simp only[oq] at e
  split at e
  ·rename_i l hk
   have run:∀ {b:Bool},nW x l=some b→cY P (Op.equal k (.agg ⟨x⟩) e0.key)=some b:=by
    intro b hb
    rw[hk,Op.equal,show Op.maxDepth=9998+1+1 from rfl,sp_equal_struct (9998+1) k _ _ hu hp]
    exact sp_eqFields 9998 hf rfl rfl hl hb
   split at e
   ·rename_i hb
    cases e
    rw[Instr.findAsking,iX,run hb]
    rfl
   ·rename_i hb
    rw[Instr.findAsking,iX,run hb]
    exact sp_asking hu hp hf hl e
   ·cases e
  ·cases e
theorem sp_findKey{k:TypeId}{n:Nat}{x:List Value}{es:List MapEntry}{r:Option (Nat × Value)}(hn:Iv P k=some n)(hl:x.length=n)(e:oq x es 0=some r):cY P (Instr.findKey k (.agg ⟨x⟩) es)=some r:=by
 obtain⟨fs,hu,hp,hf,hl'⟩:=Uw hn
 unfold Instr.findKey
 rw[iX,NZ hu]
 cases es with
 | nil=>
  simp [oq] at e
  rw[← e]
  rfl
 | cons e0 es=>exact sp_asking hu hp hf (by omega) e
abbrev MapL:=List (List Int × Int)
def keyV(k:List Int):Value:=.agg ⟨k.map (.int .i64)⟩
def entE(x:List Int × Int)(i:Nat):MapEntry:={ key:=keyV x.1,val:=.int .i64 x.2,born:=i }
def nZ:MapL→Nat→List MapEntry
 | [],_=>[]
 | x::l,i=>entE x i::nZ l (i+1)
def zy(k:List Int):MapL→Nat→Option (Nat × Int)
 | [],_=>none
 | x::l,i=>if x.1=k then some (i,x.2) else zy k l (i+1)
def getF:MapL→List Int→Int
 | [],_=>0
 | x::l,k=>if x.1=k then x.2 else getF l k
def putL(k:List Int)(v:Int):MapL→MapL
 | []=>[(k,v)]
 | x::l=>if x.1=k then(k,v)::l else x::putL k v l
theorem qmj(k:List Int)(v:Int)(q:List Int):∀ l:MapL,getF (putL k v l) q=if q=k then v else getF l q
 | []=>by
  simp only[putL,getF]
  by_cases h:q=k
  ·rw[if_pos h,if_pos h.symm]
  ·rw[if_neg h,if_neg (fun e=>h e.symm)]
 | x::l=>by
  simp only[putL]
  by_cases c:x.1=k
  ·rw[if_pos c]
   simp only[getF]
   by_cases h:q=k
   ·rw[if_pos h,if_pos h.symm]
   ·rw[if_neg h,if_neg (fun e=>h e.symm),if_neg (fun e=>h (e.symm.trans c))]
  ·rw[if_neg c]
   simp only[getF]
   rw[qmj k v q l]
   by_cases h:x.1=q
   ·rw[if_pos h,if_pos h,if_neg (fun e=>c (h.trans e))]
   ·rw[if_neg h,if_neg h]
theorem keys_eq:∀ {k k':List Int},k.length=k'.length→nW (k.map (.int .i64)) (k'.map (.int .i64))=some (decide (k=k'))
 | [],[],_=>rfl
 | a::k,b::k',h=>by
  have ih:=keys_eq (k:=k) (k':=k') (by simpa using h)
  simp only[List.map_cons,nW,decide_true]
  by_cases c:a=b
  ·rw[decide_eq_true c]
   simp only
   rw[ih]
   simp [c]
  ·rw[decide_eq_false c]
   simp [c]
theorem KZ{n:Nat}{k:List Int}(hk:k.length=n):∀ {l:MapL} {i:Nat},(∀ x ∈ l,x.1.length=n)→oq (k.map (.int .i64)) (nZ l i) i=some ((zy k l i).map fun p=>(p.1,.int .i64 p.2))
 | [],i,_=>rfl
 | x::l,i,h=>by
  have hx:=h x (List.mem_cons_self ..)
  simp only[nZ,oq,entE,keyV,zy]
  rw[keys_eq (by omega)]
  by_cases c:x.1=k
  ·rw[decide_eq_true c.symm,if_pos c]
   rfl
  ·rw[decide_eq_false (fun e=>c e.symm),if_neg c]
   exact KZ hk (l:=l) (i:=i+1) fun y hy=>h y (List.mem_cons_of_mem _ hy)
theorem NK{k:List Int}:∀ {l:MapL} {i j:Nat} {u:Int},zy k l i=some (j,u)→u=getF l k∧i≤j∧j<i+l.length
 | [],i,j,u,h=>by cases h
 | x::l,i,j,u,h=>by
  simp only[zy] at h
  simp only[getF,List.length_cons]
  by_cases c:x.1=k
  ·rw[if_pos c] at h ⊢
   cases h
   exact⟨rfl,Nat.le_refl _,by omega⟩
  ·rw[if_neg c] at h ⊢
   obtain⟨h1,h2,h3⟩:=NK h
   exact⟨h1,by omega,by omega⟩
theorem Vx{k:List Int}:∀ {l:MapL} {i:Nat},zy k l i=none→getF l k=0
 | [],i,h=>rfl
 | x::l,i,h=>by
  simp only[zy] at h
  simp only[getF]
  by_cases c:x.1=k
  ·rw[if_pos c] at h; cases h
  ·rw[if_neg c] at h ⊢
   exact Vx h
theorem Qk{k:List Int}{v:Int}:∀ {l:MapL} {i j:Nat} {u:Int},zy k l i=some (j,u) →
  (nZ l i).modify (j-i) (fun e=>{ key:=keyV k,val:=.int .i64 v,born:=e.born })=nZ (putL k v l) i∧(nZ l i).modify (j-i) (fun e=>{ key:=e.key,val:=.int .i64 v,born:=e.born })=nZ (putL k v l) i ∧
   (nZ l i).modify (j-i) (fun e=>{ key:=keyV k,val:=e.val,born:=e.born })=nZ l i∧(nZ l i)[j-i]?=some (entE (k,u) j)∧(putL k v l).length=l.length
 | [],i,j,u,h=>by cases h
 | x::l,i,j,u,h=>by
  simp only[zy] at h
  simp only[putL]
  by_cases c:x.1=k
  ·rw[if_pos c] at h ⊢
   cases h
   obtain⟨xk,xv⟩:=x
   have c:xk=k:=c
   subst c
   simp only[Nat.sub_self,nZ]
   exact⟨rfl,rfl,rfl,rfl,rfl⟩
  ·rw[if_neg c] at h ⊢
   have hj:=NK h
   obtain⟨h1,h2,h3,h4,h5⟩:=Qk (v:=v) h
   have e:j-i=(j-(i+1))+1:=by omega
   rw[e]
   simp only[nZ,List.modify_succ_cons,List.getElem?_cons_succ,h1,h2,h3,h4,List.length_cons,h5]
   exact⟨trivial,trivial,trivial,trivial,trivial⟩
theorem put_new{k:List Int}{v:Int}:∀ {l:MapL} {i:Nat},zy k l i=none→nZ l i++[{ key:=keyV k,val:=.int .i64 v,born:=i+l.length }]=nZ (putL k v l) i∧(putL k v l).length=l.length+1∧zy k (putL k v l) i=some (i+l.length,v)
 | [],i,_=>by
  refine⟨rfl,rfl,?_⟩
  simp only[putL,zy,if_true]
  rfl
 | x::l,i,h=>by
  simp only[zy] at h
  by_cases c:x.1=k
  ·rw[if_pos c] at h; cases h
  ·rw[if_neg c] at h
   obtain⟨h1,h2,h3⟩:=put_new (v:=v) h
   have e:i+(x::l).length=i+1+l.length:=by simp only[List.length_cons]; omega
   refine⟨?_,?_,?_⟩
   ·simp only[putL,if_neg c,nZ,List.cons_append]
    rw[e,h1]
   ·simp only[putL,if_neg c,List.length_cons,h2]
   ·simp only[putL,if_neg c,zy]
    rw[e,h3]
theorem Vy{n:Nat}{k:List Int}{v:Int}(hk:k.length=n):∀ {l:MapL},(∀ x ∈ l,x.1.length=n)→∀ x ∈ putL k v l,x.1.length=n
 | [],_,x,hx=>by
  simp only[putL,List.mem_singleton] at hx
  rw[hx]; exact hk
 | y::l,h,x,hx=>by
  simp only[putL] at hx
  by_cases c:y.1=k
  ·rw[if_pos c] at hx
   rcases List.mem_cons.1 hx with e | e
   ·rw[e]; exact hk
   ·exact h x (List.mem_cons_of_mem _ e)
  ·rw[if_neg c] at hx
   rcases List.mem_cons.1 hx with e | e
   ·rw[e]; exact h y (List.mem_cons_self ..)
   ·exact Vy hk (fun z hz=>h z (List.mem_cons_of_mem _ hz)) x e
theorem same_bits(k:List Int):Instr.sameBits 10000 (keyV k) (keyV k)=true:=by
 have each:∀ v:Int,Instr.sameBits 9999 (.int .i64 v) (.int .i64 v)=true:=fun v=>by
  show Instr.sameBits (9998+1) (.int .i64 v) (.int .i64 v)=true
  unfold Instr.sameBits
  simp
 show Instr.sameBits (9999+1) (keyV k) (keyV k)=true
 unfold keyV
 rw[Instr.sameBits]
 simp only[beq_self_eq_true,Bool.true_and]
 rw[List.all_eq_true]
 intro p hp
 have:∀ {l:List Value} {p:Value × Value},p ∈ l.zip l→p.1=p.2∧p.1 ∈ l:=fun {l} {p} h=>by
  induction l with
  | nil=>cases h
  | cons a l ih=>
   rw[List.zip_cons_cons] at h
   rcases List.mem_cons.1 h with e | e
   ·rw[e]; exact⟨rfl,List.mem_cons_self ..⟩
   ·exact⟨(ih e).1,List.mem_cons_of_mem _ (ih e).2⟩
 obtain⟨h1,h2⟩:=this hp
 obtain⟨v,_,hv⟩:=List.mem_map.1 h2
 rw[← h1,← hv]
 exact each v
theorem sp_stays(k:List Int):cY P (Instr.keyThatStays (keyV k) (keyV k))=some (keyV k):=by
 unfold Instr.keyThatStays
 rw[if_pos (same_bits k)]
 rfl
structure MapAt (H:Hp) (r n:Nat) (l:MapL):Prop where
 block:H.get r=some (.map (nZ l 0) l.length)
 keys:∀ x ∈ l,x.1.length=n
theorem Vz(k:List Int):bw (keyV k)=true:=by
 have:∀ k:List Int,ck (k.map (.int .i64))=true:=fun k=>by
  induction k with
  | nil=>rfl
  | cons a k ih=>exact ih
 exact this k
section
variable {t key elem:TypeId} {n:Nat} {H:Hp} {r:Nat} {l:MapL} {k:List Int}
theorem map_get(ht:TY P t=some (key,elem))(hf:Iv P key=some n)(hz:iJ P elem=some (.int .i64 0))(h:MapAt H r n l)(hk:k.length=n):lk P H t (.map (some r)) (keyV k) false=some (.int .i64 (getF l k)):=by
 unfold lk ZK
 rw[ht]
 simp only[h.block,Vz]
 unfold qcx Px
 show(match (match Iv P key with | some n=>(match Nat.beq (k.map (Value.int .i64)).length n with | true=>oq (k.map (.int .i64)) (nZ l 0) 0 | false=>none) | none=>none) with | some r=>TZ P elem false r | none=>_)=_
 rw[hf]
 have:Nat.beq (k.map (Value.int .i64)).length n=true:=by rw[List.length_map,hk]; exact Nat.beq_refl n
 simp only[this,KZ hk h.keys]
 cases c:zy k l 0 with
 | none=>
  rw[Vx c]
  show TZ P elem false none=_
  unfold TZ
  rw[hz]
  rfl
 | some p=>
  obtain⟨j,u⟩:=p
  rw[← (NK c).1]
  rfl
theorem map_put{v:Int}(ht:TY P t=some (key,elem))(hf:Iv P key=some n)(h:MapAt H r n l)(hk:k.length=n) :
  ∃ H',BZ P t (.map (some r)) (keyV k) (.int .i64 v) H=some H'∧MapAt H' r n (putL k v l)∧∀ b,b≠r→H'.get b=H.get b:=by
 have hq:=sp_findKey (P:=P) (x:=k.map (.int .i64)) (es:=nZ l 0) hf (by rw[List.length_map,hk]) (KZ hk h.keys)
 have hc:=sp_checkKey (P:=P) (x:=k.map (.int .i64)) hf (by rw[List.length_map,hk]) false
 have key':cY P (updS key (nZ l 0) l.length (keyV k) (.int .i64 v))=some (nZ (putL k v l) 0,(putL k v l).length):=by
  unfold updS
  rw[iX,show keyV k=.agg ⟨k.map (.int .i64)⟩ from rfl,hc]
  simp only
  rw[iX,hq]
  cases c:zy k l 0 with
  | none=>
   obtain⟨h1,h2,_⟩:=put_new (v:=v) c
   rw[← h1,h2,Nat.zero_add]
   rfl
  | some p=>
   obtain⟨j,u⟩:=p
   obtain⟨h1,_,_,h4,h5⟩:=Qk (v:=v) c
   rw[Nat.sub_zero] at h1 h4
   simp only[Option.map_some]
   rw[iX,h4]
   simp only[Option.map_some,Option.getD_some]
   have hst:cY P (Instr.keyThatStays (entE (k,u) j).key (.agg ⟨k.map (.int .i64)⟩))=some (keyV k):=sp_stays k
   rw[hst]
   rw[← h1,h5]
   rfl
 refine⟨H.set r (some (.map (nZ (putL k v l) 0) (putL k v l).length)),?_,⟨?_,Vy hk h.keys⟩,?_⟩
 ·unfold BZ
  rw[ht]
  simp only[h.block]
  rw[show(bw (keyV k) && bw (.int .i64 v))=true by rw[Vz]; rfl]
  simp only[key']
 ·rw[Tr.get_set,if_pos rfl]
 ·intro b hb
  rw[Tr.get_set,if_neg hb]
theorem map_entry(ht:TY P t=some (key,elem))(hf:Iv P key=some n)(hz:cY P (zeroValue elem)=some (.int .i64 0))(h:MapAt H r n l)(hk:k.length=n) :
  ∃(j:Nat) (l':MapL) (H':Hp),Dk P t (.map (some r)) (keyV k) H=some (.tuple ⟨[.int .i64 (getF l k),.int .i64 j]⟩,H')∧MapAt H' r n l'∧(∀ q,getF l' q=getF l q)∧zy k l' 0=some (j,getF l k)∧∀ b,b≠r→H'.get b=H.get b:=by
 have hq:=sp_findKey (P:=P) (x:=k.map (.int .i64)) (es:=nZ l 0) hf (by rw[List.length_map,hk]) (KZ hk h.keys)
 have hc:=sp_checkKey (P:=P) (x:=k.map (.int .i64)) hf (by rw[List.length_map,hk]) false
 cases c:zy k l 0 with
 | none=>
  obtain⟨h1,h2,h3⟩:=put_new (v:=0) c
  rw[Nat.zero_add] at h1 h3
  have e:cY P (entS key elem (nZ l 0) l.length (keyV k))=some (.tuple #[.int .i64 0,goInt l.length],nZ (putL k 0 l) 0,(putL k 0 l).length):=by
   unfold entS
   rw[iX,show keyV k=.agg ⟨k.map (.int .i64)⟩ from rfl,hc]
   simp only
   rw[iX,hq,c]
   simp only[Option.map_none]
   rw[iX,hz,← h1,h2]
   rfl
  refine⟨l.length,putL k 0 l,H.set r (some (.map (nZ (putL k 0 l) 0) (putL k 0 l).length)),?_,⟨?_,Vy hk h.keys⟩,fun q=>?_,?_,fun b hb=>?_⟩
  ·unfold Dk
   rw[ht]
   simp only[h.block,Vz,e]
   rw[Vx c]
   rfl
  ·rw[Tr.get_set,if_pos rfl]
  ·rw[qmj]
   split
   ·rename_i hqk; rw[hqk,Vx c]
   ·rfl
  ·rw[h3,Vx c]
  ·rw[Tr.get_set,if_neg hb]
 | some p=>
  obtain⟨j,u⟩:=p
  obtain⟨_,_,h3,h4,_⟩:=Qk (v:=0) c
  rw[Nat.sub_zero] at h3 h4
  have hu:=(NK c).1
  have e:cY P (entS key elem (nZ l 0) l.length (keyV k))=some (.tuple #[.int .i64 u,goInt j],nZ l 0,l.length):=by
   unfold entS
   rw[iX,show keyV k=.agg ⟨k.map (.int .i64)⟩ from rfl,hc]
   simp only
   rw[iX,hq,c]
   simp only[Option.map_some]
   rw[iX,h4]
   simp only[Option.map_some,Option.getD_some]
   have hst:cY P (Instr.keyThatStays (entE (k,u) j).key (.agg ⟨k.map (.int .i64)⟩))=some (keyV k):=sp_stays k
   rw[hst]
   show some (_,(nZ l 0).modify j (fun e=>{ key:=keyV k,val:=e.val,born:=e.born }),_)=_
   rw[h3]
   rfl
  refine⟨j,l,H.set r (some (.map (nZ l 0) l.length)),?_,⟨?_,h.keys⟩,fun q=>rfl,by rw[c,hu],fun b hb=>?_⟩
  ·unfold Dk
   rw[ht]
   simp only[h.block,Vz,e]
   rw[← hu]
   rfl
  ·rw[Tr.get_set,if_pos rfl]
  ·rw[Tr.get_set,if_neg hb]
theorem born_at:∀ {l:MapL} {i j:Nat},i≤j→j<i+l.length→(nZ l i).findIdx? (fun e=>(e.born:Int) == (j:Int))=some (j-i)
 | [],i,j,h1,h2=>by simp at h2; omega
 | x::l,i,j,h1,h2=>by
  simp only[nZ,List.findIdx?_cons]
  by_cases c:i=j
  ·subst c
   simp [entE]
  ·have:((entE x i).born:Int)≠(j:Int):=fun e=>c (by have:(i:Int)=j:=e; omega)
   rw[beq_eq_false_iff_ne.2 this]
   simp only[List.length_cons] at h2
   rw[born_at (l:=l) (i:=i+1) (j:=j) (by omega) (by omega)]
   simp only[Option.map_some]
   congr 1
   simp only[Bool.false_eq_true,if_false]
   congr 1
   omega
theorem map_store{j:Nat}{u v:Int}(h:MapAt H r n l)(hk:k.length=n)(hj:zy k l 0=some (j,u)) :
  ∃ H',MV (.map (some r)) (.int .i64 j) (.int .i64 v) H=some H'∧MapAt H' r n (putL k v l)∧∀ b,b≠r→H'.get b=H.get b:=by
 obtain⟨_,h1,_,_,h5⟩:=Qk (v:=v) hj
 have hb:=NK hj
 have e:=born_at (l:=l) (i:=0) (j:=j) (by omega) (by omega)
 rw[Nat.sub_zero] at e h1
 refine⟨H.set r (some (.map (nZ (putL k v l) 0) (putL k v l).length)),?_,⟨?_,Vy hk h.keys⟩,fun b hb=>?_⟩
 ·unfold MV
  simp only[h.block]
  rw[show bw (.int .i64 v)=true from rfl]
  simp only[e]
  rw[← h1,h5]
 ·rw[Tr.get_set,if_pos rfl]
 ·rw[Tr.get_set,if_neg hb]
end
end Go.Ev
end
section
namespace Go.Proofs.Ytmjbdjnnojfhkaa.spec
open Go Go.Ev Go.Proofs.Ytmjbdjnnojfhkaa.nestFits Go.Proofs.Ytmjbdjnnojfhkaa.G
set_option maxRecDepth 100000
variable {ρ:Type}
theorem qmk:TY P 160=some (162,3):=by kernel_rfl
theorem qmv:Iv P 162=some 2:=by kernel_rfl
theorem zero3v:iJ P 3=some (.int .i64 0):=by kernel_rfl
theorem szero3:cY P (zeroValue 3)=some (.int .i64 0):=by kernel_rfl
theorem Ek(a b:Nat):fK P 162 [(0,.int .i64 a),(1,.int .i64 b)]=some (keyV [(a:Int),(b:Int)]):=by kernel_rfl
theorem zk:fJ P 160=some false:=by kernel_rfl
theorem agg180:fJ P 180=some false:=by kernel_rfl
theorem sz180:szT P 180=some 1:=by kernel_rfl
theorem zero179b:iJ P 179=some (.agg ⟨List.replicate 18 (.bool false)⟩):=by kernel_rfl
theorem zero180:iJ P 180=some .nilFunc:=by kernel_rfl
theorem und179:P.underlying 179=some (.array 18 4):=by kernel_rfl
theorem at179(b:Nat){i:Nat}(hi:i<18):aJ P 179 (.pointer (some ⟨b,0,none⟩)) (.int .i64 i)=some (.pointer (some ⟨b,i,none⟩)):=by
 unfold aJ
 have h1:qY (.int .i64 (i:Int)) 18=some i:=by
  show qY (.int .i64 (.ofNat i)) 18=some i
  simp [qY,hi]
 simp only[und179,h1,show szT P 4=some 1 from sz4,addA,Nat.mul_one,Nat.zero_add]
def netM(l:MapL):Net:=fun u v=>getF l [(u:Int),(v:Int)]
def gK(H:Hp)(r:Nat)(m:Net):Prop:=∃ l,MapAt H r 2 l∧netM l=m
theorem gK.keep{H H':Hp}{r:Nat}{m:Net}(h:gK H r m)(hk:H'.get r=H.get r):gK H' r m:=by
 obtain⟨l,h1,h2⟩:=h
 exact⟨l,⟨hk.trans h1.block,h1.keys⟩,h2⟩
theorem Vk{H:Hp}{r:Nat}{m:Net}(h:gK H r m)(u v:Nat):lk P H 160 (.map (some r)) (keyV [(u:Int),(v:Int)]) false=some (.int .i64 (m u v)):=by
 obtain⟨l,h1,h2⟩:=h
 rw[map_get qmk qmv zero3v h1 rfl,← h2]
 rfl
theorem key_two{a b u v:Nat}:([(a:Int),(b:Int)]=[(u:Int),(v:Int)])↔a=u∧b=v:=by
 simp only[List.cons.injEq,and_true]
 omega
def setN(m:Net)(u v:Nat)(x:Int):Net:=fun a b=>if a=u∧b=v then x else m a b
theorem netM_put(l:MapL)(u v:Nat)(x:Int):netM (putL [(u:Int),(v:Int)] x l)=setN (netM l) u v x:=by
 funext a b
 unfold netM setN
 rw[qmj]
 by_cases h:a=u∧b=v
 ·rw[if_pos h,if_pos (key_two.2 h)]
 ·rw[if_neg h,if_neg (fun q=>h (key_two.1 q))]
theorem qej{H:Hp}{r:Nat}{m:Net}(h:gK H r m)(u v:Nat)(x:Int):∃ H',BZ P 160 (.map (some r)) (keyV [(u:Int),(v:Int)]) (.int .i64 x) H=some H'∧gK H' r (setN m u v x)∧∀ b,b≠r→H'.get b=H.get b:=by
 obtain⟨l,h1,h2⟩:=h
 obtain⟨H',e1,e2,e3⟩:=map_put (v:=x) qmk qmv h1 (k:=[(u:Int),(v:Int)]) rfl
 exact⟨H',e1,⟨_,e2,by rw[netM_put,h2]⟩,e3⟩
theorem effK_m{t:TypeId}{mv kx v u:Value}{H H2:Hp}{n n2:Nat}{op:Hp→Nat→(Value→Hp→Nat→Option ρ)→Option ρ}{k:Value→Hp→Nat→Option ρ}
  (ho:∀ k:Value→Hp→Nat→Option ρ,op H n k=k v H2 n2) (hs:sameV u u=true) (hu:lk P H2 t mv kx false=some u) :
  effK P [(.m t mv kx false u)] H n op k=k v H2 n2:=by
 unfold effK
 simp only[vQ,sW,aj,ho,zq,oK,chkX,chkE,hu,hs,Bool.and_self]
 rfl
theorem same_int(x:Int):sameV (.int .i64 x) (.int .i64 x)=true:=by
 show MZ [.int .i64 x] [.int .i64 x]=true
 unfold MZ
 simp [MZ]
 constructor
 ·rfl
 ·split
  ·rfl
  ·rename_i h _; exact absurd rfl h
theorem net_op{H:Hp}{n r:Nat}{m:Net}(h:gK H r m)(u v:Nat)(x:Int) :
  ∃(r2:Value) (j:Nat) (H1 H2:Hp),(∀ k:Value→Hp→Nat→Option ρ,effK P [(.m 160 (.map (some r)) (keyV [(u:Int),(v:Int)]) false (.int .i64 (m u v)))] H n (fun H n k=>aq (Dk P 160 (.map (some r)) (keyV [(u:Int),(v:Int)]) H) fun r=>k r.1 r.2 n) k=k r2 H1 n) ∧
   tupV r2 1=some (.int .i64 j)∧MV (.map (some r)) (.int .i64 j) (.int .i64 x) H1=some H2∧gK H2 r (setN m u v x)∧∀ b,b≠r→H2.get b=H.get b:=by
 obtain⟨l,h1,h2⟩:=h
 obtain⟨j,l',H1,e1,e2,e3,e4,e5⟩:=map_entry (P:=P) (k:=[(u:Int),(v:Int)]) qmk qmv szero3 h1 rfl
 obtain⟨H2,f1,f2,f3⟩:=map_store (v:=x) e2 rfl e4
 have hn1:gK H1 r m:=⟨l',e2,by rw[← h2]; funext a b; exact e3 _⟩
 refine⟨.tuple ⟨[.int .i64 (getF l [(u:Int),(v:Int)]),.int .i64 j]⟩,j,H1,H2,fun k=>?_,rfl,f1,⟨_,f2,?_⟩,fun b hb=>(f3 b hb).trans (e5 b hb)⟩
 ·exact effK_m (fun k=>by rw[e1]; rfl) (same_int _) (Vk hn1 u v)
 ·rw[netM_put]
  have:netM l'=m:=by rw[← h2]; funext a b; exact e3 _
  rw[this]
def Sv(sb nb fb:Nat):Value:=.func (.func 123) ⟨[]⟩ ⟨[.pointer (some ⟨sb,0,none⟩),.pointer (some ⟨nb,0,none⟩),.pointer (some ⟨fb,0,none⟩)]⟩
theorem call123(l:Nat)(a b c d e:Value)(H:Hp)(n:Nat):(cal (l+1)).call 123 [a,b,c,d,e] H n=Pj (cal l) KK a b c d e H n:=by kernel_rfl
theorem srch_value(l:Nat)(a b:Value)(sb nb fb:Nat)(H:Hp)(n:Nat)(k:Value→Hp→Nat→Option ρ):lQ P (cal (l+1)) (Sv sb nb fb) [a,b] H n k=aq (Pj (cal l) KK a b (.pointer (some ⟨sb,0,none⟩)) (.pointer (some ⟨nb,0,none⟩)) (.pointer (some ⟨fb,0,none⟩)) H n) fun r=>k r.1 r.2.1 r.2.2:=by
 unfold Sv
 rw[callVK_f]
 show aX P (cal (l+1)) 123 [a,b,.pointer (some ⟨sb,0,none⟩),.pointer (some ⟨nb,0,none⟩),.pointer (some ⟨fb,0,none⟩)] H n k=_
 unfold aX
 have:(iY P 123 && ck [a,b,.pointer (some ⟨sb,0,none⟩),.pointer (some ⟨nb,0,none⟩),.pointer (some ⟨fb,0,none⟩)])=false:=by simp [ck,bw]
 rw[this,call123]
structure StS (H:Hp) (sb nb fb rb:Nat) (seen:Nat→Bool) (m:Net):Prop where
 seen:cZ H sb 18 179 fun k=>.bool (seen k)
 self:H.get fb=some (.cells [Sv sb nb fb] 180 false none)
 cell:H.get nb=some (.cells [.map (some rb)] 160 false none)
 net:gK H rb m
structure PlS (base sb nb fb rb:Nat):Prop where
 low:sb<base∧nb<base∧fb<base∧rb<base
 off:sb≠nb∧sb≠fb∧sb≠rb∧nb≠rb∧fb≠rb
theorem StS.keep{H H':Hp}{base n sb nb fb rb:Nat}{seen:Nat→Bool}{m:Net}(h:StS H sb nb fb rb seen m)(pl:PlS base sb nb fb rb)(hb:base≤n)(hk:∀ b,b<n→H'.get b=H.get b):StS H' sb nb fb rb seen m:=by
 obtain⟨l1,l2,l3,l4⟩:=pl.low
 refine⟨?_,(hk _ (by omega)).trans h.self,(hk _ (by omega)).trans h.cell,h.net.keep (hk _ (by omega))⟩
 obtain⟨c,a1,a2,a3⟩:=h.seen
 exact⟨c,(hk _ (by omega)).trans a1,a2,a3⟩
def sX(m:Net):Prop:=∀ u v,0≤m u v∧(u<18→v<18→m u v+m v u≤1000000)
def VJ(r:Res)(n:Nat)(H:Hp)(sb nb fb rb:Nat)(w:Went):Prop:=∃ H' n',r=some (.int .i64 w.sent,H',n')∧n≤n'∧StS H' sb nb fb rb w.seen w.net∧∀ b,b<n→b≠sb→b≠rb→H'.get b=H.get b
theorem goesN_step{rec:Nat→Int→(Nat→Bool)→Net→Went}{N node i:Nat}{young:Int}{seen:Nat→Bool}{n:Net}(h:i<N):zx rec N node young (N-i) seen n =
  if n node i=0∨seen i=true then zx rec N node young (N-(i+1)) seen n
  else if 0<(rec i (min young (n node i)) seen n).sent then⟨(rec i (min young (n node i)) seen n).sent,(rec i (min young (n node i)) seen n).seen,wz (rec i (min young (n node i)) seen n).net node i (rec i (min young (n node i)) seen n).sent⟩
  else zx rec N node young (N-(i+1)) (rec i (min young (n node i)) seen n).seen (rec i (min young (n node i)) seen n).net:=by
 have e:N-i=(N-(i+1))+1:=by omega
 have e2:N-((N-(i+1))+1)=i:=by omega
 rw[e,zx,e2]
theorem least_row(l:Nat)(a x:Int){H:Hp}{n b fb:Nat}{sb nb:Nat}(hf:H.get fb=some (.cells [Sv sb nb fb] 180 false none))(hx:H.get b=some (.cells [.int .i64 x] 3 false none))(hne:b≠fb) :
  ∃ H',(∀ b',H'.get b'=H.get b')∧∀ k:Value→Hp→Nat→Option ρ,effK P [(.l 180 ⟨fb,0,none⟩)] H n (fun H n k=>aX P (cal (l+1)) 105 [.int .i64 a,.slice (some ⟨b,0,none⟩) 1 1] H n fun v H n=>k v H n) k=k (.int .i64 (min a x)) H' n:=by
 obtain⟨H',H2,n2,h1,⟨h2,rfl⟩,h3,h4⟩:=NQ (P:=P) (ρ:=ρ) (ex:=[.l 180 ⟨fb,0,none⟩]) (H:=H) (n:=n) (v:=.int .i64 (min a x))
  (op:=fun H n k=>aX P (cal (l+1)) 105 [.int .i64 a,.slice (some ⟨b,0,none⟩) 1 1] H n fun v H n=>k v H n) (R:=fun H2 n2=>(∀ b',b'≠fb→H2.get b'=H.get b')∧n2=n)
  (fun y hy=>by
   rw[List.mem_singleton] at hy
   exact⟨_,_,hy,.inl ⟨_,_,_,_,hf⟩⟩)
  (fun Hm hm=>by
   have off:∀ b',b'≠fb→¬ ldOf [Extra.l 180 ⟨fb,0,none⟩] b':=fun b' hb=>by
    rintro⟨t,a,q1,q2⟩
    rw[List.mem_singleton] at q1
    cases q1
    exact hb q2.symm
   refine⟨Hm,n,fun k=>?_,fun _ _=>rfl,fun b' hb=>hm b' (off b' hb),rfl⟩
   have hc:aW Hm b 0 [.int .i64 x]:=dv ((hm b (off b hne)).trans hx)
   unfold aX
   have:(iY P 105 && ck [.int .i64 a,.slice (some ⟨b,0,none⟩) 1 1])=false:=by rw[Bool.and_eq_false_iff]; exact .inr rfl
   rw[this,call105,least_spec (cal l) a x hc]
   rfl)
 refine⟨H',fun b'=>?_,fun k=>h1 k⟩
 by_cases c:b'=fb
 ·subst c
  exact h3 _ ⟨_,_,List.mem_singleton.2 rfl,rfl⟩
 ·rw[h4 b' (fun⟨t,a,q1,q2⟩=>by rw[List.mem_singleton] at q1; cases q1; exact c q2.symm)]
  exact h2 b' c
def RecOk(lv:Nat)(base sb nb fb rb d:Nat):Prop:=∀(v:Nat) (y:Int) (seen:Nat→Bool) (m:Net) (H:Hp) (n:Nat),v<18→(v≠17→seen v=false)→0<y→y≤8000→vW 18 seen<d→sX m→base≤n→StS H sb nb fb rb seen m →
 VJ (Pj (cal lv) KK (.int .i64 v) (.int .i64 y) (.pointer (some ⟨sb,0,none⟩)) (.pointer (some ⟨nb,0,none⟩)) (.pointer (some ⟨fb,0,none⟩)) H n) n H sb nb fb rb (dK 18 17 d v y seen m)
theorem go_loop(lv:Nat){base sb nb fb rb d node:Nat}{y:Int}(pl:PlS base sb nb fb rb)(hnode:node<18)(hy:0<y∧y≤8000)(hrec:RecOk (lv+1) base sb nb fb rb d) :
  ∀(q i:Nat) (seen:Nat→Bool) (m:Net) (H:Hp) (n:Nat),i≤18→18-i≤q→seen node=true→vW 18 seen<d→sX m→base≤n→StS H sb nb fb rb seen m →
   VJ (ZZ (cal (lv+2)) KK q (.int .i64 node) (.int .i64 y) (.pointer (some ⟨sb,0,none⟩)) (.pointer (some ⟨nb,0,none⟩)) (.pointer (some ⟨fb,0,none⟩)) (.int .i64 i) H n) n H sb nb fb rb (zx (dK 18 17 d) 18 node y (18-i) seen m):=by
 obtain⟨l1,l2,l3,l4⟩:=pl.low
 obtain⟨o1,o2,o3,o4,o5⟩:=pl.off
 have body:∀(b1:Value→Value→Value→Value→Value→Value→Hp→Nat→Res) (q i:Nat) (seen:Nat→Bool) (m:Net) (H:Hp) (n:Nat),i≤18→seen node=true→vW 18 seen<d→sX m→base≤n→StS H sb nb fb rb seen m →
   (∀(seen:Nat→Bool) (m:Net) (H:Hp) (n:Nat),i<18→seen node=true→vW 18 seen<d→sX m→base≤n→StS H sb nb fb rb seen m →
    VJ (b1 (.int .i64 node) (.int .i64 y) (.pointer (some ⟨sb,0,none⟩)) (.pointer (some ⟨nb,0,none⟩)) (.pointer (some ⟨fb,0,none⟩)) (.int .i64 ((i+1:Nat):Int)) H n) n H sb nb fb rb (zx (dK 18 17 d) 18 node y (18-(i+1)) seen m)) →
   VJ (ZY (cal (lv+2)) KK q b1 (.int .i64 node) (.int .i64 y) (.pointer (some ⟨sb,0,none⟩)) (.pointer (some ⟨nb,0,none⟩)) (.pointer (some ⟨fb,0,none⟩)) (.int .i64 i) H n) n H sb nb fb rb (zx (dK 18 17 d) 18 node y (18-i) seen m):=by
  intro b1 q i seen m H n hi hsn hu hm hb st ih
  have c18:(18:Int)=((18:Nat):Int):=rfl
  unfold ZY B123_1
  rw[ax cJ,gw]
  by_cases hlt:i<18
  ·have hI1:I64 ((i:Int)+1):=by unfold I64; omega
   have hcast:((i:Int)+1)=((i+1:Nat):Int):=by omega
   have next:∀(seen:Nat→Bool) (m:Net) (H:Hp) (n:Nat),seen node=true→vW 18 seen<d→sX m→base≤n→StS H sb nb fb rb seen m →
     VJ (ZX (cal (lv+2)) KK q b1 (.int .i64 node) (.int .i64 y) (.pointer (some ⟨sb,0,none⟩)) (.pointer (some ⟨nb,0,none⟩)) (.pointer (some ⟨fb,0,none⟩)) (.int .i64 i) H n) n H sb nb fb rb (zx (dK 18 17 d) 18 node y (18-(i+1)) seen m):=fun seen m H n h0 h1 h2 h3 h4=>by
    unfold ZX B123_2
    rw[ax (bk hI1),hcast]
    exact ih seen m H n hlt h0 h1 h2 h3 h4
   rw[if_pos (by omega),ak,aj,jx st.cell zk rfl rfl,aj,Ek,aj,Vk st.net,aj,ax jY,goesN_step hlt]
   cases hz:decide (m node i=0) with
   | true=>
    rw[if_pos (.inl (of_decide_eq_true hz))]
    simp only[nw,dw,aj,fX]
    exact next seen m H n hsn hu hm hb st
   | false=>
    have hz:=of_decide_eq_false hz
    simp only[nq,at179 sb hlt,aj,ak,st.seen.load agg4 hlt,dQ]
    cases hs:seen i with
    | true=>
     rw[if_pos (.inr rfl),fX]
     exact next seen m H n hsn hu hm hb st
    | false=>
     have hpos:0<m node i:=by have:=(hm node i).1; omega
     have hsm:m node i≤1000000:=by have:=(hm node i).2 hnode hlt; have:=(hm i node).1; omega
     rw[if_neg (by rintro(h | h); exact hz h; cases h),ez,jx st.self agg180 rfl rfl,aj,row44,aj]
     unfold newK
     dsimp only
     have hrow:(H.set n (some (.cells [.int .i64 (m node i)] 3 false none))).get n=some (.cells [.int .i64 (m node i)] 3 false none):=by rw[Tr.get_set,if_pos rfl]
     have k1:∀ b,b<n→(H.set n (some (.cells [.int .i64 (m node i)] 3 false none))).get b=H.get b:=fun b hb=>by rw[Tr.get_set,if_neg (by omega)]
     generalize H.set n (some (.cells [.int .i64 (m node i)] 3 false none))=H1 at hrow k1 ⊢
     have st1:StS H1 sb nb fb rb seen m:=st.keep pl hb k1
     obtain⟨H2,k2,e2⟩:=least_row (ρ:=Value × Hp × Nat) (lv+1) y (m node i) (n:=n+1) st1.self hrow (show n≠fb by omega)
     rw[e2]
     have st2:StS H2 sb nb fb rb seen m:=st1.keep (n:=n+1) pl (by omega) fun b _=>k2 b
     have hmin:0<min y (m node i)∧min y (m node i)≤8000:=by omega
     obtain⟨H3,n3,e3,q3,st3,k3⟩:=hrec i (min y (m node i)) seen m H2 (n+1) hlt (fun _=>hs) hmin.1 hmin.2 hu hm (by omega) st2
     have facts:((dK 18 17 d i (min y (m node i)) seen m).sent≤0→Shut 18 17 i seen m (dK 18 17 d i (min y (m node i)) seen m))∧(0<(dK 18 17 d i (min y (m node i)) seen m).sent→Sends 18 17 i (min y (m node i)) seen m (dK 18 17 d i (min y (m node i)) seen m)):=
      ⟨fun h=>CY hu hlt (fun _=>hs) hmin.1 (fun u v=>(hm u v).1) h,fun h=>DQ hu hlt (fun _=>hs) hmin.1 (fun u v=>(hm u v).1) h⟩
     generalize dK 18 17 d i (min y (m node i)) seen m=w at e3 st3 facts ⊢
     have kk:∀ b,b<n→b≠sb→b≠rb→H3.get b=H.get b:=fun b hb h1 h2=>by rw[k3 b (by omega) h1 h2,k2,k1 b hb]
     rw[srch_value (lv+1),e3,aj,ax wX,gw]
     by_cases hsent:0<w.sent
     ·have S:=facts.2 hsent
      have sm:∀ u v,u<18→v<18→0≤w.net u v∧w.net u v≤1000000:=fun u v hu hv=>by
       have a1:=S.ge u v
       have a2:=S.ge v u
       have a3:=S.anti u v
       have a4:=(hm u v).2 hu hv
       omega
      have hle:=S.le
      have hI2:I64 (w.net node i-w.sent):=by have:=sm node i hnode hlt; unfold I64; omega
      have hI3:I64 (setN w.net node i (w.net node i-w.sent) i node+w.sent):=by
       unfold setN
       have:=sm i node hlt hnode
       have:=sm node i hnode hlt
       unfold I64
       split <;> omega
      rw[if_pos hsent,if_pos hsent]
      dsimp only
      rw[jx st3.cell zk rfl rfl,aj,Vk st3.net,aj,ax (oW hI2)]
      obtain⟨r2,j,H4,H5,f1,f2,f3,f4,f5⟩:=net_op (ρ:=Value × Hp × Nat) (n:=n3) st3.net node i (w.net node i-w.sent)
      have cell5:H5.get nb=some (.cells [.map (some rb)] 160 false none):=(f5 nb (by omega)).trans st3.cell
      rw[f1,f2,aj,f3,aj,jx cell5 zk rfl rfl,aj,Ek,aj,Vk f4,aj,ax (bk hI3)]
      obtain⟨r3,j3,H6,H7,g1,g2,g3,g4,g5⟩:=net_op (ρ:=Value × Hp × Nat) (n:=n3) f4 i node (setN w.net node i (w.net node i-w.sent) i node+w.sent)
      rw[g1,g2,aj,g3,aj]
      have k7:∀ b,b≠rb→H7.get b=H3.get b:=fun b hb=>(g5 b hb).trans (f5 b hb)
      refine⟨H7,n3,rfl,by omega,⟨?_,(k7 fb (by omega)).trans st3.self,(k7 nb (by omega)).trans st3.cell,?_⟩,fun b hb h1 h2=>by rw[k7 b h2,kk b hb h1 h2]⟩
      ·obtain⟨c,a1,a2,a3⟩:=st3.seen
       exact⟨c,(k7 sb (by omega)).trans a1,a2,a3⟩
      ·have hne:node≠i:=fun h=>by rw[h,hs] at hsn; cases hsn
       have e:setN (setN w.net node i (w.net node i-w.sent)) i node (setN w.net node i (w.net node i-w.sent) i node+w.sent)=wz w.net node i w.sent:=by
        funext a c
        unfold setN wz
        by_cases c1:a=i∧c=node
        ·rw[if_pos c1,if_neg (by omega),if_neg (by omega),if_pos c1,c1.1,c1.2]
        ·rw[if_neg c1]
         by_cases c2:a=node∧c=i
         ·rw[if_pos c2,if_pos c2,c2.1,c2.2]
         ·rw[if_neg c2,if_neg c2,if_neg c1]
       rw[← e]
       exact g4
     ·have Z:=facts.1 (by omega)
      have hu3:vW 18 w.seen<d:=Nat.lt_of_le_of_lt (XK Z.more) hu
      rw[if_neg hsent,if_neg hsent]
      obtain⟨H4,n4,r1,r2,r3,r4⟩:=next w.seen w.net H3 n3 (Z.more _ hsn) hu3 (by rw[Z.net]; exact hm) (by omega) st3
      exact⟨H4,n4,r1,by omega,r3,fun b hb h1 h2=>by rw[r4 b (by omega) h1 h2,kk b hb h1 h2]⟩
  ·rw[if_neg (by omega)]
   have:i=18:=by omega
   subst this
   exact⟨H,n,rfl,Nat.le_refl _,st,fun _ _ _ _=>rfl⟩
 intro q
 induction q with
 | zero=>
  intro i seen m H n h1 h2 h0 h3 h4 h5 h6
  exact body _ 0 i seen m H n h1 h0 h3 h4 h5 h6 (fun _ _ _ _ h=>by omega)
 | succ q ih=>
  intro i seen m H n h1 h2 h0 h3 h4 h5 h6
  exact body _ (q+1) i seen m H n h1 h0 h3 h4 h5 h6 (fun seen m H n p1 p2 p3 p4 p5 p6=>ih (i+1) seen m H n (by omega) (by omega) p2 p3 p4 p5 p6)
theorem search_text{base sb nb fb rb:Nat}(pl:PlS base sb nb fb rb):∀(d l:Nat),RecOk (l+d+1) base sb nb fb rb d
 | 0,_=>fun _ _ _ _ _ _ _ _ _ _ h=>by omega
 | d+1,l=>by
  intro v y seen m H n hv hs hy hy8 hu hm hb st
  have hrec:=search_text pl d l
  have lp:=go_loop (l+d) (node:=v) (y:=y) pl hv ⟨hy,hy8⟩ hrec
  rw[show l+(d+1)+1=l+d+2 by omega]
  unfold Pj B123_0
  generalize hC:ZZ (cal (l+d+2)) KK KK=J
  rw[ax jY]
  unfold dK
  by_cases e:v=17
  ·subst e
   rw[if_pos rfl,show decide (((17:Nat):Int)=17)=true from rfl,fX]
   exact⟨H,n,rfl,Nat.le_refl _,st,fun _ _ _ _=>rfl⟩
  ·rw[if_neg e,decide_eq_false (show ¬ ((v:Nat):Int)=17 by omega),ez,at179 sb hv,aj,rz sz4 rfl]
   obtain⟨H1,e1,e2,e3⟩:=st.seen.storeN (o:=v) (vs:=[.bool true]) (by simp; omega) rfl
   rw[e1,aj,← hC]
   obtain⟨o1,o2,o3,o4,o5⟩:=pl.off
   have st1:StS H1 sb nb fb rb (seeN seen v) m:=⟨by
    obtain⟨c,a1,a2,a3⟩:=e2
    refine⟨c,a1,a2,fun k hk=>?_⟩
    rw[a3 k hk,wv]
    show some (if k=v then Value.bool true else .bool (seen k))=some (.bool (seeN seen v k))
    unfold seeN
    by_cases q:k=v
    ·rw[if_pos q,if_pos q]
    ·rw[if_neg q,if_neg q],(e3 fb (by omega)).trans st.self,(e3 nb (by omega)).trans st.cell,st.net.keep (e3 rb (by omega))⟩
   have us:=NX hv (hs e)
   obtain⟨H',n',f1,f2,f3,f4⟩:=lp KK 0 (seeN seen v) m H1 n (Nat.zero_le _) (by unfold KK; omega) (by unfold seeN; simp) (by omega) hm hb st1
   exact⟨H',n',f1,f2,f3,fun b h1 h2 h3=>by rw[f4 b h1 h2 h3,e3 b h2]⟩
theorem call116(l:Nat)(a:Value)(H:Hp)(n:Nat):(cal (l+1)).call 116 [a] H n=Zz (cal l) KK a H n:=by kernel_rfl
theorem call107(l:Nat)(a:Value)(H:Hp)(n:Nat):(cal (l+1)).call 107 [a] H n=YK (cal l) KK a H n:=by kernel_rfl
theorem Oj(f:FuncId)(rb:Nat):(iY P f && ck [.map (some rb)])=false:=by rw[Bool.and_eq_false_iff]; exact .inr rfl
theorem Oq{rec_:Nat→Int→(Nat→Bool)→Net→Went}{N node:Nat}{young:Int}:∀(k:Nat) (seen:Nat→Bool) (n:Net),0≤(zx rec_ N node young k seen n).sent
 | 0,_,_=>Int.le_refl _
 | k+1,seen,n=>by
  unfold zx
  split
  ·exact Oq k _ _
  ·split
   ·rename_i h; exact Int.le_of_lt h
   ·exact Oq k _ _
theorem search_nonneg{N t:Nat}:∀(d node:Nat) (young:Int) (seen:Nat→Bool) (n:Net),0≤young→0≤(dK N t d node young seen n).sent
 | 0,_,_,_,_,_=>Int.le_refl _
 | d+1,node,young,seen,n,h=>by
  unfold dK
  split
  ·exact h
  ·exact Oq _ _ _
theorem send_spec(l:Nat){rb:Nat}{m:Net}{H:Hp}{n:Nat}(hm:sX m)(hn:gK H rb m)(hr:rb<n) :
  ∃ H' n',Zz (cal (l+21)) KK (.map (some rb)) H n=some (.int .i64 (dK 18 17 19 16 8000 (fun _=>false) m).sent,H',n')∧n≤n'∧gK H' rb (dK 18 17 19 16 8000 (fun _=>false) m).net∧∀ b,b<n→b≠rb→H'.get b=H.get b:=by
 unfold Zz B116_0
 rw[dZ]
 simp only[aZ,ptr]
 rw[jw zero179b,jw zero180]
 simp only[aZ,ptr]
 have a1:(((H.set n (some (.cells [.map (some rb)] 160 false none))).set (n+1) (some (.cells (List.replicate 18 (.bool false)) 179 false none))).set (n+1+1) (some (.cells [.nilFunc] 180 false none))).get n=some (.cells [.map (some rb)] 160 false none):=by rw[Tr.get_set,if_neg (by omega),Tr.get_set,if_neg (by omega),Tr.get_set,if_pos rfl]
 have a2:(((H.set n (some (.cells [.map (some rb)] 160 false none))).set (n+1) (some (.cells (List.replicate 18 (.bool false)) 179 false none))).set (n+1+1) (some (.cells [.nilFunc] 180 false none))).get (n+1)=some (.cells (List.replicate 18 (.bool false)) 179 false none):=by rw[Tr.get_set,if_neg (by omega),Tr.get_set,if_pos rfl]
 have a3:(((H.set n (some (.cells [.map (some rb)] 160 false none))).set (n+1) (some (.cells (List.replicate 18 (.bool false)) 179 false none))).set (n+1+1) (some (.cells [.nilFunc] 180 false none))).get (n+1+1)=some (.cells [.nilFunc] 180 false none):=by rw[Tr.get_set,if_pos rfl]
 have a4:∀ b,b<n→(((H.set n (some (.cells [.map (some rb)] 160 false none))).set (n+1) (some (.cells (List.replicate 18 (.bool false)) 179 false none))).set (n+1+1) (some (.cells [.nilFunc] 180 false none))).get b=H.get b:=fun b hb=>by rw[Tr.get_set,if_neg (by omega),Tr.get_set,if_neg (by omega),Tr.get_set,if_neg (by omega)]
 generalize ((H.set n (some (.cells [.map (some rb)] 160 false none))).set (n+1) (some (.cells (List.replicate 18 (.bool false)) 179 false none))).set (n+1+1) (some (.cells [.nilFunc] 180 false none))=H1 at a1 a2 a3 a4 ⊢
 have hst:=rV (vs:=[Sv (n+1) n (n+1+1)]) a3 rfl rfl
 rw[rz sz180 rfl]
 show ∃ H' n',aq (storeN H1 ⟨n+1+1,0,none⟩ [Sv (n+1) n (n+1+1)]) _=_∧_
 rw[hst,aj]
 have b1:(H1.set (n+1+1) (some (.cells [Sv (n+1) n (n+1+1)] 180 false none))).get (n+1+1)=some (.cells [Sv (n+1) n (n+1+1)] 180 false none):=by rw[Tr.get_set,if_pos rfl]
 have b2:∀ b,b≠n+1+1→(H1.set (n+1+1) (some (.cells [Sv (n+1) n (n+1+1)] 180 false none))).get b=H1.get b:=fun b hb=>by rw[Tr.get_set,if_neg hb]
 generalize H1.set (n+1+1) (some (.cells [Sv (n+1) n (n+1+1)] 180 false none))=H2 at b1 b2 ⊢
 have pl:PlS (n+1+1+1) (n+1) n (n+1+1) rb:=⟨⟨by omega,by omega,by omega,by omega⟩,by omega,by omega,by omega,by omega,by omega⟩
 have st:StS H2 (n+1) n (n+1+1) rb (fun _=>false) m:=⟨⟨_,(b2 _ (by omega)).trans a2,rfl,fun k hk=>by rw[List.getElem?_replicate,if_pos hk]⟩,b1,(b2 _ (by omega)).trans a1,hn.keep ((b2 _ (by omega)).trans (a4 _ hr))⟩
 rw[ak,aj,jx b1 agg180 rfl rfl,aj,show l+21=(l+20)+1 by omega,srch_value (l+20)]
 obtain⟨H',n',c1,c2,c3,c4⟩:=search_text pl 19 l 16 8000 (fun _=>false) m H2 (n+1+1+1) (by omega) (fun _=>rfl) (by omega) (by omega) (FQ 18 _) hm (Nat.le_refl _) st
 rw[show l+19+1=l+20 by omega] at c1
 show ∃ H' n',aq (Pj (cal (l+20)) KK (.int .i64 ((16:Nat):Int)) (.int .i64 8000) _ _ _ H2 (n+1+1+1)) _=_∧_
 rw[c1,aj]
 exact⟨H',n',rfl,by omega,c3.net,fun b hb hr=>by rw[c4 b (by omega) (by omega) hr,b2 b (by omega),a4 b hb]⟩
theorem Yv(l:Nat){rb:Nat}:∀(q:Nat) (m:Net) (total:Int) (H:Hp) (n:Nat),sX m→gK H rb m→rb<n→0≤total→ay (fun v=>m 16 v) 18<q→total+ay (fun v=>m 16 v) 18≤18000000 →
  ∃ H' n',TQ (cal (l+22)) KK q (.map (some rb)) (.int .i64 total) H n=some (.int .i64 (total+(CZ 18 17 16 8000 q m).1),H',n')∧n≤n'∧gK H' rb (CZ 18 17 16 8000 q m).2∧∀ b,b<n→b≠rb→H'.get b=H.get b
 | 0,m,total,H,n,hm,hn,hr,ht,hq,hb=>by
  exfalso
  have:ay (fun _=>0) 18≤ay (fun v=>m 16 v) 18:=kQ fun v _=>(hm 16 v).1
  rw[kV] at this
  omega
 | q+1,m,total,H,n,hm,hn,hr,ht,hq,hb=>by
  have ih:=Yv l (rb:=rb) q
  show ∃ H' n',YZ (cal (l+22)) KK (q+1) (TQ (cal (l+22)) KK q) (.map (some rb)) (.int .i64 total) H n=_∧_
  generalize TQ (cal (l+22)) KK q=J at ih ⊢
  unfold YZ B107_1
  obtain⟨H1,n1,e1,e2,e3,e4⟩:=send_spec l hm hn hr
  have call:∀ k:Value→Hp→Nat→Res,aX P (cal (l+22)) 116 [.map (some rb)] H n k=k (.int .i64 (dK 18 17 19 16 8000 (fun _=>false) m).sent) H1 n1:=fun k=>by
   unfold aX
   rw[Oj,show l+22=(l+21)+1 by omega,call116,e1]
   rfl
  have shut:(dK 18 17 19 16 8000 (fun _=>false) m).sent≤0→_:=fun h=>CY (N:=18) (t:=17) (FQ 18 _) (by omega) (fun _=>rfl) (by omega) (fun u v=>(hm u v).1) h
  have sends:0<(dK 18 17 19 16 8000 (fun _=>false) m).sent→_:=fun h=>DQ (N:=18) (t:=17) (FQ 18 _) (by omega) (fun _=>rfl) (by omega) (fun u v=>(hm u v).1) h
  rw[call,ax jY]
  unfold CZ
  rw[show(18:Nat)+1=19 from rfl]
  have nn:0≤(dK 18 17 19 16 8000 (fun _=>false) m).sent:=search_nonneg 19 16 8000 _ m (by omega)
  generalize dK 18 17 19 16 8000 (fun _=>false) m=w at e3 shut sends nn ⊢
  by_cases hs:w.sent≤0
  ·have Z:=shut hs
   rw[if_pos hs,show w.sent=0 by omega,show decide ((0:Int)=0)=true from rfl,fX]
   rw[Z.net] at e3
   refine⟨H1,n1,?_,e2,e3,e4⟩
   rw[Int.add_zero]
  ·have S:=sends (by omega)
   have e16:=S.keep 16 (by omega)
   rw[if_pos rfl,if_neg (by omega),yk] at e16
   have z16:ay (fun _=>0) 18≤ay (fun v=>m 16 v) 18:=kQ fun v _=>(hm 16 v).1
   rw[kV] at z16
   have hI:I64 (total+w.sent):=by
    have:=S.le
    have:=S.pos
    unfold I64
    omega
   have sm:sX w.net:=fun u v=>⟨S.ge u v,fun hu hv=>by have:=S.anti u v; have:=(hm u v).2 hu hv; omega⟩
   rw[if_neg hs,decide_eq_false (by omega),ez,ax (bk hI)]
   have e16':ay (fun v=>m 16 v) 18-ay (fun v=>w.net 16 v) 18=w.sent-0:=e16
   obtain⟨H2,n2,f1,f2,f3,f4⟩:=ih w.net (total+w.sent) H1 n1 sm e3 (by omega) (by have:=S.pos; omega) (by have:=S.pos; omega) (by omega)
   refine⟨H2,n2,?_,by omega,f3,fun b h1 h2=>by rw[f4 b (by omega) h2,e4 b h1 h2]⟩
   rw[f1]
   congr 3
   show total+w.sent+(CZ 18 17 16 8000 q w.net).1=total+(w.sent+(CZ 18 17 16 8000 q w.net).1)
   omega
theorem fill_call(l:Nat){rb:Nat}{m:Net}{H:Hp}{n:Nat}(hm:sX m)(hn:gK H rb m)(hr:rb<n)(hs:ay (fun v=>m 16 v) 18≤8000) :
  ∃(x:Int) (m':Net) (H':Hp) (n':Nat),(∀ k:Value→Hp→Nat→Option ρ,aX P (cal (l+23)) 107 [.map (some rb)] H n k=k (.int .i64 x) H' n')∧Filled 18 16 17 m x m'∧sX m'∧n≤n'∧gK H' rb m'∧∀ b,b<n→b≠rb→H'.get b=H.get b:=by
 obtain⟨H',n',e1,e2,e3,e4⟩:=Yv l KK m 0 H n hm hn hr (Int.le_refl _) (by unfold KK; omega) (by omega)
 have F:=Yj (N:=18) (s:=16) (t:=17) (y:=8000) (by omega) (by omega) (by omega) (k:=KK) (fun u v=>(hm u v).1) (show ay (fun v=>m 16 v) 18<((KK:Nat):Int) by unfold KK; omega)
 refine⟨_,_,H',n',fun k=>?_,F,fun u v=>?_,e2,e3,e4⟩
 ·unfold aX
  rw[Oj,call107]
  unfold YK B107_0
  rw[e1]
  show aq (some _) _=_
  rw[aj,Int.zero_add]
 ·refine⟨F.ge u v,fun hu hv=>?_⟩
  have a:=F.flow.anti u v hu hv
  have a:m u v-(CZ 18 17 16 8000 KK m).2 u v=-(m v u-(CZ 18 17 16 8000 KK m).2 v u):=a
  have:=(hm u v).2 hu hv
  omega
end Go.Proofs.Ytmjbdjnnojfhkaa.spec
end
section
namespace Go.Proofs.Ytmjbdjnnojfhkaa.spec
open Go Go.Ev Go.Proofs.Ytmjbdjnnojfhkaa.nestFits Go.Proofs.Ytmjbdjnnojfhkaa.G
set_option maxRecDepth 100000
noncomputable def loL(js ks L:List Int)(nj np p q:Nat):Int:=if isN L p then(sL js ks L nj np p).getD (q * 2) 0 else 0
theorem QJ(f:Nat→Int)(B:Nat→Bool)(n:Nat):ay f n=ay (fun o=>if B o=true then f o else 0) n+ay (fun o=>if B o=false then f o else 0) n:=by
 rw[← cK]
 refine bz fun o _=>?_
 cases B o <;> simp
theorem low_sum(js ks L:List Int)(nj np:Nat)(B:Nat→Bool)(v:Bool):ay (fun p=>ay (fun o=>if B o=v then loL js ks L nj np p o else 0) 8) 8=ay (fun o=>if B o=v then lowL js ks L nj np o 8 else 0) 8:=by
 rw[FJ]
 refine bz fun o _=>?_
 rw[NY]
 rfl
theorem cut_room{js ks ps L:List Int}{nj np q:Nat}(np8:np≤8)(hq:q<np)(h:ps.getD (q * 2+1) 0<lowL js ks L nj np q 8) :
  ∃ A B:Nat→Bool,canC js ks ps L nj np A B true true<wk js ks ps L nj np A B true true:=by
 refine⟨fun _=>true,fun o=>!(o == q),?_⟩
 have e1:canC js ks ps L nj np (fun _=>true) (fun o=>!(o == q)) true true=ps.getD (q * 2+1) 0:=by
  unfold canC
  have z:ay (fun p=>if isN L p then(if true=false∧true=true then yL ks L p else 0)+ay (fun o=>if true=false∧(!(o == q))=true then(sL js ks L nj np p).getD (o * 2+1) 0 else 0) 8 else 0) 8=0:=eW fun p _=>by
   have:ay (fun o=>if true=false∧(!(o == q))=true then(sL js ks L nj np p).getD (o * 2+1) 0 else 0) 8=0:=eW fun o _=>if_neg (fun h=>by cases h.1)
   rw[this]
   split <;> simp
  rw[z,yz (s:=q) (by omega) fun o _ ho=>if_neg (fun h=>by have:=h.2.1; simp [ho] at this)]
  simp [hq]
 have e2:wk js ks ps L nj np (fun _=>true) (fun o=>!(o == q)) true true=lowL js ks L nj np q 8:=by
  unfold wk
  have z:ay (fun o=>if o<np∧(!(o == q))=true∧true=false then ps.getD (o * 2) 0 else 0) 8=0:=eW fun o _=>if_neg (fun h=>by cases h.2.2)
  rw[z]
  unfold lowL
  have:ay (fun p=>if isN L p then(if true=true∧true=false then yL ks L p else 0)+ay (fun o=>if true=true∧(!(o == q))=false then(sL js ks L nj np p).getD (o * 2) 0 else 0) 8 else 0) 8=ay (fun p=>if isN L p then(sL js ks L nj np p).getD (q * 2) 0 else 0) 8:=bz fun p _=>by
   by_cases c:isN L p
   ·rw[if_pos c,if_pos c,yz (s:=q) (by omega) fun o _ ho=>if_neg (fun h=>by have:=h.2; simp [ho] at this)]
    simp
   ·rw[if_neg c,if_neg c]
  rw[this]
  omega
 rw[e1,e2]
 exact h
theorem cut_first{js ks ps L:List Int}{nj np:Nat}{R:Nat→Bool}(ok:LaidNests js ks L nj np)(h:cutN (wL js ks L nj np) (cX js ks L nj np) (fx js ks ps L nj np) R<ay (fx js ks ps L nj np) 8) :
  ∃ A B:Nat→Bool,canC js ks ps L nj np A B false false<wk js ks ps L nj np A B false false:=by
 obtain⟨A,hA⟩:∃ A:Nat→Bool,∀ p,A p=!R p:=⟨_,fun _=>rfl⟩
 obtain⟨B,hB⟩:∃ B:Nat→Bool,∀ o,B o=decide (o<np∧R (8+o)=false∧lowL js ks L nj np o 8<ps.getD (o * 2) 0):=⟨_,fun _=>rfl⟩
 refine⟨A,B,?_⟩
 have hBt:∀ o,B o=true→o<np∧R (8+o)=false∧lowL js ks L nj np o 8<ps.getD (o * 2) 0:=fun o h=>by rw[hB] at h; exact of_decide_eq_true h
 have hBf:∀ o,B o=false→¬ (o<np∧R (8+o)=false∧lowL js ks L nj np o 8<ps.getD (o * 2) 0):=fun o h=>by rw[hB] at h; exact of_decide_eq_false h
 have each:∀ p,p<8→(if isN L p then(if false=false∧A p=true then yL ks L p else 0)+ay (fun o=>if A p=false∧B o=true then(sL js ks L nj np p).getD (o * 2+1) 0 else 0) 8 else 0) =
   (if isN L p then(if false=true∧A p=false then yL ks L p else 0)+ay (fun o=>if A p=true∧B o=false then(sL js ks L nj np p).getD (o * 2) 0 else 0) 8 else 0) +
   ((if R p=true then 0 else cX js ks L nj np p)+ay (fun o=>if R p=true∧B o=true then wL js ks L nj np p o else 0) 8+ay (fun o=>if B o=true then loL js ks L nj np p o else 0) 8):=fun p hp=>by
  by_cases c:isN L p
  ·rw[if_pos c,if_pos c]
   have sp:cX js ks L nj np p=yL ks L p-ay (fun o=>(sL js ks L nj np p).getD (o * 2) 0) 8:=if_pos c
   have s2:=QJ (fun o=>(sL js ks L nj np p).getD (o * 2) 0) B 8
   have l1:ay (fun o=>if B o=true then loL js ks L nj np p o else 0) 8=ay (fun o=>if B o=true then(sL js ks L nj np p).getD (o * 2) 0 else 0) 8:=bz fun o _=>by unfold loL; rw[if_pos c]
   rw[l1,sp]
   have a:=hA p
   cases r:R p with
   | true=>
    have a:A p=false:=by rw[a,r]; rfl
    simp only[a,true_and,Bool.false_eq_true,false_and,and_false,if_false,if_true,and_true,reduceCtorEq]
    have z:ay (fun _=>(0:Int)) 8=0:=kV 8
    rw[z]
    have:ay (fun o=>if B o=true then(sL js ks L nj np p).getD (o * 2+1) 0 else 0) 8=ay (fun o=>if B o=true then wL js ks L nj np p o else 0) 8+ay (fun o=>if B o=true then(sL js ks L nj np p).getD (o * 2) 0 else 0) 8:=by
     rw[← cK]
     refine bz fun o _=>?_
     unfold wL
     rw[if_pos c]
     cases B o <;> simp
    omega
   | false=>
    have a:A p=true:=by rw[a,r]; rfl
    simp only[a,true_and,Bool.false_eq_true,false_and,and_false,if_false,if_true,and_true,reduceCtorEq]
    have z:ay (fun _=>(0:Int)) 8=0:=kV 8
    rw[z]
    omega
  ·rw[if_neg c,if_neg c]
   have z1:ay (fun o=>if R p=true∧B o=true then wL js ks L nj np p o else 0) 8=0:=eW fun o _=>by unfold wL; rw[if_neg c]; split <;> rfl
   have z2:ay (fun o=>if B o=true then loL js ks L nj np p o else 0) 8=0:=eW fun o _=>by unfold loL; rw[if_neg c]; split <;> rfl
   have z3:cX js ks L nj np p=0:=if_neg c
   rw[z1,z2,z3]
   split <;> rfl
 have can0:canC js ks ps L nj np A B false false=ay (fun p=>(if isN L p then(if false=false∧A p=true then yL ks L p else 0)+ay (fun o=>if A p=false∧B o=true then(sL js ks L nj np p).getD (o * 2+1) 0 else 0) 8 else 0)) 8:=by
  unfold canC
  have z:ay (fun o=>if o<np∧B o=false∧false=true then ps.getD (o * 2+1) 0 else 0) 8=0:=eW fun o _=>if_neg (fun h=>by cases h.2.2)
  rw[z]
  omega
 rw[can0,bz each,cK,cK,cK,low_sum]
 unfold wk cutN at *
 have need:ay (fx js ks ps L nj np) 8=ay (fun q=>if R (8+q)=true then fx js ks ps L nj np q else 0) 8+ay (fun q=>if R (8+q)=false then fx js ks ps L nj np q else 0) 8:=QJ _ (fun q=>R (8+q)) 8
 have lw:ay (fun p=>ay (fun o=>if R p=true∧B o=true then wL js ks L nj np p o else 0) 8) 8≤ay (fun p=>ay (fun q=>if R p=true∧R (8+q)=false then wL js ks L nj np p q else 0) 8) 8:=by
  refine kQ fun p _=>kQ fun o _=>?_
  by_cases d:R p=true∧B o=true
  ·rw[if_pos d,if_pos ⟨d.1,(hBt o d.2).2.1⟩]; exact Int.le_refl _
  ·rw[if_neg d]
   split
   ·unfold wL
    by_cases c:isN L p
    ·rw[if_pos c]
     have:=ok.le p c o
     omega
    ·rw[if_neg c]; exact Int.le_refl _
   ·exact Int.le_refl _
 have nd:ay (fun q=>if R (8+q)=false then fx js ks ps L nj np q else 0) 8+ay (fun o=>if B o=true then lowL js ks L nj np o 8 else 0) 8=ay (fun o=>if o<np∧B o=true∧false=false then ps.getD (o * 2) 0 else 0) 8:=by
  rw[← cK]
  refine bz fun o _=>?_
  unfold fx
  cases d:B o with
  | true=>
   obtain⟨h1,h2,h3⟩:=hBt o d
   rw[if_pos h2,if_pos h1]
   simp only[if_true,and_self,and_true,h1]
   omega
  | false=>
   have:=hBf o d
   simp only[Bool.false_eq_true,if_false,false_and,and_false]
   by_cases h1:o<np
   ·rw[if_pos h1]
    by_cases h2:R (8+o)=false
    ·rw[if_pos h2]
     have:¬ lowL js ks L nj np o 8<ps.getD (o * 2) 0:=fun h=>this ⟨h1,h2,h⟩
     omega
    ·rw[if_neg h2]; omega
   ·rw[if_neg h1]; split <;> omega
 omega
theorem cut_second{js ks ps L:List Int}{nj np:Nat}{R:Nat→Bool}(ok:LaidNests js ks L nj np)(h:cutN (wL js ks L nj np) (cX js ks L nj np) (fun q=>fx js ks ps L nj np q+tz js ks ps L nj np q) R<ay (cX js ks L nj np) 8) :
  ∃ A B:Nat→Bool,canC js ks ps L nj np A B true true<wk js ks ps L nj np A B true true:=by
 obtain⟨A,hA⟩:∃ A:Nat→Bool,∀ p,A p=!R p:=⟨_,fun _=>rfl⟩
 obtain⟨B,hB⟩:∃ B:Nat→Bool,∀ o,B o=!R (8+o):=⟨_,fun _=>rfl⟩
 refine⟨A,B,?_⟩
 have each:∀ p,p<8→(if isN L p then(if true=false∧A p=true then yL ks L p else 0)+ay (fun o=>if A p=false∧B o=true then(sL js ks L nj np p).getD (o * 2+1) 0 else 0) 8 else 0)+((if R p=true then cX js ks L nj np p else 0)+ay (fun o=>if B o=false then loL js ks L nj np p o else 0) 8) =
   (if isN L p then(if true=true∧A p=false then yL ks L p else 0)+ay (fun o=>if A p=true∧B o=false then(sL js ks L nj np p).getD (o * 2) 0 else 0) 8 else 0)+ay (fun o=>if R p=true∧R (8+o)=false then wL js ks L nj np p o else 0) 8:=fun p hp=>by
  by_cases c:isN L p
  ·rw[if_pos c,if_pos c]
   have sp:cX js ks L nj np p=yL ks L p-ay (fun o=>(sL js ks L nj np p).getD (o * 2) 0) 8:=if_pos c
   have s2:=QJ (fun o=>(sL js ks L nj np p).getD (o * 2) 0) B 8
   have l1:ay (fun o=>if B o=false then loL js ks L nj np p o else 0) 8=ay (fun o=>if B o=false then(sL js ks L nj np p).getD (o * 2) 0 else 0) 8:=bz fun o _=>by unfold loL; rw[if_pos c]
   rw[l1,sp]
   have a:=hA p
   have z:ay (fun _=>(0:Int)) 8=0:=kV 8
   cases r:R p with
   | true=>
    have a:A p=false:=by rw[a,r]; rfl
    simp only[a,true_and,Bool.false_eq_true,false_and,and_false,if_false,if_true,and_true,reduceCtorEq]
    rw[z]
    have:ay (fun o=>if B o=true then(sL js ks L nj np p).getD (o * 2+1) 0 else 0) 8=ay (fun o=>if R (8+o)=false then wL js ks L nj np p o else 0) 8+ay (fun o=>if B o=true then(sL js ks L nj np p).getD (o * 2) 0 else 0) 8:=by
     rw[← cK]
     refine bz fun o _=>?_
     unfold wL
     rw[if_pos c]
     have hb:=hB o
     cases q:R (8+o) with
     | true=>
      have hb:B o=false:=by rw[hb,q]; rfl
      rw[hb]
      simp
     | false=>
      have hb:B o=true:=by rw[hb,q]; rfl
      rw[hb]
      simp
    omega
   | false=>
    have a:A p=true:=by rw[a,r]; rfl
    simp only[a,true_and,Bool.false_eq_true,false_and,and_false,if_false,if_true,and_true,reduceCtorEq]
    rw[z]
    omega
  ·rw[if_neg c,if_neg c]
   have z1:ay (fun o=>if R p=true∧R (8+o)=false then wL js ks L nj np p o else 0) 8=0:=eW fun o _=>by unfold wL; rw[if_neg c]; split <;> rfl
   have z2:ay (fun o=>if B o=false then loL js ks L nj np p o else 0) 8=0:=eW fun o _=>by unfold loL; rw[if_neg c]; split <;> rfl
   have z3:cX js ks L nj np p=0:=if_neg c
   rw[z1,z2,z3]
   split <;> rfl
 have all:=bz each
 rw[cK,cK,cK,low_sum] at all
 have must0:wk js ks ps L nj np A B true true=ay (fun p=>(if isN L p then(if true=true∧A p=false then yL ks L p else 0)+ay (fun o=>if A p=true∧B o=false then(sL js ks L nj np p).getD (o * 2) 0 else 0) 8 else 0)) 8:=by
  unfold wk
  have z:ay (fun o=>if o<np∧B o=true∧true=false then ps.getD (o * 2) 0 else 0) 8=0:=eW fun o _=>if_neg (fun h=>by cases h.2.2)
  rw[z]
  omega
 rw[must0]
 unfold canC cutN at *
 have sp:ay (cX js ks L nj np) 8=ay (fun p=>if R p=true then cX js ks L nj np p else 0) 8+ay (fun p=>if R p=false then cX js ks L nj np p else 0) 8:=QJ _ R 8
 have sp2:ay (fun p=>if R p=true then 0 else cX js ks L nj np p) 8=ay (fun p=>if R p=false then cX js ks L nj np p else 0) 8:=bz fun p _=>by cases R p <;> rfl
 have rm:ay (fun o=>if o<np∧B o=false∧true=true then ps.getD (o * 2+1) 0 else 0) 8=ay (fun o=>if B o=false then lowL js ks L nj np o 8 else 0) 8+ay (fun q=>if R (8+q)=true then fx js ks ps L nj np q+tz js ks ps L nj np q else 0) 8:=by
  rw[← cK]
  refine bz fun o _=>?_
  unfold fx tz
  have hb:=hB o
  by_cases h1:o<np
  ·rw[if_pos h1,if_pos h1]
   cases q:R (8+o) with
   | true=>
    have hb:B o=false:=by rw[hb,q]; rfl
    rw[hb,if_pos ⟨h1,rfl,rfl⟩,if_pos rfl,if_pos rfl]
    omega
   | false=>
    have hb:B o=true:=by rw[hb,q]; rfl
    rw[hb,if_neg (fun h=>by cases h.2.1),if_neg (fun h=>by cases h),if_neg (fun h=>by cases h)]
    rfl
  ·rw[if_neg h1,if_neg h1]
   have z:lowL js ks L nj np o 8=0:=eW fun p _=>by
    by_cases c:isN L p
    ·rw[if_pos c]; exact(ok.far p c o (by omega)).1
    ·rw[if_neg c]
   rw[z]
   simp [h1]
 have h:ay (fun p=>if R p=true then 0 else cX js ks L nj np p) 8+ay (fun p=>ay (fun q=>if R p=true∧R (8+q)=false then wL js ks L nj np p q else 0) 8) 8+ay (fun q=>if R (8+q)=true then fx js ks ps L nj np q+tz js ks ps L nj np q else 0) 8<ay (cX js ks L nj np) 8:=h
 omega
end Go.Proofs.Ytmjbdjnnojfhkaa.spec
end
section
namespace Go.Proofs.Ytmjbdjnnojfhkaa.spec
open Go Go.Ev Go.Proofs.Ytmjbdjnnojfhkaa.nestFits Go.Proofs.Ytmjbdjnnojfhkaa.G
set_option maxRecDepth 100000
variable {ρ:Type}
noncomputable def netQ(js ks L:List Int)(nj np i p:Nat):Net:=fun u v=>
 if u=16∧v≤i∧v<8 then cX js ks L nj np v else if(u<i∨(u=i∧v<8+p))∧u<8∧8≤v∧v<16 then wL js ks L nj np u (v-8) else 0
noncomputable def netP(js ks L:List Int)(nj np i:Nat):Net:=fun u v=>
 if u=16∧v<i∧v<8 then cX js ks L nj np v else if u<i∧u<8∧8≤v∧v<16 then wL js ks L nj np u (v-8) else 0
theorem netP_first{js ks L:List Int}{nj np i:Nat}(hi:i<8):setN (netP js ks L nj np i) 16 i (cX js ks L nj np i)=netQ js ks L nj np i 0:=by
 funext u v
 unfold setN netP netQ
 by_cases c1:u=16∧v=i
 ·rw[if_pos c1,if_pos ⟨c1.1,by omega,by omega⟩,c1.2]
 ·rw[if_neg c1]
  by_cases c2:u=16∧v<i∧v<8
  ·rw[if_pos c2,if_pos ⟨c2.1,by omega,c2.2.2⟩]
  ·rw[if_neg c2,if_neg (show ¬ (u=16∧v≤i∧v<8) by omega)]
   by_cases c3:u<i∧u<8∧8≤v∧v<16
   ·rw[if_pos c3,if_pos ⟨.inl c3.1,c3.2⟩]
   ·rw[if_neg c3,if_neg (show ¬ ((u<i∨(u=i∧v<8+0))∧u<8∧8≤v∧v<16) by omega)]
theorem netQ_step{js ks L:List Int}{nj np i p:Nat}(hi:i<8)(hp:p<8):setN (netQ js ks L nj np i p) i (8+p) (wL js ks L nj np i p)=netQ js ks L nj np i (p+1):=by
 funext u v
 unfold setN netQ
 by_cases c1:u=i∧v=8+p
 ·rw[if_pos c1,if_neg (by omega),if_pos ⟨.inr ⟨c1.1,by omega⟩,by omega,by omega,by omega⟩,c1.1,c1.2,show 8+p-8=p by omega]
 ·rw[if_neg c1]
  by_cases c2:u=16∧v≤i∧v<8
  ·rw[if_pos c2,if_pos c2]
  ·rw[if_neg c2,if_neg c2]
   by_cases c3:(u<i∨(u=i∧v<8+p))∧u<8∧8≤v∧v<16
   ·rw[if_pos c3,if_pos (show(u<i∨(u=i∧v<8+(p+1)))∧u<8∧8≤v∧v<16 by omega)]
   ·rw[if_neg c3,if_neg (show ¬ ((u<i∨(u=i∧v<8+(p+1)))∧u<8∧8≤v∧v<16) by omega)]
theorem netQ_last{js ks L:List Int}{nj np i:Nat}(_hi:i<8):netQ js ks L nj np i 8=netP js ks L nj np (i+1):=by
 funext u v
 unfold netP netQ
 by_cases c2:u=16∧v≤i∧v<8
 ·rw[if_pos c2,if_pos ⟨c2.1,by omega,c2.2.2⟩]
 ·rw[if_neg c2,if_neg (show ¬ (u=16∧v<i+1∧v<8) by omega)]
  by_cases c3:(u<i∨(u=i∧v<8+8))∧u<8∧8≤v∧v<16
  ·rw[if_pos c3,if_pos (show u<i+1∧u<8∧8≤v∧v<16 by omega)]
  ·rw[if_neg c3,if_neg (show ¬ (u<i+1∧u<8∧8≤v∧v<16) by omega)]
theorem netP_skip{js ks L:List Int}{nj np i:Nat}(h:L.getD i 0=-1):netP js ks L nj np (i+1)=netP js ks L nj np i:=by
 have hn:¬ isN L i:=fun h'=>h'.2 h
 funext u v
 unfold netP
 by_cases c1:u=16∧v=i∧v<8
 ·rw[if_pos (show u=16∧v<i+1∧v<8 by omega),if_neg (show ¬ (u=16∧v<i∧v<8) by omega),if_neg (show ¬ (u<i∧u<8∧8≤v∧v<16) by omega),c1.2.1]
  exact if_neg hn
 ·by_cases c2:u=16∧v<i∧v<8
  ·rw[if_pos (show u=16∧v<i+1∧v<8 by omega),if_pos c2]
  ·rw[if_neg (show ¬ (u=16∧v<i+1∧v<8) by omega),if_neg c2]
   by_cases c3:u=i∧u<8∧8≤v∧v<16
   ·rw[if_pos (show u<i+1∧u<8∧8≤v∧v<16 by omega),if_neg (show ¬ (u<i∧u<8∧8≤v∧v<16) by omega),c3.1]
    exact if_neg hn
   ·by_cases c4:u<i∧u<8∧8≤v∧v<16
    ·rw[if_pos (show u<i+1∧u<8∧8≤v∧v<16 by omega),if_pos c4]
    ·rw[if_neg (show ¬ (u<i+1∧u<8∧8≤v∧v<16) by omega),if_neg c4]
theorem two_get{S:List Int}(hS:S.length=16){p:Nat}(hp:p<8):((ints S).drop (p * 2)).take 2=[.int .i64 (S.getD (p * 2) 0),.int .i64 (S.getD (p * 2+1) 0)]:=by
 apply List.ext_getElem?
 intro j
 match j with
 | 0=>rw[List.getElem?_take,if_pos (by omega),List.getElem?_drop,gQ (getD_some (by omega))]; rfl
 | 1=>rw[List.getElem?_take,if_pos (by omega),List.getElem?_drop,gQ (getD_some (by omega))]; rfl
 | j+2=>rw[List.getElem?_take,if_neg (by omega)]; rfl
def pz(H:Hp)(b:Nat)(js ks L:List Int)(nj np i p:Nat):Prop:=∃ X:List Int,X.length=8∧H.get b=some (.cells (ints X) 118 false none)∧∀ q,q<8→X.getD q 0=lowL js ks L nj np q (if q<p then i+1 else i)
theorem Yw{js ks L:List Int}{nj np:Nat}(hb:∀ p,isN L p→iW (sL js ks L nj np p))(q:Nat):∀ i,0≤lowL js ks L nj np q i∧lowL js ks L nj np q i≤i * 1000
 | 0=>by unfold lowL; simp only[ay]; omega
 | i+1=>by
  have:=Yw hb q i
  unfold lowL at this ⊢
  simp only[ay]
  by_cases c:isN L i
  ·rw[if_pos c]
   have:=hb i c (q * 2)
   omega
  ·rw[if_neg c]; omega
theorem arcs_loop(c:Cal)(k lp:Nat){js ks L S:List Int}{nj np i u6 u7 rb base:Nat}(hN:isN L i)(hS:S=sL js ks L nj np i)(hlen:S.length=16)(hb:∀ p,isN L p→iW (sL js ks L nj np p))(hi:i<8)
  (l6:u6<base) (l7:u7<base) (lr:rb<base) (n6:u6≠rb) (n67:u6≠u7) (n7:u7≠rb) (D:List Nat) :
  ∀(m p:Nat) (H:Hp) (n:Nat),p≤8→8-p≤m→base≤n→H.get u6=some (.cells [.map (some rb)] 160 false none)→gK H rb (netQ js ks L nj np i p)→pz H u7 js ks L nj np i p →
  ∃ T' H' n',Rj c k lp m (.pointer (some ⟨u6,0,none⟩)) (.pointer (some ⟨u7,0,none⟩)) (.int .i64 i) (.agg ⟨ints S⟩) (.int .i64 p) H n D=some (.norm,{ T:=T',H:=H',n:=n',D:=D })∧n≤n'∧gK H' rb (netQ js ks L nj np i 8)∧pz H' u7 js ks L nj np i 8∧∀ b,b<n→b≠rb→b≠u7→H'.get b=H.get b:=by
 have body:∀(b1:W5 (Ex × St)) (m p:Nat) (H:Hp) (n:Nat),p≤8→base≤n→H.get u6=some (.cells [.map (some rb)] 160 false none)→gK H rb (netQ js ks L nj np i p)→pz H u7 js ks L nj np i p →
   (∀(H':Hp) (n':Nat),p<8→n≤n'→H'.get u6=some (.cells [.map (some rb)] 160 false none)→gK H' rb (netQ js ks L nj np i (p+1))→pz H' u7 js ks L nj np i (p+1) →
    ∃ T2 H2 n2,b1 (.pointer (some ⟨u6,0,none⟩)) (.pointer (some ⟨u7,0,none⟩)) (.int .i64 i) (.agg ⟨ints S⟩) (.int .i64 ((p+1:Nat):Int)) H' n' D=some (.norm,{ T:=T2,H:=H2,n:=n2,D:=D })∧n'≤n2∧gK H2 rb (netQ js ks L nj np i 8)∧pz H2 u7 js ks L nj np i 8∧∀ b,b<n'→b≠rb→b≠u7→H2.get b=H'.get b) →
   ∃ T' H' n',QK c k lp m b1 (.pointer (some ⟨u6,0,none⟩)) (.pointer (some ⟨u7,0,none⟩)) (.int .i64 i) (.agg ⟨ints S⟩) (.int .i64 p) H n D=some (.norm,{ T:=T',H:=H',n:=n',D:=D })∧n≤n'∧gK H' rb (netQ js ks L nj np i 8)∧pz H' u7 js ks L nj np i 8∧∀ b,b<n→b≠rb→b≠u7→H'.get b=H.get b:=by
  intro b1 m p H n hp hbn h6 hnet hlow ih
  unfold QK B78b0_1
  rw[ax cJ,gw]
  by_cases hlt:p<8
  ·have hI1:I64 ((p:Int)+1):=by unfold I64; omega
   have hc1:((p:Int)+1)=((p+1:Nat):Int):=by omega
   have hI0:I64 (0+(i:Int)):=by unfold I64; omega
   have hI8:I64 (8+(p:Int)):=by unfold I64; omega
   have hb0:=hb i hN (p * 2)
   have hb1:=hb i hN (p * 2+1)
   rw[← hS] at hb0 hb1
   have hI2:I64 (S.getD (p * 2+1) 0-S.getD (p * 2) 0):=by unfold I64; omega
   obtain⟨X,x1,x2,x3⟩:=hlow
   have xp:=x3 p hlt
   rw[if_neg (by omega)] at xp
   have sm:=Yw (nj:=nj) (np:=np) (js:=js) (ks:=ks) hb p i
   have hI3:I64 (X.getD p 0+S.getD (p * 2) 0):=by rw[xp]; unfold I64; omega
   obtain⟨H1,k1,k2,k3⟩:=vk (P:=P) (ρ:=Ex × St) (H:=H) (n:=n) (L:=[.int .i64 (S.getD (p * 2) 0),.int .i64 (S.getD (p * 2+1) 0)]) zero53 rfl sz53 rfl rfl
   have c1:aW H1 n 0 [.int .i64 (S.getD (p * 2) 0),.int .i64 (S.getD (p * 2+1) 0)]:=dv k2
   obtain⟨H2,e1,e2,e3⟩:=qej (hnet.keep (k1 rb (by omega))) i (8+p) (S.getD (p * 2+1) 0-S.getD (p * 2) 0)
   have c2:aW H2 n 0 [.int .i64 (S.getD (p * 2) 0),.int .i64 (S.getD (p * 2+1) 0)]:=dv ((e3 n (by omega)).trans k2)
   have x2':H2.get u7=some (.cells (ints X) 118 false none):=(e3 u7 n7).trans ((k1 u7 (by omega)).trans x2)
   have lX:az P H2 3 ⟨u7,0+p * 1,none⟩=some (.int .i64 (X.getD p 0)):=bj (k:=p * 1) (dv x2') agg3 (by rw[Nat.mul_one]; exact gQ (getD_some (by omega)))
   have a8:(8+(p:Int))=((8+p:Nat):Int):=by omega
   have hst:=store_one (a:=X.getD p 0+S.getD (p * 2) 0) x2' (o:=p) (by omega)
   rw[if_pos (by omega),index_row hlen hlt,aj,two_get hlen hlt,k3,ak,aj,jx ((k1 u6 (by omega)).trans h6) zk rfl rfl,aj,ax (bk hI0),Int.zero_add,ax (bk hI8),a8,Ek,aj,fa53_1,aj,ak,aj,
    bj (k:=1) c1 agg3 rfl,aj,fa53_0,aj,ak,aj,bj (k:=0) c1 agg3 rfl,aj,ax (oW hI2),e1,aj,at120 u7 hlt,aj,ak,aj,lX,aj,aj,ak,aj,bj (k:=0) c2 agg3 rfl,aj,ax (bk hI3),aj,
    rz sz3 rfl,show(0+p * 1)=p by omega,hst,aj,ax (bk hI1),hc1]
   have q1:(H2.set u7 (some (.cells (ints (X.set p (X.getD p 0+S.getD (p * 2) 0))) 118 false none))).get u7=some (.cells (ints (X.set p (X.getD p 0+S.getD (p * 2) 0))) 118 false none):=by rw[Tr.get_set,if_pos rfl]
   have q2:∀ b,b≠u7→(H2.set u7 (some (.cells (ints (X.set p (X.getD p 0+S.getD (p * 2) 0))) 118 false none))).get b=H2.get b:=fun b hb=>by rw[Tr.get_set,if_neg hb]
   generalize H2.set u7 (some (.cells (ints (X.set p (X.getD p 0+S.getD (p * 2) 0))) 118 false none))=H3 at q1 q2 ⊢
   have w:wL js ks L nj np i p=S.getD (p * 2+1) 0-S.getD (p * 2) 0:=by unfold wL; rw[if_pos hN,← hS]
   have n3:gK H3 rb (netQ js ks L nj np i (p+1)):=by
    rw[← netQ_step hi hlt,w]
    exact e2.keep (q2 rb (by omega))
   have l3:pz H3 u7 js ks L nj np i (p+1):=by
    refine⟨_,by rw[List.length_set]; exact x1,q1,fun q hq=>?_⟩
    by_cases e:q=p
    ·subst e
     rw[getD_set_same (by omega),if_pos (by omega),xp]
     unfold lowL
     simp only[ay]
     rw[if_pos hN,← hS]
    ·rw[getD_set_ne e,x3 q hq]
     by_cases c:q<p
     ·rw[if_pos c,if_pos (by omega)]
     ·rw[if_neg c,if_neg (by omega)]
   obtain⟨T',H',n',f1,f2,f3,f4,f5⟩:=ih H3 (n+1) hlt (by omega) (by rw[q2 u6 n67,e3 u6 n6,k1 u6 (by omega)]; exact h6) n3 l3
   exact⟨T',H',n',f1,by omega,f3,f4,fun b hb h1 h2=>by rw[f5 b (by omega) h1 h2,q2 b h2,e3 b h1,k1 b hb]⟩
  ·rw[if_neg (by omega)]
   have:p=8:=by omega
   subst this
   exact⟨_,H,n,rfl,Nat.le_refl _,hnet,hlow,fun _ _ _ _=>rfl⟩
 intro m
 induction m with
 | zero=>
  intro p H n h1 h2 h3 h4 h5 h6
  exact body _ 0 p H n h1 h3 h4 h5 h6 (fun _ _ h=>by omega)
 | succ m ih=>
  intro p H n h1 h2 h3 h4 h5 h6
  exact body _ (m+1) p H n h1 h3 h4 h5 h6 (fun H' n' q1 q2 q3 q4 q5=>ih (p+1) H' n' (by omega) (by omega) (by omega) q3 q4 q5)
theorem Lj(l lp:Nat)(f:FuncId)(c:Code)(T:Tm)(H:Hp)(n:Nat)(D:List Nat):(cal (l+1)).body lp f c { T,H,n,D }=aK P (cal l) (KK+1) (lvOf A f c (some lp)) (some lp) f c KNb XNb KRb T H n D:=by kernel_rfl
theorem lv78a(lp:Nat):lvOf A 78 tW (some lp)=Lv.leaf:=by kernel_rfl
theorem lv78b(lp:Nat):lvOf A 78 jZ (some lp)=A 131150:=by kernel_rfl
noncomputable def T78(u0 u3 u6 u7 u8 u23:Value):Tm:=Tr.set (Tr.set (Tr.set (Tr.set (Tr.set (Tr.set Tr.nil 23 (some u23)) 8 (some u8)) 7 (some u7)) 6 (some u6)) 3 (some u3)) 0 (some u0)
theorem par78(u0 u3 u6 u7 u8 u23 a b:Value):yX (T78 u0 u3 u6 u7 u8 u23) (ntm P 78) (#[24,25]:Array Tmp).toList [a,b]=some (Tr.set (Tr.set (Tr.set (Tr.set (Tr.set (Tr.set (Tr.set (Tr.set Tr.nil 25 (some b)) 24 (some a)) 23 (some u23)) 8 (some u8)) 7 (some u7)) 6 (some u6)) 3 (some u3)) 0 (some u0)):=by kernel_rfl
theorem pz.next{H:Hp}{b:Nat}{js ks L:List Int}{nj np i:Nat}(h:pz H b js ks L nj np i 8):pz H b js ks L nj np (i+1) 0:=by
 obtain⟨X,h1,h2,h3⟩:=h
 refine⟨X,h1,h2,fun q hq=>?_⟩
 rw[h3 q hq,if_pos hq,if_neg (by omega)]
theorem pz.keep{H H':Hp}{b:Nat}{js ks L:List Int}{nj np i p:Nat}(h:pz H b js ks L nj np i p)(hk:H'.get b=H.get b):pz H' b js ks L nj np i p:=by
 obtain⟨X,h1,h2,h3⟩:=h
 exact⟨X,h1,hk.trans h2,h3⟩
theorem pz.skip{H:Hp}{b:Nat}{js ks L:List Int}{nj np i:Nat}(h:pz H b js ks L nj np i 0)(hs:L.getD i 0=-1):pz H b js ks L nj np (i+1) 0:=by
 obtain⟨X,h1,h2,h3⟩:=h
 refine⟨X,h1,h2,fun q hq=>?_⟩
 rw[h3 q hq,if_neg (by omega),if_neg (by omega)]
 unfold lowL
 simp only[ay]
 rw[if_neg (fun h':isN L i=>h'.2 hs)]
 omega
theorem spare_small{js ks L:List Int}{nj np:Nat}(ok:LaidNests js ks L nj np)(hb:∀ p,isN L p→iW (sL js ks L nj np p))(hy:∀ p,isN L p→0≤yL ks L p∧yL ks L p≤1000)(p:Nat):0≤cX js ks L nj np p∧cX js ks L nj np p≤1000:=by
 unfold cX
 by_cases c:isN L p
 ·rw[if_pos c]
  have:=(ok.fits p c).1
  have:=hy p c
  have t0:=(total_range (hb p c) 0).1
  omega
 ·rw[if_neg c]; omega
theorem Dv{js ks L:List Int}{nj np:Nat}(h:∀ p,0≤cX js ks L nj np p∧cX js ks L nj np p≤1000):∀ i,0≤ay (cX js ks L nj np) i∧ay (cX js ks L nj np) i≤i * 1000
 | 0=>by simp only[ay]; omega
 | i+1=>by
  have:=Dv h i
  have:=h i
  simp only[ay]
  omega
theorem round78(l:Nat){js ks L S B:List Int}{nj np i lb d u6 u7 u8 rb:Nat}{y:Int}{v0 v3 v23:Value}{H:Hp}{n:Nat}(ok:LaidNests js ks L nj np)(hb:∀ p,isN L p→iW (sL js ks L nj np p))(hy:∀ p,isN L p→0≤yL ks L p∧yL ks L p≤1000)
  (hN:isN L i) (hS:S=sL js ks L nj np i) (hyl:y=yL ks L i) (hlen:S.length=16) (hB:B.length=16)
  (hl:H.get lb=some (.loop .ready none 78 (T78 v0 v3 (.pointer (some ⟨u6,0,none⟩)) (.pointer (some ⟨u7,0,none⟩)) (.pointer (some ⟨u8,0,none⟩)) v23) (ntm P 78) #[24,25] tW jZ d))
  (l6:u6<n) (l7:u7<n) (l8:u8<n) (lr:rb<n) (ll:lb<n) (n6:u6≠rb∧u6≠u7∧u6≠u8∧u6≠lb) (n7:u7≠rb∧u7≠u8∧u7≠lb) (n8:u8≠rb∧u8≠lb) (nr:rb≠lb)
  (h6:H.get u6=some (.cells [.map (some rb)] 160 false none)) (hnet:gK H rb (netP js ks L nj np i)) (hlow:pz H u7 js ks L nj np i 0) (h8:H.get u8=some (.cells [.int .i64 (ay (cX js ks L nj np) i)] 3 false none)) :
  ∃ H' n',(∀ k:Value→Hp→Nat→Option ρ,lQ P (cal (l+4)) (.func (.yield lb) #[] #[]) [.int .i64 i,.agg ⟨ints (bW y S B)⟩] H n k=k (.bool true) H' n')∧n≤n'∧H'.get lb=H.get lb∧gK H' rb (netP js ks L nj np (i+1))∧pz H' u7 js ks L nj np (i+1) 0 ∧
   H'.get u8=some (.cells [.int .i64 (ay (cX js ks L nj np) (i+1))] 3 false none)∧∀ b,b<n→b≠lb→b≠rb→b≠u7→b≠u8→H'.get b=H.get b:=by
 have hi:i<8:=hN.1
 have lens:(ints (bW y S B)).length=33:=by rw[bv,gk hlen hB]
 obtain⟨H1,k1,k2,k3⟩:=vk (P:=P) (ρ:=Ex × St) (H:=H) (n:=n) (L:=ints (bW y S B)) Vq (by show(ints (bW 0 oY oY)).length=33; rw[bv,gk rj rj]) Gk lens (kJ _)
 have hasg:(cal (l+4)).body lb 78 tW { T:=Tr.set (Tr.set (Tr.set (Tr.set (Tr.set (Tr.set (Tr.set (Tr.set Tr.nil 25 (some (.agg ⟨ints (bW y S B)⟩))) 24 (some (.int .i64 i))) 23 (some v23)) 8 (some (.pointer (some ⟨u8,0,none⟩)))) 7 (some (.pointer (some ⟨u7,0,none⟩)))) 6 (some (.pointer (some ⟨u6,0,none⟩)))) 3 (some v3)) 0 (some v0),H,n,D:=[] }=some (.norm,{ T:=Tr.set (Tr.set (Tr.set (Tr.set (Tr.set (Tr.set (Tr.set (Tr.set (Tr.set (Tr.set Tr.nil 25 (some (.agg ⟨ints (bW y S B)⟩))) 24 (some (.int .i64 i))) 23 (some v23)) 10 (some (.pointer (some ⟨n,0,none⟩)))) 9 (some (.int .i64 i))) 8 (some (.pointer (some ⟨u8,0,none⟩)))) 7 (some (.pointer (some ⟨u7,0,none⟩)))) 6 (some (.pointer (some ⟨u6,0,none⟩)))) 3 (some v3)) 0 (some v0),H:=H1,n:=n+1,D:=[] }):=by
  rw[show l+4=(l+3)+1 by omega,Lj,lv78a,h78a0_0]
  unfold C78a0_0 B78a0_0
  rw[k3]
 have lb1:H1.get lb=H.get lb:=k1 lb ll
 have e6:∀(x:Option Blk),(H1.set lb x).get u6=some (.cells [.map (some rb)] 160 false none):=fun x=>by rw[Tr.get_set,if_neg n6.2.2.2,k1 u6 l6]; exact h6
 obtain⟨Hb,hHb⟩:∃ Hb,Hb=H1.set lb (some (.loop .busy none 78 (T78 v0 v3 (.pointer (some ⟨u6,0,none⟩)) (.pointer (some ⟨u7,0,none⟩)) (.pointer (some ⟨u8,0,none⟩)) v23) (ntm P 78) #[24,25] tW jZ d)):=⟨_,rfl⟩
 have bget:∀ b,b≠lb→Hb.get b=H1.get b:=fun b hb=>by rw[hHb,Tr.get_set,if_neg hb]
 have blb:Hb.get lb=some (.loop .busy none 78 (T78 v0 v3 (.pointer (some ⟨u6,0,none⟩)) (.pointer (some ⟨u7,0,none⟩)) (.pointer (some ⟨u8,0,none⟩)) v23) (ntm P 78) #[24,25] tW jZ d):=by rw[hHb,Tr.get_set,if_pos rfl]
 have gn:Hb.get n=some (.cells (ints (bW y S B)) 111 false none):=(bget n (by omega)).trans k2
 have cn:∀ Hc:Hp,Hc.get n=Hb.get n→aW Hc n 0 (ints (bW y S B)):=fun Hc h=>dv (h.trans gn)
 have hbod:∃ T3 H3 n3,(cal (l+4)).body lb 78 jZ { T:=Tr.set (Tr.set (Tr.set (Tr.set (Tr.set (Tr.set (Tr.set (Tr.set (Tr.set (Tr.set Tr.nil 25 (some (.agg ⟨ints (bW y S B)⟩))) 24 (some (.int .i64 i))) 23 (some v23)) 10 (some (.pointer (some ⟨n,0,none⟩)))) 9 (some (.int .i64 i))) 8 (some (.pointer (some ⟨u8,0,none⟩)))) 7 (some (.pointer (some ⟨u7,0,none⟩)))) 6 (some (.pointer (some ⟨u6,0,none⟩)))) 3 (some v3)) 0 (some v0),H:=Hb,n:=n+1,D:=[] }=some (.norm,{ T:=T3,H:=H3,n:=n3,D:=[] }) ∧
   n+1≤n3∧gK H3 rb (netP js ks L nj np (i+1))∧pz H3 u7 js ks L nj np (i+1) 0∧H3.get u8=some (.cells [.int .i64 (ay (cX js ks L nj np) (i+1))] 3 false none)∧∀ b,b<n+1→b≠rb→b≠u7→b≠u8→H3.get b=Hb.get b:=by
  rw[show l+4=(l+3)+1 by omega,Lj,lv78b,h78b0_0]
  unfold C78b0_0
  generalize hJ:Rj (cal (l+3)) KK lb KK=J
  unfold B78b0_0
  have ly:az P Hb 3 ⟨n,0+0,none⟩=some (.int .i64 y):=bj (k:=0) (cn Hb rfl) agg3 (by simp [ints,bW])
  have sp:cX js ks L nj np i=y-total S 0:=by unfold cX; rw[if_pos hN,hyl,hS]
  have ss:=spare_small ok hb hy
  have s1:=ss i
  have s2:=Dv ss i
  have hI1:I64 (y-total S 0):=by rw[← sp]; unfold I64; omega
  have hI2:I64 (ay (cX js ks L nj np) i+(y-total S 0)):=by rw[← sp]; unfold I64; omega
  have hI0:I64 (0+(i:Int)):=by unfold I64; omega
  have hSb:iW S:=by rw[hS]; exact hb i hN
  obtain⟨H2,g2,e2⟩:=AQ (P:=P) (ρ:=Ex × St) (ex:=[.l 3 ⟨n,0+0,none⟩]) (H:=Hb) (n:=n+1) (v:=.int .i64 (total S 0))
   (op:=fun H n k=>aX P (cal (l+3)) 98 [.agg ⟨ints (bW y S B)⟩,.func (.func 72) #[] #[]] H n fun v H n=>k v H n)
   ⟨fun q hq=>by
    rw[List.mem_singleton] at hq
    exact .inl ⟨_,_,hq,.inl ⟨_,_,_,_,gn⟩⟩,fun t a id c e h1 h2=>by simp at h2⟩ (fun H k=>Vj (l+1) (e:=0) (by omega) hlen hB hSb H _ _)
  have g8:H2.get u8=some (.cells [.int .i64 (ay (cX js ks L nj np) i)] 3 false none):=by rw[g2,bget u8 n8.2,k1 u8 l8]; exact h8
  have st8:=rV (vs:=[.int .i64 (ay (cX js ks L nj np) i+(y-total S 0))]) g8 rfl rfl
  rw[qez,aj,ak,aj,ly,aj,ak,aj,fY gn Tq Gk lens,aj,e2,ax (oW hI1),ak,aj,bj (k:=0) (o:=0) (dv g8) agg3 rfl,aj,ax (bk hI2),rz sz3 rfl,st8,aj]
  have q8:(H2.set u8 (some (.cells [.int .i64 (ay (cX js ks L nj np) i+(y-total S 0))] 3 false none))).get u8=some (.cells [.int .i64 (ay (cX js ks L nj np) i+(y-total S 0))] 3 false none):=by rw[Tr.get_set,if_pos rfl]
  have q9:∀ b,b≠u8→(H2.set u8 (some (.cells [.int .i64 (ay (cX js ks L nj np) i+(y-total S 0))] 3 false none))).get b=Hb.get b:=fun b hb=>by rw[Tr.get_set,if_neg hb,g2]
  generalize H2.set u8 (some (.cells [.int .i64 (ay (cX js ks L nj np) i+(y-total S 0))] 3 false none))=H3 at q8 q9 ⊢
  have r6:H3.get u6=some (.cells [.map (some rb)] 160 false none):=by rw[q9 u6 n6.2.2.1,hHb]; exact e6 _
  have rn:gK H3 rb (netP js ks L nj np i):=hnet.keep (by rw[q9 rb (Ne.symm n8.1),bget rb nr,k1 rb lr])
  obtain⟨H4,m1,m2,m3⟩:=qej rn 16 i (y-total S 0)
  have lS:az P H4 109 ⟨n,0+1,none⟩=some (.agg ⟨ints S⟩):=by
   have:=cw (P:=P) (k:=1) (cn H4 (by rw[m3 n (by omega),q9 n (by omega)])) agg111 sz111 (by rw[lens]; omega) (dY _)
   rw[nest_shares hlen] at this
   exact this
  rw[aj,jx r6 zk rfl rfl,aj,ax (bk hI0),Int.zero_add,show fK P 162 [(0,.int .i64 16),(1,.int .i64 (i:Int))]=some (keyV [((16:Nat):Int),(i:Int)]) from Ek 16 i,aj,m1,aj,UK,aj,ak,aj,lS,aj,← hJ]
  rw[← sp,netP_first hi] at m2
  have low4:pz H4 u7 js ks L nj np i 0:=hlow.keep (by rw[m3 u7 n7.1,q9 u7 n7.2.1,bget u7 n7.2.2,k1 u7 l7])
  obtain⟨T3,H5,n5,f1,f2,f3,f4,f5⟩:=arcs_loop (cal (l+3)) KK lb (base:=n) hN hS hlen hb hi l6 l7 lr n6.1 n6.2.1 n7.1 [] KK 0 H4 (n+1) (by omega) (by unfold KK; omega) (by omega) ((m3 u6 n6.1).trans r6) m2 low4
  refine⟨T3,H5,n5,f1,f2,by rw[← netQ_last hi]; exact f3,f4.next,?_,fun b hb h1 h2 h3=>by rw[f5 b hb h1 h2,m3 b h1,q9 b h3]⟩
  rw[f5 u8 (by omega) n8.1 (Ne.symm n7.2.1),m3 u8 n8.1,q8,← sp]
  rfl
 obtain⟨T3,H3,n3,b1,b2,b3,b4,b5,b6⟩:=hbod
 have hl3:H3.get lb=some (.loop .busy none 78 (T78 v0 v3 (.pointer (some ⟨u6,0,none⟩)) (.pointer (some ⟨u7,0,none⟩)) (.pointer (some ⟨u8,0,none⟩)) v23) (ntm P 78) #[24,25] tW jZ d):=(b6 lb (by omega) (Ne.symm nr) (Ne.symm n7.2.2) (Ne.symm n8.2)).trans blb
 rw[hHb] at b1
 refine⟨_,n3,fun k=>yield_any hl (par78 ..) hasg lb1 b1 hl3 (j:=none) rfl k,by omega,?_,b3.keep ?_,b4.keep ?_,?_,fun b h1 h2 h3 h4 h5=>?_⟩
 ·rw[Tr.get_set,if_pos rfl,hl]; rfl
 ·rw[Tr.get_set,if_neg nr]
 ·rw[Tr.get_set,if_neg n7.2.2]
 ·rw[Tr.get_set,if_neg n8.2]; exact b5
 ·rw[Tr.get_set,if_neg h2,b6 b (by omega) h3 h4 h5,bget b h2,k1 b h1]
theorem agg162:fJ P 162=some true:=by kernel_rfl
theorem sz162:szT P 162=some 2:=by kernel_rfl
theorem zero162:iJ P 162=some (.agg ⟨[.int .i64 0,.int .i64 0]⟩):=by kernel_rfl
theorem arc_two(a b:Nat):fK P 162 [(0,.int .i64 a),(1,.int .i64 b)]=some (.agg ⟨[.int .i64 (a:Int),.int .i64 (b:Int)]⟩):=by kernel_rfl
theorem lv108a(lp:Nat):lvOf A 108 qy (some lp)=Lv.leaf:=by kernel_rfl
theorem lv108b(lp:Nat):lvOf A 108 jJ (some lp)=A 131180:=by kernel_rfl
noncomputable def T108(u3 u5 u7 u21:Value):Tm:=Tr.set (Tr.set (Tr.set (Tr.set Tr.nil 21 (some u21)) 7 (some u7)) 5 (some u5)) 3 (some u3)
theorem par108(u3 u5 u7 u21 a b:Value):yX (T108 u3 u5 u7 u21) (ntm P 108) (#[22,23]:Array Tmp).toList [a,b]=some (Tr.set (Tr.set (Tr.set (Tr.set (Tr.set (Tr.set Tr.nil 23 (some b)) 22 (some a)) 21 (some u21)) 7 (some u7)) 5 (some u5)) 3 (some u3)):=by kernel_rfl
structure SentAt (H:Hp) (base n sb np:Nat) (rw_:Nat→Value) (R:Nat→List Int):Prop where
 cells:cZ H sb np 44 rw_
 row:∀ q,q<np→VecAt H base n 1 3 (rw_ q) (R q).length (R q)
 off:∀ q r,q<np→r<np→q≠r→∀ b,fj (rw_ q) b→¬ fj (rw_ r) b
theorem SentAt.keep{H H':Hp}{base n m sb np:Nat}{rw_:Nat→Value}{R:Nat→List Int}(h:SentAt H base n sb np rw_ R)(hs:sb<n)(hm:n≤m)(hk:∀ b,b<n→b=sb∨base≤b→H'.get b=H.get b):SentAt H' base m sb np rw_ R:=by
 obtain⟨⟨c,a1,a2,a3⟩,h2,h3⟩:=h
 refine⟨⟨c,(hk sb hs (.inl rfl)).trans a1,a2,a3⟩,fun q hq=>(h2 q hq).same hm fun b hb hblk=>hk b hb (.inr ((h2 q hq).low hblk).1),h3⟩
theorem push_behind{H:Hp}{base n ub len:Nat}{u w:Value}{xs:List Int}(h:VecAt H base n 1 3 u len xs)(hb:base≤n)(hub:ub<base)(hu:H.get ub=some (.cells [w] 59 false none))(hlen:len≤1000)(i:Int) :
  ∃ u' H',(∀ k:Value→Hp→Nat→Option ρ,(aq (zj P 44 1 [(0,.int .i64 i)]) fun q=>newK q.1 q.2 H n fun H1 n1=>effK P [(.l 59 ⟨ub,0,none⟩)] H1 n1 (fun H2 n2 k2=>stK (iz P (bare H2 n2) 44 44 u (.slice (some ⟨n,0,none⟩) 1 1)) fun v H n=>k2 v H n) k)=k u' H' (n+1+1)) ∧
   VecAt H' base (n+1+1) 1 3 u' (len+1) (xs++[i])∧(∀ b,b<n→¬ fj u b→H'.get b=H.get b)∧∀ b,fj u' b→n≤b:=by
 have k1:∀ b,b<n→(H.set n (some (.cells [.int .i64 i] 3 false none))).get b=H.get b:=fun b hb=>by rw[Tr.get_set,if_neg (by omega)]
 have r1:(H.set n (some (.cells [.int .i64 i] 3 false none))).get n=some (.cells [.int .i64 i] 3 false none):=by rw[Tr.get_set,if_pos rfl]
 have hu1:(H.set n (some (.cells [.int .i64 i] 3 false none))).get ub=some (.cells [w] 59 false none):=(k1 ub (by omega)).trans hu
 have onlyub:∀ b,ldOf [Extra.l 59 ⟨ub,0,none⟩] b→b=ub:=fun b=>by
  rintro⟨t,a,q1,q2⟩
  rw[List.mem_singleton] at q1
  cases q1
  exact q2.symm
 have isub:ldOf [Extra.l 59 ⟨ub,0,none⟩] ub:=⟨_,_,List.mem_singleton.2 rfl,rfl⟩
 have hlow:∀ b,fj u b→base≤b:=fun b hb=>(h.low hb).1
 generalize hH1:H.set n (some (.cells [.int .i64 i] 3 false none))=H1 at k1 r1 hu1
 obtain⟨H',H2,n2,e1,⟨e2,e3,rfl⟩,e4,e5⟩:=NQ (P:=P) (ρ:=ρ) (ex:=[.l 59 ⟨ub,0,none⟩]) (H:=H1) (n:=n+1) (v:=.slice (some ⟨n+1,0,none⟩) (len+1) capV)
  (op:=fun H2 n2 k2=>stK (iz P (bare H2 n2) 44 44 u (.slice (some ⟨n,0,none⟩) 1 1)) fun v H n=>k2 v H n)
  (R:=fun H2 n2=>VecAt H2 base (n+1+1) 1 3 (.slice (some ⟨n+1,0,none⟩) (len+1) capV) (len+1) (xs++[i])∧(∀ b,b<n+1→b≠ub→¬ fj u b→H2.get b=H1.get b)∧n2=n+1+1)
  (fun y hy=>by
   rw[List.mem_singleton] at hy
   exact⟨_,_,hy,.inl ⟨_,_,_,_,hu1⟩⟩)
  (fun Hm hm=>by
   have hm':∀ b,b≠ub→Hm.get b=H1.get b:=fun b hb=>hm b fun q=>hb (onlyub b q)
   have hv:VecAt Hm base (n+1) 1 3 u len xs:=h.same (by omega) fun b hbn hblk=>by
    rw[hm' b (by have:=hlow b hblk; omega),k1 b hbn]
   have hc:aW Hm n 0 (ints [i]):=dv ((hm' n (by omega)).trans r1)
   obtain⟨Hx,ea,ev,eo⟩:=KX (P:=P) (t:=44) (t2:=44) (cap2:=1) hv sl44 sl44 sz3 by3 zero3 rfl hc rfl (by omega) (by omega) (by omega) (by omega)
   refine⟨Hx,n+1+1,fun k=>?_,fun b hb=>?_,ev,fun b hbn hne hblk=>?_,rfl⟩
   ·rw[ea]; rfl
   ·rw[onlyub b hb]
    exact eo ub (by omega) fun q=>by have:=hlow ub q; omega
   ·rw[eo b hbn hblk,hm' b hne])
 have same:∀ b,b<n→¬ fj u b→H'.get b=H.get b:=fun b hbn hblk=>by
  by_cases c:b=ub
  ·rw[c,e4 ub isub,k1 ub (by omega)]
  ·rw[e5 b (fun q=>c (onlyub b q)),e3 b (by omega) c hblk,k1 b hbn]
 refine⟨_,H',fun k=>?_,e2.same (Nat.le_refl _) fun b hbn hblk=>?_,same,fun b hblk=>by rw[IW hblk]; omega⟩
 ·rw[row44,aj]
  unfold newK
  dsimp only
  rw[hH1]
  exact e1 k
 ·rw[IW hblk]
  exact e5 (n+1) fun q=>by have:=onlyub _ q; omega
noncomputable def oZ(js ks L:List Int)(nj np:Nat)(m:Net)(i:Nat):List Int:=if isN L i then(List.range np).map fun p=>(sL js ks L nj np i).getD (p * 2) 0+m (8+p) i else[]
noncomputable def nK(js ks L:List Int)(nj np:Nat)(m:Net)(i p q:Nat):List Int:=if q<i then oZ js ks L nj np m q else if q=i then(List.range p).map fun p=>(sL js ks L nj np i).getD (p * 2) 0+m (8+p) i else[]
theorem sent_loop(c:Cal)(k lp:Nat){js ks L S B:List Int}{y:Int}{nj np i u5 u7 u9 rb sb base N0:Nat}{m:Net}(hS:S=sL js ks L nj np i)(hlen:S.length=16)(hSb:iW S)(hi:i<np)(hnp:np≤8)(hm:sX m)
  (l5:u5<base) (l7:u7<base) (lr:rb<base) (ls:sb<base) (l9:u9<N0) (n5:u5≠sb) (n7:u7≠sb) (nr:rb≠sb) (n9:u9≠sb) (D:List Nat) :
  ∀(q p:Nat) (rw_:Nat→Value) (H:Hp) (n:Nat),p≤np→np-p≤q→base≤n→N0≤n→H.get u5=some (.cells [.map (some rb)] 160 false none)→H.get u7=some (.cells [.slice (some ⟨sb,0,none⟩) np np] 59 false none)→H.get u9=some (.cells (ints (bW y S B)) 111 false none)→gK H rb m →
   SentAt H base n sb np rw_ (nK js ks L nj np m i p)→(∀ q,q<np→¬ fj (rw_ q) u9) →
  ∃ T' H' n' rw',JK c k lp q (.pointer (some ⟨u5,0,none⟩)) (.pointer (some ⟨u7,0,none⟩)) (.int .i64 i) (.pointer (some ⟨u9,0,none⟩)) (.int .i64 np) (.int .i64 p) H n D=some (.norm,{ T:=T',H:=H',n:=n',D:=D })∧n≤n'∧SentAt H' base n' sb np rw' (nK js ks L nj np m i np)∧∀ b,b<base→b≠sb→H'.get b=H.get b:=by
 have body:∀(b1:W6 (Ex × St)) (q p:Nat) (rw_:Nat→Value) (H:Hp) (n:Nat),p≤np→base≤n→N0≤n→H.get u5=some (.cells [.map (some rb)] 160 false none)→H.get u7=some (.cells [.slice (some ⟨sb,0,none⟩) np np] 59 false none)→H.get u9=some (.cells (ints (bW y S B)) 111 false none)→gK H rb m →
   SentAt H base n sb np rw_ (nK js ks L nj np m i p)→(∀ q,q<np→¬ fj (rw_ q) u9) →
   (∀(rw_:Nat→Value) (H':Hp) (n':Nat),p<np→n≤n'→H'.get u5=some (.cells [.map (some rb)] 160 false none)→H'.get u7=some (.cells [.slice (some ⟨sb,0,none⟩) np np] 59 false none)→H'.get u9=some (.cells (ints (bW y S B)) 111 false none)→gK H' rb m →
    SentAt H' base n' sb np rw_ (nK js ks L nj np m i (p+1))→(∀ q,q<np→¬ fj (rw_ q) u9) →
    ∃ T2 H2 n2 rw',b1 (.pointer (some ⟨u5,0,none⟩)) (.pointer (some ⟨u7,0,none⟩)) (.int .i64 i) (.pointer (some ⟨u9,0,none⟩)) (.int .i64 np) (.int .i64 ((p+1:Nat):Int)) H' n' D=some (.norm,{ T:=T2,H:=H2,n:=n2,D:=D })∧n'≤n2∧SentAt H2 base n2 sb np rw' (nK js ks L nj np m i np)∧∀ b,b<base→b≠sb→H2.get b=H'.get b) →
   ∃ T' H' n' rw',JZ c k lp q b1 (.pointer (some ⟨u5,0,none⟩)) (.pointer (some ⟨u7,0,none⟩)) (.int .i64 i) (.pointer (some ⟨u9,0,none⟩)) (.int .i64 np) (.int .i64 p) H n D=some (.norm,{ T:=T',H:=H',n:=n',D:=D })∧n≤n'∧SentAt H' base n' sb np rw' (nK js ks L nj np m i np)∧∀ b,b<base→b≠sb→H'.get b=H.get b:=by
  intro b1 q p rw_ H n hp hbn hn0 h5 h7 h9 hnet hsent hoff ih
  unfold JZ qqx
  rw[ax cJ,gw]
  by_cases hlt:p<np
  ·have hp8:p<8:=by omega
   have hI1:I64 ((p:Int)+1):=by unfold I64; omega
   have hc1:((p:Int)+1)=((p+1:Nat):Int):=by omega
   have hI0:I64 (0+(i:Int)):=by unfold I64; omega
   have hI8:I64 (8+(p:Int)):=by unfold I64; omega
   have a8:(8+(p:Int))=((8+p:Nat):Int):=by omega
   have hb0:=hSb (p * 2)
   have hmm:=(hm (8+p) i).2 (by omega) (by omega)
   have hm1:=(hm (8+p) i).1
   have hm2:=(hm i (8+p)).1
   have hI2:I64 (S.getD (p * 2) 0+m (8+p) i):=by unfold I64; omega
   obtain⟨H1,k1,k2,k3⟩:=vk (P:=P) (ρ:=Ex × St) (H:=H) (n:=n) (L:=[.int .i64 ((8+p:Nat):Int),.int .i64 (i:Int)]) zero162 rfl sz162 rfl rfl
   have h51:=(k1 u5 (by omega)).trans h5
   have h71:=(k1 u7 (by omega)).trans h7
   have h91:=(k1 u9 (by omega)).trans h9
   have net1:gK H1 rb m:=hnet.keep (k1 rb (by omega))
   have sent1:SentAt H1 base (n+1) sb np rw_ (nK js ks L nj np m i p):=hsent.keep (by omega) (by omega) fun b hb _=>k1 b hb
   have lrow:az P H1 44 ⟨sb,0+i * 1,none⟩=some (rw_ i):=by
    rw[show 0+i * 1=i by omega]
    exact sent1.cells.load agg44 hi
   have lS:az P H1 3 ⟨u9,0+1+p * 2+0,none⟩=some (.int .i64 (S.getD (p * 2) 0)):=by
    have:=bj (P:=P) (k:=1+p * 2) (x:=S.getD (p * 2) 0) (kd:=.i64) (dv h91) agg3 (by
     refine gQ ?_
     unfold bW
     rw[Nat.add_comm,List.getElem?_cons_succ,List.getElem?_append_left (by omega)]
     exact getD_some (by omega))
    rw[show 0+(1+p * 2)=0+1+p * 2+0 by omega] at this
    exact this
   have l162:az P H1 162 ⟨n,0,none⟩=some (keyV [((8+p:Nat):Int),(i:Int)]):=fY k2 agg162 sz162 rfl
   have hpl:(nK js ks L nj np m i p i).length≤1000:=by
    unfold nK
    rw[if_neg (by omega),if_pos rfl]
    simp; omega
   obtain⟨u',H2,e1,e2,e3,e4⟩:=push_behind (ρ:=Ex × St) (sent1.row i hi) (by omega) l7 h71 hpl (S.getD (p * 2) 0+m (8+p) i)
   rw[if_pos (by omega),ax (bk hI8),a8,ax (bk hI0),Int.zero_add,arc_two,aj,k3,ak,aj,jx h71 agg59 rfl rfl,aj,aj,jx h71 agg59 rfl rfl,aj,at59 sb np np hi,aj,ak,aj,lrow,aj,UK,aj,at111 u9 (0+1) hp8,aj,fa53_0,aj,ak,aj,lS,aj,
    ak,aj,jx h51 zk rfl rfl,aj,ak,aj,l162,aj,Vk net1,aj,ax (bk hI2),e1,aj]
   have hst:VecAt H2 base (n+1+1+1) 1 3 u' _ _:=e2
   have cells2:cZ H2 sb np 44 rw_:=by
    obtain⟨cc,a1,a2,a3⟩:=sent1.cells
    exact⟨cc,(e3 sb (by omega) fun z=>by have:=((sent1.row i hi).low z).1; omega).trans a1,a2,a3⟩
   obtain⟨H3,f1,f2,f3⟩:=cells2.storeN (o:=i) (vs:=[u']) (by simp; omega) (by simp [(VecAt.leaf hst).1])
   rw[rz sz44 (VecAt.leaf hst).1,show 0+i * 1=i by omega,f1,aj,ax (bk hI1),hc1]
   have low:∀ b,b<base→b≠sb→H3.get b=H.get b:=fun b hb hne=>by
    rw[f3 b hne,e3 b (by omega) (fun z=>by have:=((sent1.row i hi).low z).1; omega),k1 b (by omega)]
   have g9:H3.get u9=some (.cells (ints (bW y S B)) 111 false none):=by
    rw[f3 u9 n9,e3 u9 (by omega) (hoff i hi)]
    exact h91
   have sent3:SentAt H3 base (n+1+1+1) sb np (fun q=>if q=i then u' else rw_ q) (nK js ks L nj np m i (p+1)):=by
    refine⟨?_,fun q hq=>?_,fun q r hq hr hne b h1 h2=>?_⟩
    ·obtain⟨cc,a1,a2,a3⟩:=f2
     refine⟨cc,a1,a2,fun k hk=>?_⟩
     rw[a3 k hk,wv]
    ·by_cases e:q=i
     ·subst e
      have hp1:nK js ks L nj np m q (p+1) q=nK js ks L nj np m q p q++[S.getD (p * 2) 0+m (8+p) q]:=by
       unfold nK
       rw[if_neg (by omega),if_pos rfl,if_neg (by omega),if_pos rfl,List.range_succ,List.map_append,hS]
       rfl
      show VecAt H3 base _ 1 3 (if q=q then u' else rw_ q) _ _
      rw[if_pos rfl,hp1,List.length_append]
      exact hst.same (Nat.le_refl _) fun b hb hblk=>f3 b (by have:=(hst.low hblk).1; omega)
     ·have hp1:nK js ks L nj np m i (p+1) q=nK js ks L nj np m i p q:=by
       unfold nK
       by_cases c1:q<i
       ·rw[if_pos c1,if_pos c1]
       ·rw[if_neg c1,if_neg e,if_neg c1,if_neg e]
      show VecAt H3 base _ 1 3 (if q=i then u' else rw_ q) _ _
      rw[if_neg e,hp1]
      exact(sent1.row q hq).same (by omega) fun b hb hblk=>by
       have:=((sent1.row q hq).low hblk).1
       rw[f3 b (by omega),e3 b hb (sent1.off q i hq hi e b hblk)]
    ·have new:∀ b,fj u' b→∀ q,q<np→¬ fj (rw_ q) b:=fun b hb q hq hbl=>by
      have:=e4 b hb
      have:=((sent1.row q hq).low hbl).2
      omega
     by_cases c1:q=i
     ·rw[if_pos c1] at h1
      rw[if_neg (by omega)] at h2
      exact new b h1 r hr h2
     ·rw[if_neg c1] at h1
      by_cases c2:r=i
      ·rw[if_pos c2] at h2
       exact new b h2 q hq h1
      ·rw[if_neg c2] at h2
       exact sent1.off q r hq hr hne b h1 h2
   obtain⟨T',H',n',rw',p1,p2,p3,p4⟩:=ih _ H3 (n+1+1+1) hlt (by omega) ((low u5 l5 n5).trans h5) ((low u7 l7 n7).trans h7) g9 (hnet.keep (low rb lr nr)) sent3 (fun q hq hbl=>by
    by_cases c1:q=i
    ·rw[if_pos c1] at hbl
     have:=e4 _ hbl
     omega
    ·rw[if_neg c1] at hbl
     exact hoff q hq hbl)
   exact⟨T',H',n',rw',p1,by omega,p3,fun b hb hne=>(p4 b hb hne).trans (low b hb hne)⟩
  ·rw[if_neg (by omega)]
   have:p=np:=by omega
   subst this
   exact⟨_,H,n,rw_,rfl,Nat.le_refl _,hsent,fun _ _ _=>rfl⟩
 intro q
 induction q with
 | zero=>
  intro p rw_ H n h1 h2 h3 h4 h5 h6 h7 h8 h9 h10
  exact body _ 0 p rw_ H n h1 h3 h4 h5 h6 h7 h8 h9 h10 (fun _ _ _ h=>by omega)
 | succ q ih=>
  intro p rw_ H n h1 h2 h3 h4 h5 h6 h7 h8 h9 h10
  exact body _ (q+1) p rw_ H n h1 h3 h4 h5 h6 h7 h8 h9 h10 (fun rw_ H' n' q1 q2 q3 q4 q5 q6 q7 q8=>ih (p+1) rw_ H' n' (by omega) (by omega) (by omega) (by omega) q3 q4 q5 q6 q7 q8)
theorem partR_next{js ks L:List Int}{nj np:Nat}{m:Net}{i:Nat}(hN:isN L i):nK js ks L nj np m i np=nK js ks L nj np m (i+1) 0:=by
 funext q
 unfold nK
 by_cases c1:q<i
 ·rw[if_pos c1,if_pos (show q<i+1 by omega)]
 ·rw[if_neg c1]
  by_cases c2:q=i
  ·rw[if_pos c2,if_pos (show q<i+1 by omega),c2]
   unfold oZ
   rw[if_pos hN]
  ·rw[if_neg c2,if_neg (show ¬ q<i+1 by omega)]
   split <;> rfl
theorem partR_skip{js ks L:List Int}{nj np:Nat}{m:Net}{i:Nat}(h:L.getD i 0=-1):nK js ks L nj np m (i+1) 0=nK js ks L nj np m i 0:=by
 funext q
 unfold nK
 by_cases c1:q<i
 ·rw[if_pos c1,if_pos (show q<i+1 by omega)]
 ·rw[if_neg c1]
  by_cases c2:q=i
  ·rw[if_pos (show q<i+1 by omega),if_pos c2,c2]
   unfold oZ
   rw[if_neg (fun h':isN L i=>h'.2 h)]
   rfl
  ·rw[if_neg (show ¬ q<i+1 by omega),if_neg c2]
   split <;> rfl
theorem placed_range(l:Nat){js ks L:List Int}{nj np nk g pb qb fn:Nat}{f:Nat→Value}{H:Hp}{n:Nat}{D:List Nat}(T:Tm)(params:Array Tmp)(asg bod:Code)(K:KC (Value × Hp × Nat))(X:XC (Value × Hp × Nat))(Kr:KC (Value × Hp × Nat))
  (hL:L.length=8) (hK:zw L np nk) (hnp:np≤8) (hnk:nk≤3) (hpb:H.get pb=some (.cells [.pointer (some ⟨g,0,none⟩)] 103 false none)) (hqb:H.get qb=some (.cells (ints L) 119 false none)) (lq:qb<n) (hf:cZ H g 859 115 f) (hn:∀ p kd,p<np→kd<nk→xx f js ks nj np p kd)
  (Inv:Nat→Hp→Nat→Prop) (hread:∀ i Hc nc,Inv i Hc nc→Hc.get pb=H.get pb∧Hc.get g=H.get g∧Hc.get (n+1)=some (.loop .ready none fn T (ntm P fn) params asg bod n))
  (h0:∀ H2:Hp,(∀ b,b<n→H2.get b=H.get b)→H2.get n=some .deferred→H2.get (n+1)=some (.loop .ready none fn T (ntm P fn) params asg bod n)→Inv 0 H2 (n+2))
  (hY:∀(i:Nat) (Hc:Hp) (nc kd:Nat) (B:List Int),Inv i Hc nc→i<np→kd<nk→L.getD i 0=kd→mV (ks.getD (kd * 5) 0) (shP js ks nj np i kd) B 8 →
   ∃ H' n',(∀ k:Value→Hp→Nat→Res,lQ P (cal (l+4)) (.func (.yield (n+1)) #[] #[]) [.int .i64 i,.agg ⟨ints (bW (ks.getD (kd * 5) 0) (shP js ks nj np i kd) B)⟩] Hc nc k=k (.bool true) H' n')∧Inv (i+1) H' n')
  (hSkip:∀(i:Nat) (H:Hp) (n:Nat),Inv i H n→L.getD i 0=-1→Inv (i+1) H n) :
  ∃ H3 n3,Inv 8 H3 n3∧EZ P (cal (l+5)) none fn (.func (.func 104) ⟨[]⟩ ⟨[.pointer (some ⟨qb,0,none⟩),.pointer (some ⟨pb,0,none⟩)]⟩) params asg bod K X Kr T H n D=K T (H3.set (n+1) (some (.loop .exhausted none fn T (ntm P fn) params asg bod n))) n3 (n::D):=by
 have lens:(ints L).length=8:=by rw[bv,hL]
 rw[range_in]
 generalize hH2:(H.set n (some .deferred)).set (n+1) (some (.loop .ready none fn T (ntm P fn) params asg bod n))=H2
 have r1:∀ b,b<n→H2.get b=H.get b:=fun b hb=>by rw[← hH2,Tr.get_set,if_neg (by omega),Tr.get_set,if_neg (by omega)]
 have r2:H2.get n=some .deferred:=by rw[← hH2,Tr.get_set,if_neg (by omega),Tr.get_set,if_pos rfl]
 have r3:H2.get (n+1)=some (.loop .ready none fn T (ntm P fn) params asg bod n):=by rw[← hH2,Tr.get_set,if_pos rfl]
 clear hH2
 have l104:az P H2 119 ⟨qb,0,none⟩=some (.agg ⟨ints L⟩):=fY (by rw[r1 _ lq]; exact hqb) Fk zv lens
 obtain⟨H3,n3,e3,i0⟩:=iter104_loop (cal (l+4)) KK (.func (.yield (n+1)) #[] #[]) pb g np nj nk js ks L hL hK hnp hnk Inv
  (fun i Hc nc hi=>by
   obtain⟨a1,a2,_⟩:=hread i Hc nc hi
   refine⟨bq (o:=0) (k:=0) (dv (a1.trans hpb)) agg105 rfl rfl rfl,fun p kd hp hkd=>?_⟩
   have cg:cZ Hc g 859 115 f:=by
    obtain⟨c,e1,e2,e3⟩:=hf
    exact⟨c,a2.trans e1,e2,e3⟩
   exact XZ cg (hn p kd hp hkd) (by omega) (by omega))
  hY hSkip KK 0 H2 (n+2) (h0 H2 r1 r2 r3) (by omega) (by unfold KK; omega)
 have e3':YW (cal (l+4)) KK (.func (.yield (n+1)) #[] #[]) (.pointer (some ⟨qb,0,none⟩)) (.pointer (some ⟨pb,0,none⟩)) H2 (n+2)=some (.tuple ⟨[]⟩,H3,n3):=by
  unfold YW B104_0
  rw[ak,aj,l104,aj]
  exact e3
 refine⟨H3,n3,i0,?_⟩
 unfold aX
 have:(iY P 104 && ck ([]++[.func (.yield (n+1)) #[] #[],.pointer (some ⟨qb,0,none⟩),.pointer (some ⟨pb,0,none⟩)]))=false:=by rw[Bool.and_eq_false_iff]; exact .inr rfl
 rw[this,show l+5=(l+4)+1 by omega]
 show aq ((cal (l+4+1)).call 104 [.func (.yield (n+1)) #[] #[],.pointer (some ⟨qb,0,none⟩),.pointer (some ⟨pb,0,none⟩)] H2 (n+2)) _=_
 rw[call104,e3',aj]
 exact range_out (hread 8 H3 n3 i0).2.2
theorem round108(l:Nat){js ks L S B:List Int}{y:Int}{nj np i lb d u3 u5 u7 rb sb g base:Nat}{m:Net}{f:Nat→Value}{x yv z v21:Value}{rw_:Nat→Value}{H:Hp}{n:Nat}(hN:isN L i)(hS:S=sL js ks L nj np i)(hlen:S.length=16)(hB:B.length=16)(hSb:iW S)(hi:i<np)(hnp:np≤8)(hm:sX m)
  (hl:H.get lb=some (.loop .ready none 108 (T108 (.pointer (some ⟨u3,0,none⟩)) (.pointer (some ⟨u5,0,none⟩)) (.pointer (some ⟨u7,0,none⟩)) v21) (ntm P 108) #[22,23] qy jJ d))
  (l3:u3<base) (l5:u5<base) (l7:u7<base) (lr:rb<base) (ls:sb<base) (ll:lb<base) (lg:g<base) (hbn:base≤n) (n3:u3≠sb∧u3≠lb) (n5:u5≠sb∧u5≠lb) (n7:u7≠sb∧u7≠lb) (nr:rb≠sb∧rb≠lb) (ng:g≠lb) (nl:lb≠sb)
  (h3:H.get u3=some (.cells [.pointer (some ⟨g,0,none⟩)] 103 false none)) (h5:H.get u5=some (.cells [.map (some rb)] 160 false none)) (h7:H.get u7=some (.cells [.slice (some ⟨sb,0,none⟩) np np] 59 false none)) (hnet:gK H rb m)
  (hf:cZ H g 859 115 f) (hs:SiteF f x yv z js nj) (hx:lenV P 31 x=some (.int .i64 np)) (hsent:SentAt H base n sb np rw_ (nK js ks L nj np m i 0)) :
  ∃ H' n' rw',(∀ k:Value→Hp→Nat→Option ρ,lQ P (cal (l+4)) (.func (.yield lb) #[] #[]) [.int .i64 i,.agg ⟨ints (bW y S B)⟩] H n k=k (.bool true) H' n')∧n≤n'∧H'.get lb=H.get lb∧SentAt H' base n' sb np rw' (nK js ks L nj np m (i+1) 0) ∧
   ∀ b,b<base→b≠lb→b≠sb→H'.get b=H.get b:=by
 have lens:(ints (bW y S B)).length=33:=by rw[bv,gk hlen hB]
 obtain⟨H1,k1,k2,k3⟩:=vk (P:=P) (ρ:=Ex × St) (H:=H) (n:=n) (L:=ints (bW y S B)) Vq (by show(ints (bW 0 oY oY)).length=33; rw[bv,gk rj rj]) Gk lens (kJ _)
 have hasg:(cal (l+4)).body lb 108 qy { T:=Tr.set (Tr.set (Tr.set (Tr.set (Tr.set (Tr.set Tr.nil 23 (some (.agg ⟨ints (bW y S B)⟩))) 22 (some (.int .i64 i))) 21 (some v21)) 7 (some (.pointer (some ⟨u7,0,none⟩)))) 5 (some (.pointer (some ⟨u5,0,none⟩)))) 3 (some (.pointer (some ⟨u3,0,none⟩))),H,n,D:=[] } =
   some (.norm,{ T:=Tr.set (Tr.set (Tr.set (Tr.set (Tr.set (Tr.set (Tr.set (Tr.set Tr.nil 23 (some (.agg ⟨ints (bW y S B)⟩))) 22 (some (.int .i64 i))) 21 (some v21)) 9 (some (.pointer (some ⟨n,0,none⟩)))) 8 (some (.int .i64 i))) 7 (some (.pointer (some ⟨u7,0,none⟩)))) 5 (some (.pointer (some ⟨u5,0,none⟩)))) 3 (some (.pointer (some ⟨u3,0,none⟩))),H:=H1,n:=n+1,D:=[] }):=by
  rw[show l+4=(l+3)+1 by omega,Lj,lv108a,h108a0_0]
  unfold qqz qqq
  rw[k3]
 have lb1:H1.get lb=H.get lb:=k1 lb (by omega)
 obtain⟨Hb,hHb⟩:∃ Hb,Hb=H1.set lb (some (.loop .busy none 108 (T108 (.pointer (some ⟨u3,0,none⟩)) (.pointer (some ⟨u5,0,none⟩)) (.pointer (some ⟨u7,0,none⟩)) v21) (ntm P 108) #[22,23] qy jJ d)):=⟨_,rfl⟩
 have bget:∀ b,b≠lb→Hb.get b=H1.get b:=fun b hb=>by rw[hHb,Tr.get_set,if_neg hb]
 have blb:Hb.get lb=some (.loop .busy none 108 (T108 (.pointer (some ⟨u3,0,none⟩)) (.pointer (some ⟨u5,0,none⟩)) (.pointer (some ⟨u7,0,none⟩)) v21) (ntm P 108) #[22,23] qy jJ d):=by rw[hHb,Tr.get_set,if_pos rfl]
 have old:∀ b,b<n→b≠lb→Hb.get b=H.get b:=fun b hb hne=>by rw[bget b hne,k1 b hb]
 have gn:Hb.get n=some (.cells (ints (bW y S B)) 111 false none):=(bget n (by omega)).trans k2
 have sb1:SentAt Hb base (n+1) sb np rw_ (nK js ks L nj np m i 0):=hsent.keep (by omega) (by omega) fun b hb h=>old b hb (by omega)
 obtain⟨T3,H3,n3',rw',b1,b2,b3,b4⟩:∃ T3 H3 n3 rw',(cal (l+4)).body lb 108 jJ { T:=Tr.set (Tr.set (Tr.set (Tr.set (Tr.set (Tr.set (Tr.set (Tr.set Tr.nil 23 (some (.agg ⟨ints (bW y S B)⟩))) 22 (some (.int .i64 i))) 21 (some v21)) 9 (some (.pointer (some ⟨n,0,none⟩)))) 8 (some (.int .i64 i))) 7 (some (.pointer (some ⟨u7,0,none⟩)))) 5 (some (.pointer (some ⟨u5,0,none⟩)))) 3 (some (.pointer (some ⟨u3,0,none⟩))),H:=Hb,n:=n+1,D:=[] }=some (.norm,{ T:=T3,H:=H3,n:=n3,D:=[] }) ∧
   n+1≤n3∧SentAt H3 base n3 sb np rw' (nK js ks L nj np m i np)∧∀ b,b<base→b≠sb→H3.get b=Hb.get b:=by
  rw[show l+4=(l+3)+1 by omega,Lj,lv108b,h108b0_0]
  unfold qqk
  generalize hJ:JK (cal (l+3)) KK lb KK=J
  unfold qqj
  have cg:cZ Hb g 859 115 f:=by
   obtain⟨c,a1,a2,a3⟩:=hf
   exact⟨c,(old g (by omega) ng).trans a1,a2,a3⟩
  have lx:az P Hb 31 ⟨g,0+0+0,none⟩=some x:=by
   have:=cg.load (P:=P) (k:=0) Fv (by omega)
   rw[hs.x] at this; exact this
  rw[ak,aj,jx ((old u3 (by omega) n3.2).trans h3) agg105 rfl rfl,aj,oX,aj,tw,aj,vV,aj,ak,aj,lx,aj,hx,aj,← hJ]
  exact sent_loop (cal (l+3)) KK lb (base:=base) (N0:=n+1) hS hlen hSb hi hnp hm l5 l7 lr ls (by omega) n5.1 n7.1 nr.1 (by omega) [] KK 0 rw_ Hb (n+1) (by omega) (by unfold KK; omega) (by omega) (Nat.le_refl _)
   ((old u5 (by omega) n5.2).trans h5) ((old u7 (by omega) n7.2).trans h7) gn (hnet.keep (old rb (by omega) nr.2)) sb1 (fun q hq hbl=>by have:=((hsent.row q hq).low hbl).2; omega)
 have hl3:H3.get lb=some (.loop .busy none 108 (T108 (.pointer (some ⟨u3,0,none⟩)) (.pointer (some ⟨u5,0,none⟩)) (.pointer (some ⟨u7,0,none⟩)) v21) (ntm P 108) #[22,23] qy jJ d):=(b4 lb ll nl).trans blb
 rw[hHb] at b1
 refine⟨_,n3',rw',fun k=>yield_any hl (par108 ..) hasg lb1 b1 hl3 (j:=none) rfl k,by omega,?_,?_,fun b h1 h2 h3=>?_⟩
 ·rw[Tr.get_set,if_pos rfl,hl]; rfl
 ·rw[← partR_next hN]
  exact b3.keep (by omega) (Nat.le_refl _) fun b hb h=>by rw[Tr.get_set,if_neg (by omega)]
 ·rw[Tr.get_set,if_neg h2,b4 b h1 h3,old b (by omega) h2]
theorem call108(l:Nat)(a b c:Value)(H:Hp)(n:Nat):(cal (l+1)).call 108 [a,b,c] H n=Zj (cal l) KK a b c H n []:=by kernel_rfl
theorem sent_call(l:Nat){js ks ps L:List Int}{nj np nk g rb:Nat}{m:Net}{f:Nat→Value}{x yv z:Value}{H:Hp}{n:Nat}(hgn:g<n)(hrn:rb<n)(hf:cZ H g 859 115 f)(hs:SiteF f x yv z js nj)(hx:eK H n 2 x np ps)(hn:∀ p kd,p<np→kd<nk→xx f js ks nj np p kd)(hks:tx ks nk)(hnp:np≤8)(hnp0:0<np)(hnk:nk≤3)
  (hL:L.length=8) (hK:zw L np nk) (hSb:∀ p,isN L p→iW (sL js ks L nj np p)) (hm:sX m) (hnet:gK H rb m) :
  ∃(u:Value) (rw_:Nat→Value) (H':Hp) (n':Nat),(∀ k:Value→Hp→Nat→Option ρ,aX P (cal (l+6)) 108 [.pointer (some ⟨g,0,none⟩),.agg ⟨ints L⟩,.map (some rb)] H n k=k u H' n')∧n≤n'∧Keep n H H'∧bw u=false∧∀ H2:Hp,(∀ b,n≤b→H2.get b=H'.get b)→fq H2 n' u np rw_ (oZ js ks L nj np m):=by
 have lens:(ints L).length=8:=by rw[bv,hL]
 suffices h:∃(u:Value) (rw_:Nat→Value) (H':Hp) (n':Nat),Zj (cal (l+5)) KK (.pointer (some ⟨g,0,none⟩)) (.agg ⟨ints L⟩) (.map (some rb)) H n []=some (u,H',n')∧n≤n'∧Keep n H H'∧bw u=false∧∀ H2:Hp,(∀ b,n≤b→H2.get b=H'.get b)→fq H2 n' u np rw_ (oZ js ks L nj np m) by
  obtain⟨u,rw_,H',n',e,h1,h2,h3,h4⟩:=h
  refine⟨u,rw_,H',n',fun k=>?_,h1,h2,h3,h4⟩
  unfold aX
  have:(iY P 108 && ck [.pointer (some ⟨g,0,none⟩),.agg ⟨ints L⟩,.map (some rb)])=false:=by rw[Bool.and_eq_false_iff]; exact .inr rfl
  rw[this,show l+6=(l+5)+1 by omega,call108,e]
  rfl
 unfold Zj B108_0
 rw[dZ,dZ,dZ]
 simp only[aZ,ptr]
 generalize hH1:((H.set n (some (.cells [.pointer (some ⟨g,0,none⟩)] 103 false none))).set (n+1) (some (.cells (ints L) 119 false none))).set (n+1+1) (some (.cells [.map (some rb)] 160 false none))=H1
 have k1:Keep n H H1:=fun b hb=>by rw[← hH1,Tr.get_set,if_neg (by omega),Tr.get_set,if_neg (by omega),Tr.get_set,if_neg (by omega)]
 have a3:H1.get n=some (.cells [.pointer (some ⟨g,0,none⟩)] 103 false none):=by rw[← hH1,Tr.get_set,if_neg (by omega),Tr.get_set,if_neg (by omega),Tr.get_set,if_pos rfl]
 have a4:H1.get (n+1)=some (.cells (ints L) 119 false none):=by rw[← hH1,Tr.get_set,if_neg (by omega),Tr.get_set,if_pos rfl]
 have a5:H1.get (n+1+1)=some (.cells [.map (some rb)] 160 false none):=by rw[← hH1,Tr.get_set,if_pos rfl]
 clear hH1
 have f1:cZ H1 g 859 115 f:=hf.keep k1 hgn
 have lx1:az P H1 31 ⟨g,0+0+0,none⟩=some x:=by
  have:=f1.load (P:=P) (k:=0) Fv (by omega)
  rw[hs.x] at this; exact this
 have hlx:lenV P 31 x=some (.int .i64 np):=hx.len_eq Fx
 rw[ak,aj,jx a3 agg105 rfl rfl,aj,oX,aj,tw,aj,vV,aj,ak,aj,lx1,aj,hlx,aj,make59 H1 (n+1+1+1) (by omega)]
 unfold stK
 rw[aj]
 dsimp only [bare]
 generalize hH2:H1.set (n+1+1+1) (some (.cells (List.replicate np (.slice none 0 0)) 44 false none))=H2
 have k2:∀ b,b<n+1+1+1→H2.get b=H1.get b:=fun b hb=>by rw[← hH2,Tr.get_set,if_neg (by omega)]
 have a6:H2.get (n+1+1+1)=some (.cells (List.replicate np (.slice none 0 0)) 44 false none):=by rw[← hH2,Tr.get_set,if_pos rfl]
 clear hH2
 obtain⟨H3,k3,a7,e3⟩:=qmz (ρ:=Value × Hp × Nat) zero59 rfl sz59 (v:=.slice (some ⟨n+1+1+1,0,none⟩) np np) rfl H2 (n+1+1+1+1)
 rw[e3,ak,aj,jx ((k3 n (by omega)).trans ((k2 n (by omega)).trans a3)) agg105 rfl rfl,aj,aj,fY ((k3 (n+1) (by omega)).trans ((k2 (n+1) (by omega)).trans a4)) Fk zv lens,aj,placed_call (l+4)]
 generalize hH4:(H3.set (n+1+1+1+1+1) (some (.cells [.pointer (some ⟨g,0,none⟩)] 103 false none))).set (n+1+1+1+1+1+1) (some (.cells (ints L) 119 false none))=H4
 have k4:∀ b,b<n+1+1+1+1+1→H4.get b=H3.get b:=fun b hb=>by rw[← hH4,Tr.get_set,if_neg (by omega),Tr.get_set,if_neg (by omega)]
 have q3:H4.get (n+1+1+1+1+1)=some (.cells [.pointer (some ⟨g,0,none⟩)] 103 false none):=by rw[← hH4,Tr.get_set,if_neg (by omega),Tr.get_set,if_pos rfl]
 have q4:H4.get (n+1+1+1+1+1+1)=some (.cells (ints L) 119 false none):=by rw[← hH4,Tr.get_set,if_pos rfl]
 clear hH4
 have all4:∀ b,b<n+1+1+1→H4.get b=H1.get b:=fun b hb=>by rw[k4 b (by omega),k3 b (by omega),k2 b hb]
 have kn:Keep n H H4:=fun b hb=>by rw[all4 b (by omega),k1 b hb]
 have p3:H4.get n=some (.cells [.pointer (some ⟨g,0,none⟩)] 103 false none):=(all4 n (by omega)).trans a3
 have p5:H4.get (n+1+1)=some (.cells [.map (some rb)] 160 false none):=(all4 _ (by omega)).trans a5
 have p6:H4.get (n+1+1+1)=some (.cells (List.replicate np (.slice none 0 0)) 44 false none):=by rw[k4 _ (by omega),k3 _ (by omega)]; exact a6
 have p7:H4.get (n+1+1+1+1)=some (.cells [.slice (some ⟨n+1+1+1,0,none⟩) np np] 59 false none):=(k4 _ (by omega)).trans a7
 have f4:cZ H4 g 859 115 f:=hf.keep kn hgn
 have net4:gK H4 rb m:=hnet.keep (kn rb hrn)
 unfold C108_1 B108_1
 generalize hN:n+1+1+1+1+1+2=N at *
 obtain⟨H5,n5,i5,e5⟩:=placed_range l (D:=[]) (T108 (.pointer (some ⟨n,0,none⟩)) (.pointer (some ⟨n+1+1,0,none⟩)) (.pointer (some ⟨n+1+1+1+1,0,none⟩)) (.func (.func 104) ⟨[]⟩ ⟨[.pointer (some ⟨n+1+1+1+1+1+1,0,none⟩),.pointer (some ⟨n+1+1+1+1+1,0,none⟩)]⟩)) #[22,23] qy jJ (CK (cal (l+5)) KK) (OY (cal (l+5)) KK) (av P lK)
  hL hK hnp hnk q3 q4 (show n+1+1+1+1+1+1<N by omega) f4 hn
  (fun i Hc nc=>N+2≤nc∧Hc.get (N+1)=some (.loop .ready none 108 (T108 (.pointer (some ⟨n,0,none⟩)) (.pointer (some ⟨n+1+1,0,none⟩)) (.pointer (some ⟨n+1+1+1+1,0,none⟩)) (.func (.func 104) ⟨[]⟩ ⟨[.pointer (some ⟨n+1+1+1+1+1+1,0,none⟩),.pointer (some ⟨n+1+1+1+1+1,0,none⟩)]⟩)) (ntm P 108) #[22,23] qy jJ N)∧Hc.get N=some .deferred ∧
   (∃ rw_,SentAt Hc (N+2) nc (n+1+1+1) np rw_ (nK js ks L nj np m i 0))∧∀ b,b<N→b≠n+1+1+1→Hc.get b=H4.get b)
  (fun i Hc nc ⟨c1,c2,c3,c4,c5⟩=>⟨c5 _ (by omega) (by omega),c5 _ (by omega) (by omega),c2⟩)
  (fun Ha h1 h2 h3=>⟨Nat.le_refl _,h3,h2,⟨fun _=>.slice none 0 0,⟨⟨_,(h1 _ (by omega)).trans p6,by simp,fun k hk=>by rw[List.getElem?_replicate,if_pos hk]⟩,fun q hq=>by
    have:nK js ks L nj np m 0 0 q=[]:=by
     unfold nK
     rw[if_neg (by omega)]
     split <;> rfl
    rw[this]
    exact⟨rfl,.inl ⟨rfl,rfl⟩⟩,fun _ _ _ _ _ b h=>absurd h (qdv (v:=x))⟩⟩,fun b hb _=>h1 b hb⟩)
  (fun i Hc nc kd B ⟨c1,c2,c3,⟨rw_,c4⟩,c5⟩ hip hkd hLi hB=>by
   have hNi:isN L i:=⟨by omega,by omega⟩
   have hSe:shP js ks nj np i kd=sL js ks L nj np i:=by unfold sL; rw[hLi,Int.toNat_natCast]
   obtain⟨H',n',rw',y1,y2,y3,y4,y5⟩:=round108 (ρ:=Value × Hp × Nat) l (y:=ks.getD (kd * 5) 0) hNi hSe (Vv ..) hB.1 (CX hks hkd hnp hip) hip hnp hm c2 (show n<N+2 by omega) (by omega) (by omega) (by omega) (by omega) (by omega) (show g<N+2 by omega) c1 ⟨by omega,by omega⟩ ⟨by omega,by omega⟩ ⟨by omega,by omega⟩ ⟨by omega,by omega⟩ (by omega) (by omega)
    ((c5 _ (by omega) (by omega)).trans p3) ((c5 _ (by omega) (by omega)).trans p5) ((c5 _ (by omega) (by omega)).trans p7) (net4.keep (c5 _ (by omega) (by omega))) (by
     obtain⟨cc,b1,b2,b3⟩:=f4
     exact⟨cc,(c5 _ (by omega) (by omega)).trans b1,b2,b3⟩) hs hlx c4
   exact⟨H',n',y1,by omega,y3.trans c2,(y5 N (by omega) (by omega) (by omega)).trans c3,⟨rw',y4⟩,fun b hb hne=>(y5 b (by omega) (by omega) hne).trans (c5 b hb hne)⟩)
  (fun i Hc nc ⟨c1,c2,c3,⟨rw_,c4⟩,c5⟩ hLi=>⟨c1,c2,c3,⟨rw_,by rw[partR_skip hLi]; exact c4⟩,c5⟩)
 obtain⟨c1,c2,c3,⟨rw_,c4⟩,c5⟩:=i5
 show ∃ u rw_ H' n',EZ P (cal (l+5)) none 108 _ #[22,23] qy jJ (CK (cal (l+5)) KK) (OY (cal (l+5)) KK) (av P lK) (T108 _ _ _ _) H4 N []=_∧_
 rw[e5]
 have post:=h108_2 (cal (l+5)) KK (.pointer (some ⟨n,0,none⟩)) (.pointer (some ⟨n+1+1,0,none⟩)) (.pointer (some ⟨n+1+1+1+1,0,none⟩)) (.func (.func 104) ⟨[]⟩ ⟨[.pointer (some ⟨n+1+1+1+1+1+1,0,none⟩),.pointer (some ⟨n+1+1+1+1+1,0,none⟩)]⟩)
 have post:∀(H:Hp) (n':Nat) (D:List Nat),CK (cal (l+5)) KK (T108 (.pointer (some ⟨n,0,none⟩)) (.pointer (some ⟨n+1+1,0,none⟩)) (.pointer (some ⟨n+1+1+1+1,0,none⟩)) (.func (.func 104) ⟨[]⟩ ⟨[.pointer (some ⟨n+1+1+1+1+1+1,0,none⟩),.pointer (some ⟨n+1+1+1+1+1,0,none⟩)]⟩)) H n' D=_:=post
 rw[post]
 unfold C108_2 B108_2
 generalize hHx:H5.set (N+1) (some (.loop .exhausted none 108 (T108 (.pointer (some ⟨n,0,none⟩)) (.pointer (some ⟨n+1+1,0,none⟩)) (.pointer (some ⟨n+1+1+1+1,0,none⟩)) (.func (.func 104) ⟨[]⟩ ⟨[.pointer (some ⟨n+1+1+1+1+1+1,0,none⟩),.pointer (some ⟨n+1+1+1+1+1,0,none⟩)]⟩)) (ntm P 108) #[22,23] qy jJ N))=Hx
 have x1:∀ b,b≠N+1→Hx.get b=H5.get b:=fun b hb=>by rw[← hHx,Tr.get_set,if_neg hb]
 clear hHx
 have x7:Hx.get (n+1+1+1+1)=some (.cells [.slice (some ⟨n+1+1+1,0,none⟩) np np] 59 false none):=by rw[x1 _ (by omega),c5 _ (by omega) (by omega)]; exact p7
 have xd:Hx.get N=some .deferred:=(x1 N (by omega)).trans c3
 have htake:wj Hx [N]=some (Hx.set N none):=by
  simp only[wj,xd]
 have x2:∀ b,b≠N→(Hx.set N none).get b=Hx.get b:=fun b hb=>by rw[Tr.get_set,if_neg hb]
 rw[ak,aj,jx x7 agg59 rfl rfl,aj,htake]
 refine⟨_,rw_,Hx.set N none,n5,rfl,by omega,fun b hb=>by rw[x2 b (by omega),x1 b (by omega),c5 b (by omega) (by omega)]; exact kn b hb,rfl,fun Hz hz=>?_⟩
 have s5:SentAt Hz (N+2) n5 (n+1+1+1) np rw_ (nK js ks L nj np m 8 0):=c4.keep (by omega) (Nat.le_refl _) fun b hb h=>by
  rw[hz b (by omega),x2 b (by omega),x1 b (by omega)]
 refine fq.of_cells (by omega) s5.cells fun q hq=>?_
 have e:nK js ks L nj np m 8 0 q=oZ js ks L nj np m q:=by
  unfold nK
  rw[if_pos (by omega)]
 have row:=s5.row q hq
 rw[e] at row
 refine VecAt.list row fun v hv=>?_
 unfold oZ at hv
 by_cases c:isN L q
 ·rw[if_pos c] at hv
  obtain⟨p,hp,rfl⟩:=List.mem_map.1 hv
  have hp:=List.mem_range.1 hp
  have h1:=hm (8+p) q
  have h2:=(hm q (8+p)).1
  have h3:=h1.2 (by omega) (by omega)
  have h4:=hSb q c (p * 2)
  unfold I64
  omega
 ·rw[if_neg c] at hv
  cases hv
theorem two_any{xs:List Int}{p:Nat}(h:p * 2+2≤xs.length):((ints xs).drop (p * 2)).take 2=[.int .i64 (xs.getD (p * 2) 0),.int .i64 (xs.getD (p * 2+1) 0)]:=by
 apply List.ext_getElem?
 intro j
 match j with
 | 0=>rw[List.getElem?_take,if_pos (by omega),List.getElem?_drop,gQ (getD_some (by omega))]; rfl
 | 1=>rw[List.getElem?_take,if_pos (by omega),List.getElem?_drop,gQ (getD_some (by omega))]; rfl
 | j+2=>rw[List.getElem?_take,if_neg (by omega)]; rfl
theorem effK_read1{ex:List Extra}{H:Hp}{n b:Nat}{v:Value}{blk:Blk}{op:Hp→Nat→(Value→Hp→Nat→Option ρ)→Option ρ}(hex:∀ y ∈ ex,∃ t a,y=.l t a∧((∃ c e ro vec,H.get a.block=some (.cells c e ro vec))∨∃ c,H.get a.block=some (.rows c)))
  (hb:¬ ldOf ex b) (hrow:H.get b=some blk) (hop:∀ Hm,Hm.get b=some blk→∀ k,op Hm n k=k v Hm n):∃ H',(∀ b',H'.get b'=H.get b')∧∀ k,effK P ex H n op k=k v H' n:=by
 obtain⟨H',H2,n2,h1,⟨h2,rfl⟩,h3,h4⟩:=NQ (P:=P) (ρ:=ρ) (ex:=ex) (H:=H) (n:=n) (v:=v) (op:=op) (R:=fun H2 n2=>(∀ b',¬ ldOf ex b'→H2.get b'=H.get b')∧n2=n) hex
  (fun Hm hm=>⟨Hm,n,hop Hm ((hm b hb).trans hrow),fun _ _=>rfl,hm,rfl⟩)
 refine⟨H',fun b'=>?_,h1⟩
 by_cases c:ldOf ex b'
 ·exact h3 b' c
 ·rw[h4 b' c]; exact h2 b' c
theorem most_call(l:Nat)(a x:Int){H:Hp}{n b:Nat}(hx:H.get b=some (.cells [.int .i64 x] 3 false none))(k:Value→Hp→Nat→Option ρ):aX P (cal (l+1)) 106 [.int .i64 a,.slice (some ⟨b,0,none⟩) 1 1] H n k=k (.int .i64 (max a x)) H n:=by
 unfold aX
 have:(iY P 106 && ck [.int .i64 a,.slice (some ⟨b,0,none⟩) 1 1])=false:=by rw[Bool.and_eq_false_iff]; exact .inr rfl
 rw[this,call106,most_spec (cal l) a x (dv hx)]
 rfl
def netU(m:Net)(more:Nat→Int)(i:Nat):Net:=fun u v=>if 8≤u∧u<8+i∧v=17 then more (u-8) else m u v
theorem netU_zero(m:Net)(more:Nat→Int):netU m more 0=m:=by
 funext u v
 exact if_neg (by omega)
theorem netU_step(m:Net)(more:Nat→Int)(i:Nat):setN (netU m more i) (8+i) 17 (more i)=netU m more (i+1):=by
 funext u v
 unfold setN netU
 by_cases c:u=8+i∧v=17
 ·rw[if_pos c,if_pos (by omega),c.1,show 8+i-8=i by omega]
 ·rw[if_neg c]
  by_cases d:8≤u∧u<8+i∧v=17
  ·rw[if_pos d,if_pos (by omega)]
  ·rw[if_neg d,if_neg (by omega)]
structure Fixed (H0:Hp) (n0:Nat) (js ks ps L:List Int) (nj np u6 u7 rb:Nat) (x:Value):Prop where
 l6:u6<n0
 l7:u7<n0
 lr:rb<n0
 n6:u6≠rb
 n7:u7≠rb
 cell:H0.get u6=some (.cells [.map (some rb)] 160 false none)
 low:pz H0 u7 js ks L nj np 8 0
 pads:∃ nx,nx≤n0∧nx≤rb∧eK H0 nx 2 x np ps
 np8:np≤8
 small:∀ q,0≤lowL js ks L nj np q 8∧lowL js ks L nj np q 8≤8000
 mild:∀ q,q<np→(0≤ps.getD (q * 2) 0∧ps.getD (q * 2) 0≤100000)∧(0≤ps.getD (q * 2+1) 0∧ps.getD (q * 2+1) 0≤100000)
 len:ps.length=np * 2
theorem pad_load2{H0 H:Hp}{n0:Nat}{js ks ps L:List Int}{nj np u6 u7 rb i:Nat}{x:Value}(F:Fixed H0 n0 js ks ps L nj np u6 u7 rb x)(hk:∀ b,b<n0→b≠rb→H.get b=H0.get b)(hi:i<np) :
  ∃ a1 a2:Nat,aJ P 31 x (.int .i64 i)=some (.pointer (some ⟨a1,a2,none⟩))∧az P H 90 ⟨a1,a2,none⟩=some (.agg ⟨[.int .i64 (ps.getD (i * 2) 0),.int .i64 (ps.getD (i * 2+1) 0)]⟩):=by
 obtain⟨nx,h1,h2,h3⟩:=F.pads
 obtain⟨b,o,hix,hb,hc⟩:=h3.at_ Fx sz90 hi
 have hc':aW H b o (ints ps):=aW.of_get hc (hk b (by omega) (by omega))
 refine⟨b,o+i * 2,hix,?_⟩
 rw[cw (k:=i * 2) hc' agg90 sz90 (by rw[bv,F.len]; omega) (dY _),two_any (by rw[F.len]; omega)]
theorem more_loop(l k:Nat){H0:Hp}{n0:Nat}{js ks ps L:List Int}{nj np u6 u7 rb:Nat}{x v0 v3 v8 v14:Value}{m0:Net}{D:List Nat}(F:Fixed H0 n0 js ks ps L nj np u6 u7 rb x){Q:Option (Value × Hp × Nat)→Prop}
  (hend:∀(H:Hp) (n m:Nat) (b4:W9 (Value × Hp × Nat)),n0≤n→(∀ b,b<n0→b≠rb→H.get b=H0.get b)→gK H rb (netU m0 (tz js ks ps L nj np) np) →
   Q (C78_4 (cal (l+1)) k m b4 v0 v3 (.pointer (some ⟨u6,0,none⟩)) (.pointer (some ⟨u7,0,none⟩)) v8 v14 x (.int .i64 np) (.int .i64 np) H n D)) :
  ∀(m i:Nat) (H:Hp) (n:Nat),i≤np→np-i≤m→n0≤n→(∀ b,b<n0→b≠rb→H.get b=H0.get b)→gK H rb (netU m0 (tz js ks ps L nj np) i) →
   Q (S78_4 (cal (l+1)) k m v0 v3 (.pointer (some ⟨u6,0,none⟩)) (.pointer (some ⟨u7,0,none⟩)) v8 v14 x (.int .i64 np) (.int .i64 i) H n D):=by
 have np8:=F.np8
 have l6:=F.l6
 have l7:=F.l7
 have lr:=F.lr
 have n6:=F.n6
 have n7:=F.n7
 have body:∀(b4:W9 (Value × Hp × Nat)) (m i:Nat) (H:Hp) (n:Nat),i≤np→n0≤n→(∀ b,b<n0→b≠rb→H.get b=H0.get b)→gK H rb (netU m0 (tz js ks ps L nj np) i) →
   (∀(H:Hp) (n:Nat),i<np→n0≤n→(∀ b,b<n0→b≠rb→H.get b=H0.get b)→gK H rb (netU m0 (tz js ks ps L nj np) (i+1)) →
    Q (b4 v0 v3 (.pointer (some ⟨u6,0,none⟩)) (.pointer (some ⟨u7,0,none⟩)) v8 v14 x (.int .i64 np) (.int .i64 ((i+1:Nat):Int)) H n D)) →
   Q (C78_4 (cal (l+1)) k m b4 v0 v3 (.pointer (some ⟨u6,0,none⟩)) (.pointer (some ⟨u7,0,none⟩)) v8 v14 x (.int .i64 np) (.int .i64 i) H n D):=by
  intro b4 m i H n hi hn hk hnet ih
  by_cases hlt:i<np
  ·unfold C78_4 B78_4
   have hI1:I64 ((i:Int)+1):=by unfold I64; omega
   have hc1:((i:Int)+1)=((i+1:Nat):Int):=by omega
   have hI8:I64 (8+(i:Int)):=by unfold I64; omega
   have a8:(8+(i:Int))=((8+i:Nat):Int):=by omega
   obtain⟨pa1,pa2,p1,p2⟩:=pad_load2 F hk hlt
   obtain⟨H1,k1,k2,k3⟩:=vk (P:=P) (ρ:=Value × Hp × Nat) (H:=H) (n:=n) (L:=[.int .i64 (ps.getD (i * 2) 0),.int .i64 (ps.getD (i * 2+1) 0)]) zero90 rfl sz90 rfl rfl
   have c1:aW H1 n 0 [.int .i64 (ps.getD (i * 2) 0),.int .i64 (ps.getD (i * 2+1) 0)]:=dv k2
   have g6:H1.get u6=some (.cells [.map (some rb)] 160 false none):=by rw[k1 u6 (by omega),hk u6 l6 n6]; exact F.cell
   obtain⟨X,x1,x2,x3⟩:=F.low
   have g7:H1.get u7=some (.cells (ints X) 118 false none):=by rw[k1 u7 (by omega),hk u7 l7 n7]; exact x2
   have xi:X.getD i 0=lowL js ks L nj np i 8:=by rw[x3 i (by omega),if_neg (by omega)]
   have lX:az P H1 3 ⟨u7,0+i * 1,none⟩=some (.int .i64 (lowL js ks L nj np i 8)):=bj (k:=i * 1) (dv g7) agg3 (by rw[Nat.mul_one,← xi]; exact gQ (getD_some (by omega)))
   have lR:az P H1 3 ⟨n,0+1,none⟩=some (.int .i64 (ps.getD (i * 2+1) 0)):=bj (k:=1) c1 agg3 rfl
   have lN:az P H1 3 ⟨n,0+0,none⟩=some (.int .i64 (ps.getD (i * 2) 0)):=bj (k:=0) c1 agg3 rfl
   have hr:(H1.set (n+1) (some (.cells [.int .i64 (lowL js ks L nj np i 8)] 3 false none))).get (n+1)=some (.cells [.int .i64 (lowL js ks L nj np i 8)] 3 false none):=by rw[Tr.get_set,if_pos rfl]
   have hr2:∀ b,b<n+1→(H1.set (n+1) (some (.cells [.int .i64 (lowL js ks L nj np i 8)] 3 false none))).get b=H1.get b:=fun b hb=>by rw[Tr.get_set,if_neg (by omega)]
   rw[ax cJ,gw,if_pos (by omega),p1,aj,ak,aj,p2,aj,k3,ak,aj,jx g6 zk rfl rfl,aj,ax (bk hI8),a8,show fK P 162 [(0,.int .i64 ((8+i:Nat):Int)),(1,.int .i64 17)]=some (keyV [((8+i:Nat):Int),((17:Nat):Int)]) from Ek (8+i) 17,aj,
    fa90_1,aj,ak,aj,lR,aj,fa90_0,aj,ak,aj,lN,aj,at120 u7 (show i<8 by omega),aj,ak,aj,lX,aj,row44,aj]
   unfold newK
   dsimp only
   generalize H1.set (n+1) (some (.cells [.int .i64 (lowL js ks L nj np i 8)] 3 false none))=H2 at hr hr2 ⊢
   have isld:∀ b,ldOf [Extra.l 3 ⟨n,0+1,none⟩,Extra.l 160 ⟨u6,0,none⟩] b→b=n∨b=u6:=fun b=>by
    rintro⟨t,a,q1,q2⟩
    simp only[List.mem_cons,Extra.l.injEq,List.not_mem_nil,or_false] at q1
    rcases q1 with⟨_,rfl⟩ | ⟨_,rfl⟩
    ·exact .inl q2.symm
    ·exact .inr q2.symm
   obtain⟨H3,s1,s2⟩:=effK_read1 (ρ:=Value × Hp × Nat) (ex:=[.l 3 ⟨n,0+1,none⟩,.l 160 ⟨u6,0,none⟩]) (H:=H2) (n:=n+1+1) (v:=.int .i64 (max (ps.getD (i * 2) 0) (lowL js ks L nj np i 8)))
    (op:=fun H n' k=>aX P (cal (l+1)) 106 [.int .i64 (ps.getD (i * 2) 0),.slice (some ⟨n+1,0,none⟩) 1 1] H n' fun v H n=>k v H n)
    (fun y hy=>by
     simp only[List.mem_cons,List.not_mem_nil,or_false] at hy
     rcases hy with rfl | rfl
     ·exact⟨_,_,rfl,.inl ⟨_,_,_,_,(hr2 n (by omega)).trans k2⟩⟩
     ·exact⟨_,_,rfl,.inl ⟨_,_,_,_,(hr2 u6 (by omega)).trans g6⟩⟩)
    (fun h=>by have:=isld _ h; omega) hr (fun Hm hm k=>most_call l _ _ hm k)
   have hmi:=F.mild i hlt
   have hsm:=F.small i
   have hI2:I64 (ps.getD (i * 2+1) 0-max (ps.getD (i * 2) 0) (lowL js ks L nj np i 8)):=by unfold I64; omega
   have net3:gK H3 rb (netU m0 (tz js ks ps L nj np) i):=hnet.keep (by rw[s1,hr2 rb (by omega),k1 rb (by omega)])
   obtain⟨H4,e1,e2,e3⟩:=qej net3 (8+i) 17 (ps.getD (i * 2+1) 0-max (ps.getD (i * 2) 0) (lowL js ks L nj np i 8))
   have me:tz js ks ps L nj np i=ps.getD (i * 2+1) 0-max (ps.getD (i * 2) 0) (lowL js ks L nj np i 8):=if_pos hlt
   rw[s2,ax (oW hI2),e1,aj,ax (bk hI1),hc1]
   refine ih H4 (n+1+1) hlt (by omega) (fun b hb hne=>?_) ?_
   ·rw[e3 b hne,s1,hr2 b (by omega),k1 b (by omega)]; exact hk b hb hne
   ·rw[← netU_step,me]; exact e2
  ·have:i=np:=by omega
   subst this
   exact hend H n m b4 hn hk hnet
 intro m
 induction m with
 | zero=>
  intro i H n h1 h2 h3 h4 h5
  exact body _ 0 i H n h1 h3 h4 h5 (fun _ _ h=>by omega)
 | succ m ih=>
  intro i H n h1 h2 h3 h4 h5
  exact body _ (m+1) i H n h1 h3 h4 h5 (fun H n q1 q2 q3 q4=>ih (i+1) H n (by omega) (by omega) q2 q3 q4)
theorem need_loop(l k:Nat){H0:Hp}{n0:Nat}{js ks ps L:List Int}{nj np u6 u7 rb:Nat}{x v0 v3 v8:Value}{m0:Net}{D:List Nat}(F:Fixed H0 n0 js ks ps L nj np u6 u7 rb x){Q:Option (Value × Hp × Nat)→Prop}
  (hbad:∀(i:Nat) (H:Hp) (n:Nat),i<np→ps.getD (i * 2+1) 0<lowL js ks L nj np i 8→n0≤n→(∀ b,b<n0→b≠rb→H.get b=H0.get b)→Q (getK (wj H D) fun H'=>some (.tuple ⟨[.slice none 0 0,.bool false]⟩,H',n)))
  (hend:∀(H:Hp) (n m:Nat) (b3:W9 (Value × Hp × Nat)),(∀ q,q<np→lowL js ks L nj np q 8≤ps.getD (q * 2+1) 0)→n0≤n→(∀ b,b<n0→b≠rb→H.get b=H0.get b)→gK H rb (netU m0 (fx js ks ps L nj np) np) →
   Q (C78_3 (cal (l+1)) k m b3 v0 v3 (.pointer (some ⟨u6,0,none⟩)) (.pointer (some ⟨u7,0,none⟩)) v8 (.int .i64 (ay (fx js ks ps L nj np) np)) x (.int .i64 np) (.int .i64 np) H n D)) :
  ∀(m i:Nat) (H:Hp) (n:Nat),i≤np→np-i≤m→(∀ q,q<i→lowL js ks L nj np q 8≤ps.getD (q * 2+1) 0)→n0≤n→(∀ b,b<n0→b≠rb→H.get b=H0.get b)→gK H rb (netU m0 (fx js ks ps L nj np) i) →
   Q (S78_3 (cal (l+1)) k m v0 v3 (.pointer (some ⟨u6,0,none⟩)) (.pointer (some ⟨u7,0,none⟩)) v8 (.int .i64 (ay (fx js ks ps L nj np) i)) x (.int .i64 np) (.int .i64 i) H n D):=by
 have np8:=F.np8
 have l6:=F.l6
 have l7:=F.l7
 have lr:=F.lr
 have n6:=F.n6
 have n7:=F.n7
 have ns:∀ i,i≤np→0≤ay (fx js ks ps L nj np) i∧ay (fx js ks ps L nj np) i≤i * 100000:=fun i=>by
  induction i with
  | zero=>intro _; simp only[ay]; omega
  | succ i ih=>
   intro hi
   have:=ih (by omega)
   have h1:=F.mild i (by omega)
   have h2:=F.small i
   simp only[ay]
   unfold fx at this ⊢
   rw[if_pos (show i<np by omega)]
   omega
 have body:∀(b3:W9 (Value × Hp × Nat)) (m i:Nat) (H:Hp) (n:Nat),i≤np→(∀ q,q<i→lowL js ks L nj np q 8≤ps.getD (q * 2+1) 0)→n0≤n→(∀ b,b<n0→b≠rb→H.get b=H0.get b)→gK H rb (netU m0 (fx js ks ps L nj np) i) →
   (∀(H:Hp) (n:Nat),i<np→lowL js ks L nj np i 8≤ps.getD (i * 2+1) 0→n0≤n→(∀ b,b<n0→b≠rb→H.get b=H0.get b)→gK H rb (netU m0 (fx js ks ps L nj np) (i+1)) →
    Q (b3 v0 v3 (.pointer (some ⟨u6,0,none⟩)) (.pointer (some ⟨u7,0,none⟩)) v8 (.int .i64 (ay (fx js ks ps L nj np) (i+1))) x (.int .i64 np) (.int .i64 ((i+1:Nat):Int)) H n D)) →
   Q (C78_3 (cal (l+1)) k m b3 v0 v3 (.pointer (some ⟨u6,0,none⟩)) (.pointer (some ⟨u7,0,none⟩)) v8 (.int .i64 (ay (fx js ks ps L nj np) i)) x (.int .i64 np) (.int .i64 i) H n D):=by
  intro b3 m i H n hi hok hn hk hnet ih
  by_cases hlt:i<np
  ·unfold C78_3
   generalize S78_4 (cal (l+1)) k k=J
   unfold B78_3
   have hI1:I64 ((i:Int)+1):=by unfold I64; omega
   have hc1:((i:Int)+1)=((i+1:Nat):Int):=by omega
   have hI8:I64 (8+(i:Int)):=by unfold I64; omega
   have a8:(8+(i:Int))=((8+i:Nat):Int):=by omega
   obtain⟨pa1,pa2,p1,p2⟩:=pad_load2 F hk hlt
   obtain⟨H1,k1,k2,k3⟩:=vk (P:=P) (ρ:=Value × Hp × Nat) (H:=H) (n:=n) (L:=[.int .i64 (ps.getD (i * 2) 0),.int .i64 (ps.getD (i * 2+1) 0)]) zero90 rfl sz90 rfl rfl
   have c1:aW H1 n 0 [.int .i64 (ps.getD (i * 2) 0),.int .i64 (ps.getD (i * 2+1) 0)]:=dv k2
   have g6:H1.get u6=some (.cells [.map (some rb)] 160 false none):=by rw[k1 u6 (by omega),hk u6 l6 n6]; exact F.cell
   obtain⟨X,x1,x2,x3⟩:=F.low
   have g7:H1.get u7=some (.cells (ints X) 118 false none):=by rw[k1 u7 (by omega),hk u7 l7 n7]; exact x2
   have xi:X.getD i 0=lowL js ks L nj np i 8:=by rw[x3 i (by omega),if_neg (by omega)]
   have lX:az P H1 3 ⟨u7,0+i * 1,none⟩=some (.int .i64 (lowL js ks L nj np i 8)):=bj (k:=i * 1) (dv g7) agg3 (by rw[Nat.mul_one,← xi]; exact gQ (getD_some (by omega)))
   have lR:az P H1 3 ⟨n,0+1,none⟩=some (.int .i64 (ps.getD (i * 2+1) 0)):=bj (k:=1) c1 agg3 rfl
   have lN:az P H1 3 ⟨n,0+0,none⟩=some (.int .i64 (ps.getD (i * 2) 0)):=bj (k:=0) c1 agg3 rfl
   have keep1:∀ b,b<n0→b≠rb→H1.get b=H0.get b:=fun b hb hne=>by rw[k1 b (by omega)]; exact hk b hb hne
   rw[ax cJ,gw,if_pos (by omega),p1,aj,ak,aj,p2,aj,k3,at120 u7 (show i<8 by omega),aj,ak,aj,lX,aj,fa90_1,aj,ak,aj,lR,aj,ax wX,gw]
   by_cases hroom:ps.getD (i * 2+1) 0<lowL js ks L nj np i 8
   ·rw[if_pos hroom]
    exact hbad i H1 (n+1) hlt hroom (by omega) keep1
   ·have hmi:=F.mild i hlt
    have hsm:=F.small i
    have hI2:I64 (ps.getD (i * 2) 0-lowL js ks L nj np i 8):=by unfold I64; omega
    have hr:(H1.set (n+1) (some (.cells [.int .i64 0] 3 false none))).get (n+1)=some (.cells [.int .i64 0] 3 false none):=by rw[Tr.get_set,if_pos rfl]
    have hr2:∀ b,b<n+1→(H1.set (n+1) (some (.cells [.int .i64 0] 3 false none))).get b=H1.get b:=fun b hb=>by rw[Tr.get_set,if_neg (by omega)]
    rw[if_neg hroom,fa90_0,aj,ak,aj,lN,aj,aj,ak,aj,lX,aj,ax (oW hI2),row44,aj]
    unfold newK
    dsimp only
    generalize H1.set (n+1) (some (.cells [.int .i64 0] 3 false none))=H2 at hr hr2 ⊢
    have nd:fx js ks ps L nj np i=max (ps.getD (i * 2) 0-lowL js ks L nj np i 8) 0:=if_pos hlt
    have hs:=ns i (by omega)
    have hI3:I64 (ay (fx js ks ps L nj np) i+max (ps.getD (i * 2) 0-lowL js ks L nj np i 8) 0):=by unfold I64; omega
    have net2:gK H2 rb (netU m0 (fx js ks ps L nj np) i):=hnet.keep (by rw[hr2 rb (by omega),k1 rb (by omega)])
    obtain⟨H4,e1,e2,e3⟩:=qej net2 (8+i) 17 (max (ps.getD (i * 2) 0-lowL js ks L nj np i 8) 0)
    rw[most_call l _ _ hr,ax (bk hI3),ak,aj,jx ((hr2 u6 (by omega)).trans g6) zk rfl rfl,aj,ax (bk hI8),a8,show fK P 162 [(0,.int .i64 ((8+i:Nat):Int)),(1,.int .i64 17)]=some (keyV [((8+i:Nat):Int),((17:Nat):Int)]) from Ek (8+i) 17,aj,e1,aj,ax (bk hI1),hc1]
    have:=ih H4 (n+1+1) hlt (by omega) (by omega) (fun b hb hne=>by rw[e3 b hne,hr2 b (by omega)]; exact keep1 b hb hne) (by rw[← netU_step,nd]; exact e2)
    have es:ay (fx js ks ps L nj np) (i+1)=ay (fx js ks ps L nj np) i+max (ps.getD (i * 2) 0-lowL js ks L nj np i 8) 0:=by
     rw[← nd]; rfl
    rw[es] at this
    exact this
  ·have:i=np:=by omega
   subst this
   exact hend H n m b3 hok hn hk hnet
 intro m
 induction m with
 | zero=>
  intro i H n h1 h2 h0 h3 h4 h5
  exact body _ 0 i H n h1 h0 h3 h4 h5 (fun _ _ h=>by omega)
 | succ m ih=>
  intro i H n h1 h2 h0 h3 h4 h5
  exact body _ (m+1) i H n h1 h0 h3 h4 h5 (fun H n q1 q2 q3 q4 q5=>ih (i+1) H n (by omega) (by omega) (fun q hq=>by
   by_cases e:q=i
   ·rw[e]; exact q2
   ·exact h0 q (by omega)) q3 q4 q5)
theorem net_first{js ks ps L:List Int}{nj np:Nat}(np8:np≤8):netU (netP js ks L nj np 8) (fx js ks ps L nj np) np=tnet (wL js ks L nj np) (cX js ks L nj np) (fx js ks ps L nj np):=by
 funext u v
 unfold netU netP tnet
 by_cases c1:8≤u∧u<8+np∧v=17
 ·rw[if_pos c1,if_neg (show ¬ (u=16∧v<8) by omega),if_neg (show ¬ (u<8∧8≤v∧v<16) by omega),if_pos (show 8≤u∧u<16∧v=17 by omega)]
 ·rw[if_neg c1]
  by_cases c2:u=16∧v<8
  ·rw[if_pos (show u=16∧v<8∧v<8 by omega),if_pos c2]
  ·rw[if_neg (show ¬ (u=16∧v<8∧v<8) by omega),if_neg c2]
   by_cases c3:u<8∧8≤v∧v<16
   ·rw[if_pos (show u<8∧u<8∧8≤v∧v<16 by omega),if_pos c3]
   ·rw[if_neg (show ¬ (u<8∧u<8∧8≤v∧v<16) by omega),if_neg c3]
    by_cases c4:8≤u∧u<16∧v=17
    ·rw[if_pos c4]
     exact(if_neg (show ¬ u-8<np by omega)).symm
    ·rw[if_neg c4]
theorem net_second{js ks ps L:List Int}{nj np:Nat}{m:Net}(np8:np≤8)(hz:∀ u,u<18→m u 17=0):netU m (tz js ks ps L nj np) np=anew m (tz js ks ps L nj np):=by
 funext u v
 unfold netU anew
 by_cases c1:8≤u∧u<8+np∧v=17
 ·rw[if_pos c1,if_pos (show 8≤u∧u<16∧v=17 by omega)]
 ·rw[if_neg c1]
  by_cases c2:8≤u∧u<16∧v=17
  ·rw[if_pos c2,c2.2.2,hz u (by omega)]
   exact(if_neg (show ¬ u-8<np by omega)).symm
  ·rw[if_neg c2]
theorem fills_say{js ks ps L:List Int}{nj np:Nat}{x x2:Int}{m m2:Net}(ok:LaidNests js ks L nj np)(hlow:∀ q,q<np→lowL js ks L nj np q 8≤ps.getD (q * 2+1) 0)(hps:∀ q,q<np→ps.getD (q * 2) 0≤ps.getD (q * 2+1) 0)
  (F:Filled 18 16 17 (tnet (wL js ks L nj np) (cX js ks L nj np) (fx js ks ps L nj np)) x m) :
  (x≠ay (fx js ks ps L nj np) 8→∃ A B:Nat→Bool,canC js ks ps L nj np A B false false<wk js ks ps L nj np A B false false) ∧
  (x=ay (fx js ks ps L nj np) 8→Filled 18 16 17 (anew m (tz js ks ps L nj np)) x2 m2 →
   (x2≠ay (cX js ks L nj np) 8-ay (fx js ks ps L nj np) 8→∃ A B:Nat→Bool,canC js ks ps L nj np A B true true<wk js ks ps L nj np A B true true) ∧
   (x2=ay (cX js ks L nj np) 8-ay (fx js ks ps L nj np) 8→Sending js ks ps L nj np fun p q=>if p<8∧q<8 then m2 (8+q) p else 0)):=by
 refine⟨fun hne=>?_,fun he F2=>⟨fun hne=>?_,fun he2=>?_⟩⟩
 ·obtain⟨R,hR⟩:=fill_cut F
  have up:=F.into (by omega) (by omega) (by omega)
  rw[yk,cap_sum] at up
  have z:ay (fun _=>0) 18≤ay (fun u=>m u 17) 18:=kQ fun u _=>F.ge u 17
  rw[kV] at z
  exact cut_first ok (R:=R) (by rw[← hR]; omega)
 ·subst he
  obtain⟨R,hR⟩:=fills_cut F F2
  have w1:=F.worth
  have w2:=F2.worth
  rw[yk] at w1 w2
  have s1:ay (tnet (wL js ks L nj np) (cX js ks L nj np) (fx js ks ps L nj np) 16) 18=ay (cX js ks L nj np) 8:=Yq _ _ _
  have same:ay (anew m (tz js ks ps L nj np) 16) 18=ay (m 16) 18:=bz fun v _=>if_neg (by omega)
  have z:ay (fun _=>0) 18≤ay (m2 16) 18:=kQ fun v _=>F2.ge 16 v
  rw[kV] at z
  have w1:ay (tnet (wL js ks L nj np) (cX js ks L nj np) (fx js ks ps L nj np) 16) 18-ay (m 16) 18=ay (fx js ks ps L nj np) 8:=w1
  have w2:ay (anew m (tz js ks ps L nj np) 16) 18-ay (m2 16) 18=x2:=w2
  exact cut_second ok (R:=R) (by rw[← hR]; omega)
 ·subst he
  subst he2
  obtain⟨b1,b2,b3⟩:=filled_back F F2
  refine sending_of ok hlow hps (fun p q=>?_) (fun p q=>?_) (fun p hp=>?_) (fun q hq=>?_)
  ·show 0≤(if p<8∧q<8 then m2 (8+q) p else 0)
   split
   ·rename_i h; exact(b1 p q h.1 h.2).1
   ·exact Int.le_refl _
  ·show(if p<8∧q<8 then m2 (8+q) p else 0)≤_
   split
   ·rename_i h; exact(b1 p q h.1 h.2).2
   ·unfold wL
    by_cases c:isN L p
    ·rw[if_pos c]
     have:=ok.le p c q
     omega
    ·rw[if_neg c]; exact Int.le_refl _
  ·rw[← b2 p hp]
   exact bz fun q hq=>if_pos ⟨hp,hq⟩
  ·have e:ay (fun p=>if p<8∧q<8 then m2 (8+q) p else 0) 8=ay (fun p=>m2 (8+q) p) 8:=bz fun p hp=>if_pos ⟨hp,hq⟩
   rw[e]
   exact b3 q hq
theorem zero160n:iJ P 160=some (.map none):=by kernel_rfl
theorem sz160n:szT P 160=some 1:=by kernel_rfl
theorem zero3n:iJ P 3=some (.int .i64 0):=by kernel_rfl
theorem fill_behind(l:Nat){rb u8:Nat}{m:Net}{cs:List Value}{H:Hp}{n:Nat}(hm:sX m)(hn:gK H rb m)(hr:rb<n)(hs:ay (fun v=>m 16 v) 18≤8000)(h8:H.get u8=some (.cells cs 3 false none))(n8:u8≠rb)(l8:u8<n) :
  ∃(x:Int) (m':Net) (H':Hp) (n':Nat),(∀ k:Value→Hp→Nat→Option ρ,effK P [(.l 3 ⟨u8,0,none⟩)] H n (fun H n k=>aX P (cal (l+23)) 107 [.map (some rb)] H n fun v H n=>k v H n) k=k (.int .i64 x) H' n')∧Filled 18 16 17 m x m'∧sX m'∧n≤n'∧gK H' rb m'∧∀ b,b<n→b≠rb→H'.get b=H.get b:=by
 have F:=Yj (N:=18) (s:=16) (t:=17) (y:=8000) (by omega) (by omega) (by omega) (k:=KK) (fun u v=>(hm u v).1) (show ay (fun v=>m 16 v) 18<((KK:Nat):Int) by unfold KK; omega)
 have only:∀ b,ldOf [Extra.l 3 ⟨u8,0,none⟩] b→b=u8:=fun b=>by
  rintro⟨t,a,q1,q2⟩
  rw[List.mem_singleton] at q1
  cases q1
  exact q2.symm
 have is8:ldOf [Extra.l 3 ⟨u8,0,none⟩] u8:=⟨_,_,List.mem_singleton.2 rfl,rfl⟩
 obtain⟨H',H2,n2,e1,⟨e2,e3,e4⟩,e5,e6⟩:=NQ (P:=P) (ρ:=ρ) (ex:=[.l 3 ⟨u8,0,none⟩]) (H:=H) (n:=n) (v:=.int .i64 (CZ 18 17 16 8000 KK m).1)
  (op:=fun H n k=>aX P (cal (l+23)) 107 [.map (some rb)] H n fun v H n=>k v H n)
  (R:=fun H2 n2=>n≤n2∧gK H2 rb (CZ 18 17 16 8000 KK m).2∧∀ b,b<n→b≠rb→b≠u8→H2.get b=H.get b)
  (fun y hy=>by
   rw[List.mem_singleton] at hy
   exact⟨_,_,hy,.inl ⟨_,_,_,_,h8⟩⟩)
  (fun Hm hmm=>by
   have hm':∀ b,b≠u8→Hm.get b=H.get b:=fun b hb=>hmm b fun q=>hb (only b q)
   obtain⟨H2,n2,f1,f2,f3,f4⟩:=Yv l KK m 0 Hm n hm (hn.keep (hm' rb (Ne.symm n8))) hr (Int.le_refl _) (by unfold KK; omega) (by omega)
   refine⟨H2,n2,fun k=>?_,fun b hb=>?_,f2,f3,fun b h1 h2 h3=>by rw[f4 b h1 h2,hm' b h3]⟩
   ·unfold aX
    rw[Oj,call107]
    unfold YK B107_0
    rw[f1]
    show aq (some _) _=_
    rw[aj,Int.zero_add]
   ·rw[only b hb]; exact f4 u8 l8 n8)
 have same:∀ b,b<n→b≠rb→H'.get b=H.get b:=fun b h1 h2=>by
  by_cases c:b=u8
  ·rw[c]; exact e5 u8 is8
  ·rw[e6 b (fun q=>c (only b q))]; exact e4 b h1 h2 c
 refine⟨_,_,H',n2,e1,F,fun u v=>⟨F.ge u v,fun hu hv=>?_⟩,e2,e3.keep (e6 rb fun q=>n8 (only rb q).symm),same⟩
 have a:=F.flow.anti u v hu hv
 have a:m u v-(CZ 18 17 16 8000 KK m).2 u v=-(m v u-(CZ 18 17 16 8000 KK m).2 v u):=a
 have:=(hm u v).2 hu hv
 omega
def QQ(js ks ps L:List Int)(nj np:Nat)(r:Value)(H':Hp)(n':Nat):Prop:=
 (∃ u rw_ m2,r=.tuple ⟨[u,.bool true]⟩∧bw u=false∧fq H' n' u np rw_ (oZ js ks L nj np m2)∧Sending js ks ps L nj np (fun p q=>if p<8∧q<8 then m2 (8+q) p else 0)) ∨
 (r=.tuple ⟨[.slice none 0 0,.bool false]⟩∧∃(A B:Nat→Bool) (b e:Bool),(b=true→e=true)∧canC js ks ps L nj np A B b e<wk js ks ps L nj np A B b e)
theorem take_one{H:Hp}{d:Nat}(h:H.get d=some .deferred):wj H [d]=some (H.set d none):=by
 simp only[wj,h]
theorem call78(l:Nat)(a b:Value)(H:Hp)(n:Nat):(cal (l+1)).call 78 [a,b] H n=C78_0 (cal l) KK a b H n []:=by kernel_rfl
theorem mild_small{m:Net}(h:∀ u v,0≤m u v∧m u v≤100000):sX m:=fun u v=>⟨(h u v).1,fun _ _=>by have:=h u v; have:=h v u; omega⟩
theorem pads_text(l:Nat){H0:Hp}{n0 N n:Nat}{js ks ps L:List Int}{nj np nk g u3 u6 u7 u8 rb:Nat}{x yv z:Value}{f:Nat→Value}{H:Hp}(F:Fixed H0 n0 js ks ps L nj np u6 u7 rb x)(ok:LaidNests js ks L nj np)(hSb:∀ p,isN L p→iW (sL js ks L nj np p))(hy:∀ p,isN L p→0≤yL ks L p∧yL ks L p≤1000)(hps:∀ q,q<np→ps.getD (q * 2) 0≤ps.getD (q * 2+1) 0)
  (hn0:n≤n0) (hkeep:Keep n H H0) (hrn:n≤rb) (hgn:g<n) (hf:cZ H g 859 115 f) (hs:SiteF f x yv z js nj) (hx:eK H n 2 x np ps) (hn:∀ p kd,p<np→kd<nk→xx f js ks nj np p kd) (hks:tx ks nk) (hnp0:0<np) (hnk:nk≤3) (hL:L.length=8) (hK:zw L np nk)
  (hN:H0.get N=some .deferred) (lN:N<n0) (nN:N≠rb) (hNn:n≤N) (h3:H0.get u3=some (.cells (ints L) 119 false none)) (l3:u3<n0) (n3:u3≠rb) (h8:H0.get u8=some (.cells [.int .i64 (ay (cX js ks L nj np) 8)] 3 false none)) (l8:u8<n0) (n8:u8≠rb)
  (hnet:gK H0 rb (netP js ks L nj np 8)) :
  ∃ r H' n',S78_3 (cal (l+24)) KK KK (.pointer (some ⟨g,0,none⟩)) (.pointer (some ⟨u3,0,none⟩)) (.pointer (some ⟨u6,0,none⟩)) (.pointer (some ⟨u7,0,none⟩)) (.pointer (some ⟨u8,0,none⟩)) (.int .i64 0) x (.int .i64 np) (.int .i64 0) H0 n0 [N]=some (r,H',n')∧n≤n'∧Keep n H H'∧QQ js ks ps L nj np r H' n':=by
 have np8:=F.np8
 have lens:(ints L).length=8:=by rw[bv,hL]
 have ss:=spare_small ok hSb hy
 have sum8:=Dv ss 8
 have stop:∀(Hc:Hp) (nc:Nat),n0≤nc→(∀ b,b<n0→b≠rb→Hc.get b=H0.get b)→(∃(A B:Nat→Bool) (b e:Bool),(b=true→e=true)∧canC js ks ps L nj np A B b e<wk js ks ps L nj np A B b e) →
   ∃ r H' n',(getK (wj Hc [N]) fun H'=>some (.tuple ⟨[.slice none 0 0,.bool false]⟩,H',nc))=some (r,H',n')∧n≤n'∧Keep n H H'∧QQ js ks ps L nj np r H' n':=fun Hc nc h1 h2 h3=>by
  rw[take_one ((h2 N lN nN).trans hN)]
  exact⟨_,_,_,rfl,by omega,fun b hb=>by rw[Tr.get_set,if_neg (by omega),h2 b (by omega) (by omega)]; exact hkeep b hb,.inr ⟨rfl,h3⟩⟩
 refine need_loop (l+23) KK F (Q:=fun o=>∃ r H' n',o=some (r,H',n')∧n≤n'∧Keep n H H'∧QQ js ks ps L nj np r H' n') (fun i Hc nc hi hbad h1 h2=>?_) (fun Hc nc m b3 hlow h1 h2 h4=>?_) KK 0 H0 n0 (Nat.zero_le _) (by unfold KK; omega) (fun q hq=>absurd hq (by omega)) (Nat.le_refl _) (fun _ _ _=>rfl) (by rw[netU_zero]; exact hnet)
 ·obtain⟨A,B,h⟩:=cut_room np8 hi hbad
  exact stop Hc nc h1 h2 ⟨A,B,true,true,fun _=>rfl,h⟩
 ·unfold C78_3
  generalize hJ:S78_4 (cal (l+23+1)) KK KK=J
  unfold B78_3
  have l6:=F.l6
  have n6:=F.n6
  have lr:=F.lr
  rw[net_first np8] at h4
  have small1:sX (tnet (wL js ks L nj np) (cX js ks L nj np) (fx js ks ps L nj np)):=mild_small fun u v=>by
   unfold tnet
   by_cases c1:u=16∧v<8
   ·rw[if_pos c1]; have:=ss v; omega
   ·rw[if_neg c1]
    by_cases c2:u<8∧8≤v∧v<16
    ·rw[if_pos c2]
     unfold wL
     by_cases c:isN L u
     ·rw[if_pos c]
      have:=hSb u c ((v-8) * 2)
      have:=hSb u c ((v-8) * 2+1)
      have:=ok.le u c (v-8)
      omega
     ·rw[if_neg c]; omega
    ·rw[if_neg c2]
     by_cases c3:8≤u∧u<16∧v=17
     ·rw[if_pos c3]
      unfold fx
      by_cases c:u-8<np
      ·rw[if_pos c]
       have:=F.mild (u-8) c
       have:=F.small (u-8)
       omega
      ·rw[if_neg c]; omega
     ·rw[if_neg c3]; omega
  have src1:ay (fun v=>tnet (wL js ks L nj np) (cX js ks L nj np) (fx js ks ps L nj np) 16 v) 18=ay (cX js ks L nj np) 8:=Yq _ _ _
  obtain⟨x1,m1,H1,nn1,e1,F1,sm1,q1,q2,q3⟩:=fill_call (ρ:=Value × Hp × Nat) (l+1) small1 h4 (show rb<nc by omega) (by rw[src1]; omega)
  have g6:Hc.get u6=some (.cells [.map (some rb)] 160 false none):=(h2 u6 l6 n6).trans F.cell
  have keep1:∀ b,b<n0→b≠rb→H1.get b=H0.get b:=fun b hb hne=>by rw[q3 b (by omega) hne]; exact h2 b hb hne
  have sneed:ay (fx js ks ps L nj np) np=ay (fx js ks ps L nj np) 8:=(oy np8 fun q hq _=>if_neg (by omega)).symm
  obtain⟨say1,say2⟩:=fills_say (x2:=0) (m2:=m1) ok hlow hps F1
  rw[ax cJ,gw,if_neg (by omega),ak,aj,jx g6 zk rfl rfl,aj,show l+23+1=l+1+23 by omega,e1,ax iV]
  by_cases c1:x1=ay (fx js ks ps L nj np) np
  ·have hz1:=Tw (by rw[sneed] at c1; rw[← c1]; exact F1)
   have net1:gK H1 rb (netU m1 (tz js ks ps L nj np) 0):=by rw[netU_zero]; exact q2
   have cg:∀(Hd:Hp),(∀ b,b<n0→b≠rb→Hd.get b=H0.get b)→cZ Hd g 859 115 f:=fun Hd hd=>by
    obtain⟨c,a1,a2,a3⟩:=hf
    exact⟨c,by rw[hd g (by omega) (by omega),hkeep g hgn]; exact a1,a2,a3⟩
   have lx:az P H1 31 ⟨g,0+0+0,none⟩=some x:=by
    have:=(cg H1 keep1).load (P:=P) (k:=0) Fv (by omega)
    rw[hs.x] at this; exact this
   rw[decide_eq_true c1,Bool.not_true,ez,oX,aj,tw,aj,vV,aj,ak,aj,lx,aj,hx.len_eq Fx,aj,← hJ]
   refine more_loop (l+23) KK F (Q:=fun o=>∃ r H' n',o=some (r,H',n')∧n≤n'∧Keep n H H'∧QQ js ks ps L nj np r H' n') (fun Hd nd m b4 d1 d2 d3=>?_) KK 0 H1 nn1 (Nat.zero_le _) (by unfold KK; omega) (by omega) keep1 net1
   rw[net_second np8 hz1] at d3
   have more0:∀ q,0≤tz js ks ps L nj np q∧tz js ks ps L nj np q≤100000:=fun q=>by
    unfold tz
    by_cases c:q<np
    ·rw[if_pos c]
     have:=F.mild q c
     have:=hlow q c
     have:=hps q c
     have:=F.small q
     omega
    ·rw[if_neg c]; omega
   have small2:sX (anew m1 (tz js ks ps L nj np)):=fun u v=>by
    refine⟨?_,fun hu hv=>?_⟩
    ·unfold anew
     split
     ·exact(more0 _).1
     ·exact F1.ge u v
    ·have back:∀ u,u<18→8≤u→u<16→m1 17 u≤100000:=fun u hu h1 h2=>by
      have a:=F1.flow.anti u 17 hu (by omega)
      have a:tnet (wL js ks L nj np) (cX js ks L nj np) (fx js ks ps L nj np) u 17-m1 u 17=-(tnet (wL js ks L nj np) (cX js ks L nj np) (fx js ks ps L nj np) 17 u-m1 17 u):=a
      have t1:tnet (wL js ks L nj np) (cX js ks L nj np) (fx js ks ps L nj np) 17 u=0:=by
       unfold tnet
       rw[if_neg (by omega),if_neg (by omega),if_neg (by omega)]
      have t2:tnet (wL js ks L nj np) (cX js ks L nj np) (fx js ks ps L nj np) u 17=fx js ks ps L nj np (u-8):=by
       unfold tnet
       rw[if_neg (by omega),if_neg (by omega),if_pos ⟨h1,h2,rfl⟩]
      have:=F1.ge u 17
      have t3:fx js ks ps L nj np (u-8)≤100000:=by
       unfold fx
       by_cases c:u-8<np
       ·rw[if_pos c]
        have:=F.mild (u-8) c
        have:=F.small (u-8)
        omega
       ·rw[if_neg c]; omega
      omega
     unfold anew
     by_cases c2:8≤u∧u<16∧v=17
     ·rw[if_pos c2,if_neg (by omega),c2.2.2]
      have:=back u hu c2.1 c2.2.1
      have:=more0 (u-8)
      omega
     ·rw[if_neg c2]
      by_cases c3:8≤v∧v<16∧u=17
      ·rw[if_pos c3,c3.2.2]
       have:=back v hv c3.1 c3.2.1
       have:=more0 (v-8)
       omega
      ·rw[if_neg c3]
       exact(sm1 u v).2 hu hv
   have src2:ay (fun v=>anew m1 (tz js ks ps L nj np) 16 v) 18≤8000:=by
    have same:ay (fun v=>anew m1 (tz js ks ps L nj np) 16 v) 18=ay (m1 16) 18:=bz fun v _=>if_neg (by omega)
    have w:=F1.worth
    rw[yk,src1] at w
    have w:ay (cX js ks L nj np) 8-ay (m1 16) 18=x1:=w
    have ge0:0≤ay (fx js ks ps L nj np) np:=by
     have z:ay (fun _=>0) np≤ay (fx js ks ps L nj np) np:=kQ fun q hq=>by unfold fx; rw[if_pos hq]; omega
     rw[kV] at z
     exact z
    rw[same]
    omega
   have d8:Hd.get u8=some (.cells [.int .i64 (ay (cX js ks L nj np) 8)] 3 false none):=(d2 u8 l8 n8).trans h8
   have d6:Hd.get u6=some (.cells [.map (some rb)] 160 false none):=(d2 u6 l6 n6).trans F.cell
   obtain⟨x2,m2,H2,nn2,f1,F2,sm2,p1,p2,p3⟩:=fill_behind (ρ:=Value × Hp × Nat) (l+1) small2 d3 (show rb<nd by omega) src2 d8 n8 (show u8<nd by omega)
   have keep2:∀ b,b<n0→b≠rb→H2.get b=H0.get b:=fun b hb hne=>by rw[p3 b (by omega) hne]; exact d2 b hb hne
   have hI:I64 (ay (cX js ks L nj np) 8-ay (fx js ks ps L nj np) np):=by
    have z:ay (fx js ks ps L nj np) np≤ay (fun _=>100000) np:=kQ fun q hq=>by
     unfold fx; rw[if_pos hq]; have:=F.mild q hq; have:=F.small q; omega
    have c:∀ i:Nat,ay (fun _=>(100000:Int)) i=i * 100000:=fun i=>by
     induction i with
     | zero=>rfl
     | succ i ih=>simp only[ay]; rw[ih]; omega
    rw[c] at z
    have ge0:0≤ay (fx js ks ps L nj np) np:=by
     have z:ay (fun _=>0) np≤ay (fx js ks ps L nj np) np:=kQ fun q hq=>by unfold fx; rw[if_pos hq]; omega
     rw[kV] at z
     exact z
    unfold I64
    omega
   unfold C78_4 B78_4
   rw[ax cJ,gw,if_neg (by omega),ak,aj,jx d6 zk rfl rfl,aj,ak,aj,bj (k:=0) (o:=0) (dv d8) agg3 rfl,aj,ax (oW hI),show l+23+1=l+1+23 by omega,f1,ax iV]
   obtain⟨say3,say4⟩:=(fills_say (x2:=x2) (m2:=m2) ok hlow hps F1).2 (by rw[← sneed]; exact c1) F2
   rw[sneed]
   by_cases c2:x2=ay (cX js ks L nj np) 8-ay (fx js ks ps L nj np) 8
   ·rw[decide_eq_true c2,Bool.not_true,ez,ak,aj,fY ((keep2 u3 l3 n3).trans h3) Fk zv lens,aj,aj,jx ((keep2 u6 l6 n6).trans F.cell) zk rfl rfl,aj]
    obtain⟨u,rw_,H3,nn3,s1,s2,s3,s4,s5⟩:=sent_call (ρ:=Value × Hp × Nat) (l+18) (show g<nn2 by omega) (show rb<nn2 by omega) (cg H2 keep2) hs ((hx.keep (H':=H2) (m:=n) (fun b hb=>by rw[keep2 b (by omega) (by omega)]; exact hkeep b hb) (Nat.le_refl _)).up (show n≤nn2 by omega)) hn hks np8 hnp0 hnk hL hK hSb sm2 p2
    rw[show l+1+23=l+18+6 by omega,s1,take_one ((s3 N (by omega)).trans ((keep2 N lN nN).trans hN))]
    refine⟨_,_,_,rfl,by omega,fun b hb=>?_,.inl ⟨u,rw_,m2,rfl,s4,?_,say4 c2⟩⟩
    ·rw[Tr.get_set,if_neg (by omega),s3 b (by omega),keep2 b (by omega) (by omega)]
     exact hkeep b hb
    ·exact s5 _ fun b hb=>by rw[Tr.get_set,if_neg (by omega)]
   ·rw[decide_eq_false c2,Bool.not_false,fX]
    obtain⟨A,B,h⟩:=say3 c2
    exact stop H2 nn2 (by omega) keep2 ⟨A,B,true,true,fun _=>rfl,h⟩
  ·rw[decide_eq_false c1,Bool.not_false,fX]
   obtain⟨A,B,h⟩:=say1 (by rw[← sneed]; exact c1)
   exact stop H1 nn1 (by omega) keep1 ⟨A,B,false,false,(fun h=>by cases h),h⟩
theorem netM_nil(js ks L:List Int)(nj np:Nat):netM []=netP js ks L nj np 0:=by
 funext u v
 unfold netM netP getF
 rw[if_neg (by omega),if_neg (by omega)]
theorem goodSpread_call(l:Nat){js ks ps L:List Int}{nj np nk g:Nat}{f:Nat→Value}{x yv z:Value}{H:Hp}{n:Nat}(ok:LaidNests js ks L nj np)(hSb:∀ p,isN L p→iW (sL js ks L nj np p))(hy:∀ p,isN L p→0≤yL ks L p∧yL ks L p≤1000)(hps:∀ q,q<np→ps.getD (q * 2) 0≤ps.getD (q * 2+1) 0)
  (hmild:∀ q,q<np→(0≤ps.getD (q * 2) 0∧ps.getD (q * 2) 0≤100000)∧(0≤ps.getD (q * 2+1) 0∧ps.getD (q * 2+1) 0≤100000))
  (hgn:g<n) (hf:cZ H g 859 115 f) (hs:SiteF f x yv z js nj) (hx:eK H n 2 x np ps) (hn:∀ p kd,p<np→kd<nk→xx f js ks nj np p kd) (hks:tx ks nk) (hnp0:0<np) (hnk:nk≤3) (hL:L.length=8) (hK:zw L np nk) :
  ∃(r:Value) (H':Hp) (n':Nat),(∀ k:Value→Hp→Nat→Option ρ,aX P (cal (l+25)) 78 [.pointer (some ⟨g,0,none⟩),.agg ⟨ints L⟩] H n k=k r H' n')∧n≤n'∧Keep n H H'∧QQ js ks ps L nj np r H' n':=by
 have lens:(ints L).length=8:=by rw[bv,hL]
 have np8:=ok.np8
 suffices h:∃(r:Value) (H':Hp) (n':Nat),C78_0 (cal (l+24)) KK (.pointer (some ⟨g,0,none⟩)) (.agg ⟨ints L⟩) H n []=some (r,H',n')∧n≤n'∧Keep n H H'∧QQ js ks ps L nj np r H' n' by
  obtain⟨r,H',n',e,h1,h2,h3⟩:=h
  refine⟨r,H',n',fun k=>?_,h1,h2,h3⟩
  unfold aX
  have:(iY P 78 && ck [.pointer (some ⟨g,0,none⟩),.agg ⟨ints L⟩])=false:=by rw[Bool.and_eq_false_iff]; exact .inr rfl
  rw[this,show l+25=(l+24)+1 by omega,call78,e]
  rfl
 unfold C78_0 B78_0
 rw[dZ]
 simp only[aZ,ptr]
 unfold newMapK
 dsimp only
 generalize hH1:(H.set n (some (.cells (ints L) 119 false none))).set (n+1) (some (.map [] 0))=H1
 have k1:Keep n H H1:=fun b hb=>by rw[← hH1,Tr.get_set,if_neg (by omega),Tr.get_set,if_neg (by omega)]
 have a0:H1.get n=some (.cells (ints L) 119 false none):=by rw[← hH1,Tr.get_set,if_neg (by omega),Tr.get_set,if_pos rfl]
 have a1:H1.get (n+1)=some (.map [] 0):=by rw[← hH1,Tr.get_set,if_pos rfl]
 clear hH1
 obtain⟨H2,k2,a2,e2⟩:=qmz (ρ:=Value × Hp × Nat) zero160n rfl sz160n (v:=.map (some (n+1))) rfl H1 (n+1+1)
 rw[e2,jw zero120]
 simp only[aZ,ptr]
 generalize hH3:H2.set (n+1+1+1) (some (.cells (ints (List.replicate 8 0)) 118 false none))=H3
 have k3:∀ b,b<n+1+1+1→H3.get b=H2.get b:=fun b hb=>by rw[← hH3,Tr.get_set,if_neg (by omega)]
 have a3:H3.get (n+1+1+1)=some (.cells (ints (List.replicate 8 0)) 118 false none):=by rw[← hH3,Tr.get_set,if_pos rfl]
 clear hH3
 obtain⟨H4,k4,a4,e4⟩:=qmz (ρ:=Value × Hp × Nat) zero3n rfl sz3 (v:=.int .i64 0) rfl H3 (n+1+1+1+1)
 have all4:∀ b,b<n+1+1→H4.get b=H1.get b:=fun b hb=>by rw[k4 b (by omega),k3 b (by omega),k2 b hb]
 rw[e4,ak,aj,fY ((all4 n (by omega)).trans a0) Fk zv lens,aj,show l+24=(l+23)+1 by omega,placed_call (l+23)]
 generalize hH5:(H4.set (n+1+1+1+1+1) (some (.cells [.pointer (some ⟨g,0,none⟩)] 103 false none))).set (n+1+1+1+1+1+1) (some (.cells (ints L) 119 false none))=H5
 have k5:∀ b,b<n+1+1+1+1+1→H5.get b=H4.get b:=fun b hb=>by rw[← hH5,Tr.get_set,if_neg (by omega),Tr.get_set,if_neg (by omega)]
 have q3:H5.get (n+1+1+1+1+1)=some (.cells [.pointer (some ⟨g,0,none⟩)] 103 false none):=by rw[← hH5,Tr.get_set,if_neg (by omega),Tr.get_set,if_pos rfl]
 have q4:H5.get (n+1+1+1+1+1+1)=some (.cells (ints L) 119 false none):=by rw[← hH5,Tr.get_set,if_pos rfl]
 clear hH5
 have p0:H5.get n=some (.cells (ints L) 119 false none):=by rw[k5 n (by omega),all4 n (by omega)]; exact a0
 have p1:H5.get (n+1)=some (.map [] 0):=by rw[k5 _ (by omega),all4 _ (by omega)]; exact a1
 have p2:H5.get (n+1+1)=some (.cells [.map (some (n+1))] 160 false none):=by rw[k5 _ (by omega),k4 _ (by omega),k3 _ (by omega)]; exact a2
 have p3:H5.get (n+1+1+1)=some (.cells (ints (List.replicate 8 0)) 118 false none):=by rw[k5 _ (by omega),k4 _ (by omega)]; exact a3
 have p4:H5.get (n+1+1+1+1)=some (.cells [.int .i64 0] 3 false none):=(k5 _ (by omega)).trans a4
 have kn:Keep n H H5:=fun b hb=>by rw[k5 b (by omega),all4 b (by omega),k1 b hb]
 have f5:cZ H5 g 859 115 f:=hf.keep kn hgn
 unfold C78_1 B78_1
 generalize hN:n+1+1+1+1+1+2=N at *
 obtain⟨H6,n6,i6,e6⟩:=placed_range (l+19) (D:=[]) (T78 (.pointer (some ⟨g,0,none⟩)) (.pointer (some ⟨n,0,none⟩)) (.pointer (some ⟨n+1+1,0,none⟩)) (.pointer (some ⟨n+1+1+1,0,none⟩)) (.pointer (some ⟨n+1+1+1+1,0,none⟩)) (.func (.func 104) ⟨[]⟩ ⟨[.pointer (some ⟨n+1+1+1+1+1+1,0,none⟩),.pointer (some ⟨n+1+1+1+1+1,0,none⟩)]⟩)) #[24,25] tW jZ (yJ (cal (l+24)) KK) (LW (cal (l+24)) KK) (av P bV)
  hL hK np8 hnk q3 q4 (show n+1+1+1+1+1+1<N by omega) f5 hn
  (fun i Hc nc=>N+2≤nc∧Hc.get (N+1)=some (.loop .ready none 78 (T78 (.pointer (some ⟨g,0,none⟩)) (.pointer (some ⟨n,0,none⟩)) (.pointer (some ⟨n+1+1,0,none⟩)) (.pointer (some ⟨n+1+1+1,0,none⟩)) (.pointer (some ⟨n+1+1+1+1,0,none⟩)) (.func (.func 104) ⟨[]⟩ ⟨[.pointer (some ⟨n+1+1+1+1+1+1,0,none⟩),.pointer (some ⟨n+1+1+1+1+1,0,none⟩)]⟩)) (ntm P 78) #[24,25] tW jZ N)∧Hc.get N=some .deferred ∧
   gK Hc (n+1) (netP js ks L nj np i)∧pz Hc (n+1+1+1) js ks L nj np i 0∧Hc.get (n+1+1+1+1)=some (.cells [.int .i64 (ay (cX js ks L nj np) i)] 3 false none)∧∀ b,b<N→b≠n+1→b≠n+1+1+1→b≠n+1+1+1+1→Hc.get b=H5.get b)
  (fun i Hc nc ⟨c1,c2,c3,c4,c5,c6,c7⟩=>⟨c7 _ (by omega) (by omega) (by omega) (by omega),c7 _ (by omega) (by omega) (by omega) (by omega),c2⟩)
  (fun Ha h1 h2 h3=>⟨Nat.le_refl _,h3,h2,⟨[],⟨(h1 _ (by omega)).trans p1,fun _ h=>by cases h⟩,netM_nil ..⟩,⟨_,by simp,(h1 _ (by omega)).trans p3,fun q hq=>by
    rw[if_neg (by omega),List.getD_eq_getElem?_getD,List.getElem?_replicate,if_pos hq]
    rfl⟩,(h1 _ (by omega)).trans p4,fun b hb _ _ _=>h1 b hb⟩)
  (fun i Hc nc kd B ⟨c1,c2,c3,c4,c5,c6,c7⟩ hip hkd hLi hB=>by
   have hNi:isN L i:=⟨by omega,by omega⟩
   have hSe:shP js ks nj np i kd=sL js ks L nj np i:=by unfold sL; rw[hLi,Int.toNat_natCast]
   have hye:ks.getD (kd * 5) 0=yL ks L i:=by unfold yL; rw[hLi,Int.toNat_natCast]
   obtain⟨H',n',y1,y2,y3,y4,y5,y6,y7⟩:=round78 (ρ:=Value × Hp × Nat) (l+19) ok hSb hy hNi hSe hye (Vv ..) hB.1 c2 (show n+1+1<nc by omega) (show n+1+1+1<nc by omega) (show n+1+1+1+1<nc by omega) (show n+1<nc by omega) (by omega) ⟨by omega,by omega,by omega,by omega⟩ ⟨by omega,by omega,by omega⟩ ⟨by omega,by omega⟩ (by omega)
    ((c7 _ (by omega) (by omega) (by omega) (by omega)).trans p2) c4 c5 c6
   exact⟨H',n',y1,by omega,y3.trans c2,(y7 N (by omega) (by omega) (by omega) (by omega) (by omega)).trans c3,y4,y5,y6,fun b hb h1 h2 h3=>(y7 b (by omega) (by omega) h1 h2 h3).trans (c7 b hb h1 h2 h3)⟩)
  (fun i Hc nc ⟨c1,c2,c3,c4,c5,c6,c7⟩ hLi=>⟨c1,c2,c3,by rw[netP_skip hLi]; exact c4,c5.skip hLi,by
   have:ay (cX js ks L nj np) (i+1)=ay (cX js ks L nj np) i:=by
    simp only[ay]
    unfold cX
    rw[if_neg (fun h':isN L i=>h'.2 hLi)]
    omega
   rw[this]; exact c6,c7⟩)
 obtain⟨c1,c2,c3,c4,c5,c6,c7⟩:=i6
 show ∃ r H' n',EZ P (cal (l+19+5)) none 78 _ #[24,25] tW jZ (yJ (cal (l+24)) KK) (LW (cal (l+24)) KK) (av P bV) (T78 _ _ _ _ _ _) H5 N []=_∧_
 rw[e6]
 have post:∀(H:Hp) (n':Nat) (D:List Nat),yJ (cal (l+24)) KK (T78 (.pointer (some ⟨g,0,none⟩)) (.pointer (some ⟨n,0,none⟩)) (.pointer (some ⟨n+1+1,0,none⟩)) (.pointer (some ⟨n+1+1+1,0,none⟩)) (.pointer (some ⟨n+1+1+1+1,0,none⟩)) (.func (.func 104) ⟨[]⟩ ⟨[.pointer (some ⟨n+1+1+1+1+1+1,0,none⟩),.pointer (some ⟨n+1+1+1+1+1,0,none⟩)]⟩)) H n' D =
   C78_2 (cal (l+24)) KK (.pointer (some ⟨g,0,none⟩)) (.pointer (some ⟨n,0,none⟩)) (.pointer (some ⟨n+1+1,0,none⟩)) (.pointer (some ⟨n+1+1+1,0,none⟩)) (.pointer (some ⟨n+1+1+1+1,0,none⟩)) (.func (.func 104) ⟨[]⟩ ⟨[.pointer (some ⟨n+1+1+1+1+1+1,0,none⟩),.pointer (some ⟨n+1+1+1+1+1,0,none⟩)]⟩) H n' D:=h78_2 (cal (l+24)) KK (.pointer (some ⟨g,0,none⟩)) (.pointer (some ⟨n,0,none⟩)) (.pointer (some ⟨n+1+1,0,none⟩)) (.pointer (some ⟨n+1+1+1,0,none⟩)) (.pointer (some ⟨n+1+1+1+1,0,none⟩)) (.func (.func 104) ⟨[]⟩ ⟨[.pointer (some ⟨n+1+1+1+1+1+1,0,none⟩),.pointer (some ⟨n+1+1+1+1+1,0,none⟩)]⟩)
 rw[post]
 unfold C78_2
 generalize hJ:S78_3 (cal (l+24)) KK KK=J
 unfold B78_2
 generalize hHx:H6.set (N+1) (some (.loop .exhausted none 78 (T78 (.pointer (some ⟨g,0,none⟩)) (.pointer (some ⟨n,0,none⟩)) (.pointer (some ⟨n+1+1,0,none⟩)) (.pointer (some ⟨n+1+1+1,0,none⟩)) (.pointer (some ⟨n+1+1+1+1,0,none⟩)) (.func (.func 104) ⟨[]⟩ ⟨[.pointer (some ⟨n+1+1+1+1+1+1,0,none⟩),.pointer (some ⟨n+1+1+1+1+1,0,none⟩)]⟩)) (ntm P 78) #[24,25] tW jZ N))=Hx
 have x1:∀ b,b≠N+1→Hx.get b=H6.get b:=fun b hb=>by rw[← hHx,Tr.get_set,if_neg hb]
 clear hHx
 have keepx:Keep n H Hx:=fun b hb=>by rw[x1 b (by omega),c7 b (by omega) (by omega) (by omega) (by omega)]; exact kn b hb
 have lx:az P Hx 31 ⟨g,0+0+0,none⟩=some x:=by
  have:=(hf.keep keepx hgn).load (P:=P) (k:=0) Fv (by omega)
  rw[hs.x] at this; exact this
 rw[oX,aj,tw,aj,vV,aj,ak,aj,lx,aj,hx.len_eq Fx,aj,← hJ]
 have low8:∀ q,0≤lowL js ks L nj np q 8∧lowL js ks L nj np q 8≤8000:=fun q=>by
  have:=Yw (nj:=nj) (np:=np) hSb q 8
  omega
 have F:Fixed Hx n6 js ks ps L nj np (n+1+1) (n+1+1+1) (n+1) x:={
  l6:=by omega
  l7:=by omega
  lr:=by omega
  n6:=by omega
  n7:=by omega
  cell:=by rw[x1 _ (by omega),c7 _ (by omega) (by omega) (by omega) (by omega)]; exact p2
  low:=c5.keep (x1 _ (by omega))
  pads:=⟨n,by omega,by omega,hx.keep keepx (Nat.le_refl _)⟩
  np8:=np8
  small:=low8
  mild:=hmild
  len:=hx.1 }
 exact pads_text l F ok hSb hy hps (by omega) keepx (by omega) hgn hf hs hx hn hks hnp0 hnk hL hK ((x1 N (by omega)).trans c3) (show N<n6 by omega) (by omega) (by omega)
  (by rw[x1 _ (by omega),c7 _ (by omega) (by omega) (by omega) (by omega)]; exact p0) (show n<n6 by omega) (by omega) ((x1 _ (by omega)).trans c6) (show n+1+1+1+1<n6 by omega) (by omega) (c4.keep (x1 _ (by omega)))
theorem same_spread{H Hm:Hp}{n len:Nat}{v:Value}{rw_:Nat→Value}{R:Nat→List Int}(hr:Same H Hm)(h:SpreadJ H n v len rw_ R):SpreadJ Hm n v len rw_ R:=by
 obtain⟨h1,h2⟩:=h
 refine⟨?_,fun p hp=>(h2 p hp).imp (fun h=>same_list hr h) id⟩
 rcases h1 with h1 | ⟨b,o,cap,e,a,c⟩
 ·exact .inl h1
 ·exact .inr ⟨b,o,cap,e,a,hr _ _ _ c⟩
def RowsIn(R:Nat→List Int)(np:Nat):Prop:=∀ p,p<np→((R p).length=0∨(R p).length=np)∧∀ q,0≤(R p).getD q 0∧(R p).getD q 0≤1000000
theorem isGood_loop(l k:Nat){np nj nk b0:Nat}{ps js ks:List Int}{x y z u:Value}{rw_:Nat→Value}{R:Nat→List Int}{H0:Hp}{n0:Nat}(hg:GroveI H0 n0 (.agg ⟨[x,y,z]⟩) np nj nk ps js ks)(hv:SpreadJ H0 n0 u np rw_ R)(hR:RowsIn R np)(hnp:np≤1000)(hb:aW H0 b0 0 [x,y,z])(hb0:b0<n0) :
  ∀(m i:Nat) (H:Hp) (n:Nat),n0≤n→Keep n0 H0 H→i≤np→np-i≤m →
  ∃(r:Bool) (H':Hp) (n':Nat),S40_1 (cal (l+1)) k m u (.pointer (some ⟨b0,0,none⟩)) (.int .i64 i) H n=some (.bool r,H',n')∧n≤n'∧Keep n H H'∧(r=true↔∀ q,i≤q→q<np→ps.getD (q * 2) 0≤pw R np q∧pw R np q≤ps.getD (q * 2+1) 0):=by
 have body:∀(b1:Value→Value→Value→Hp→Nat→Res) (m i:Nat) (H:Hp) (n:Nat),n0≤n→Keep n0 H0 H→i≤np →
   (∀(H:Hp) (n:Nat),i<np→n0≤n→Keep n0 H0 H→∃(r:Bool) (H':Hp) (n':Nat),b1 u (.pointer (some ⟨b0,0,none⟩)) (.int .i64 ((i+1:Nat):Int)) H n=some (.bool r,H',n')∧n≤n'∧Keep n H H'∧(r=true↔∀ q,i+1≤q→q<np→ps.getD (q * 2) 0≤pw R np q∧pw R np q≤ps.getD (q * 2+1) 0)) →
   ∃(r:Bool) (H':Hp) (n':Nat),C40_1 (cal (l+1)) k m b1 u (.pointer (some ⟨b0,0,none⟩)) (.int .i64 i) H n=some (.bool r,H',n')∧n≤n'∧Keep n H H'∧(r=true↔∀ q,i≤q→q<np→ps.getD (q * 2) 0≤pw R np q∧pw R np q≤ps.getD (q * 2+1) 0):=by
  intro b1 m i H n hn hk hi ih
  obtain⟨x',y',z',hxyz,h1,h2,h3⟩:=hg.eq
  cases hxyz
  have hx:SliceI H n 2 x np ps:=(h1.keep hk (Nat.le_refl _)).up hn
  have hbH:aW H b0 0 [x,y,z]:=hb.keep hk hb0
  have lx:az P H 22 ⟨b0,0+0,none⟩=some x:=bq (k:=0) hbH Sj rfl h1.hole.1 h1.hole.2
  unfold C40_1 B40_1
  have hlen:lenV P 22 x=some (.int .i64 np):=hx.len_eq Mw
  rw[Fq,aj,ak,aj,lx,aj,hlen,aj,ax cJ,gw]
  by_cases hlt:i<np
  ·have hI1:I64 ((i:Int)+1):=by unfold I64; omega
   have hc1:((i:Int)+1)=((i+1:Nat):Int):=by omega
   obtain⟨pb,po,hix,hpb,hc⟩:=hx.at_ Mw sz95 hlt
   have gA:ps[i * 2]?=some (ps.getD (i * 2) 0):=getD_some (by rw[h1.1]; omega)
   have gB:ps[i * 2+1]?=some (ps.getD (i * 2+1) 0):=getD_some (by rw[h1.1]; omega)
   have lA:az P H 3 ⟨pb,po+i * 2+0,none⟩=some (.int .i64 (ps.getD (i * 2) 0)):=bj (k:=i * 2) hc agg3 (gQ gA)
   have lB:az P H 3 ⟨pb,po+i * 2+1,none⟩=some (.int .i64 (ps.getD (i * 2+1) 0)):=by
    have:=bj (P:=P) (k:=i * 2+1) hc agg3 (gQ gB)
    rw[show po+(i * 2+1)=po+i * 2+1 by omega] at this
    exact this
   have hvH:SpreadJ H n u np rw_ R:=hv.keep hk hn
   have hR':∀ p,p<np→(R p).length=0∨(i<(R p).length∧0≤(R p).getD i 0∧(R p).getD i 0≤1000000):=fun p hp=>by
    obtain⟨a,b⟩:=hR p hp
    rcases a with a | a
    ·exact .inl a
    ·exact .inr ⟨by omega,(b i).1,(b i).2⟩
   obtain⟨H1,n1,e1,e2,e3⟩:=effK_read (ρ:=Value × Hp × Nat) (ex:=[.l 3 ⟨pb,po+i * 2+1,none⟩,.l 22 ⟨b0,0+0,none⟩,.l 3 ⟨pb,po+i * 2+0,none⟩,.l 22 ⟨b0,0+0,none⟩]) (H:=H) (n:=n) (v:=.int .i64 (pw R np i))
    (op:=fun H n k=>aX P (cal (l+1)) 34 [u,.int .i64 i] H n fun v H n=>k v H n)
    (fun y hy=>by
     simp only[List.mem_cons,List.not_mem_nil,or_false] at hy
     rcases hy with rfl | rfl | rfl | rfl
     ·exact⟨_,_,rfl,hpb,Vw hc⟩
     ·exact⟨_,_,rfl,by show b0<n; omega,Vw hbH⟩
     ·exact⟨_,_,rfl,hpb,Vw hc⟩
     ·exact⟨_,_,rfl,by show b0<n; omega,Vw hbH⟩)
    (fun Hm hs=>by
     obtain⟨H2,n2,y1,y2,y3⟩:=young_callJ (ρ:=Value × Hp × Nat) l (pad:=i) (same_spread hs hvH) hnp hR'
     exact⟨H2,n2,fun k=>y1 k,y2,y3⟩)
   rw[if_pos (by omega),aj,ak,aj,lx,aj,hix,aj,fa95_0,aj,ak,aj,lA,aj,aj,ak,aj,lx,aj,hix,aj,fa95_1,aj,ak,aj,lB,aj,e1,DJ]
   cases hd:decide (ps.getD (i * 2) 0≤pw R np i∧pw R np i≤ps.getD (i * 2+1) 0) with
   | true=>
    have hd:=of_decide_eq_true hd
    obtain⟨r,H2,n2,f1,f2,f3,f4⟩:=ih H1 n1 hlt (by omega) (hk.trans e3 hn)
    rw[qK,aj,ez,ax (bk hI1),hc1]
    refine⟨r,H2,n2,f1,by omega,e3.trans f3 e2,f4.trans ⟨fun h q q1 q2=>?_,fun h q q1 q2=>h q (by omega) q2⟩⟩
    by_cases c:q=i
    ·rw[c]; exact hd
    ·exact h q (by omega) q2
   | false=>
    have hd:=of_decide_eq_false hd
    rw[tv,aj,fX]
    exact⟨false,H1,n1,rfl,e2,e3,⟨fun h=>(by cases h),fun h=>absurd (h i (Nat.le_refl _) hlt) hd⟩⟩
  ·rw[if_neg (by omega)]
   exact⟨true,H,n,rfl,Nat.le_refl _,Keep.refl _ _,⟨fun _ q h1 h2=>absurd h1 (by omega),fun _=>rfl⟩⟩
 intro m
 induction m with
 | zero=>
  intro i H n h1 h2 h3 h4
  exact body _ 0 i H n h1 h2 h3 (fun _ _ h=>by omega)
 | succ m ih=>
  intro i H n h1 h2 h3 h4
  exact body _ (m+1) i H n h1 h2 h3 (fun H n q1 q2 q3=>ih (i+1) H n q2 q3 (by omega) (by omega))
theorem call40(l:Nat)(a b:Value)(H:Hp)(n:Nat):(cal (l+1)).call 40 [a,b] H n=C40_0 (cal l) KK a b H n:=by kernel_rfl
theorem isGood_callJ(l:Nat){np nj nk:Nat}{ps js ks:List Int}{v u:Value}{rw_:Nat→Value}{R:Nat→List Int}{H:Hp}{n:Nat}(hg:GroveI H n v np nj nk ps js ks)(hv:SpreadJ H n u np rw_ R)(hR:RowsIn R np)(hnp:np≤1000)(hne:bw u=false) :
  ∃(r:Bool) (H':Hp) (n':Nat),(r=true↔GJ ps R np)∧(∀ k:Value→Hp→Nat→Option ρ,aX P (cal (l+2)) 40 [v,u] H n k=k (.bool r) H' n')∧n≤n'∧Keep n H H':=by
 obtain⟨x,y,z,rfl,h1,h2,h3⟩:=hg.eq
 have hk:Keep n H (H.set n (some (.cells [x,y,z] 26 false none))):=(Keep.refl n H).set (Nat.le_refl _) _
 have hb:aW (H.set n (some (.cells [x,y,z] 26 false none))) n 0 [x,y,z]:=aW.new
 obtain⟨r,H',n',e1,e2,e3,e4⟩:=isGood_loop l KK (hg.keep hk (show n≤n+1 by omega)) (hv.keep hk (show n≤n+1 by omega)) hR hnp hb (by omega) KK 0 _ (n+1) (Nat.le_refl _) (Keep.refl _ _) (Nat.zero_le _) (by unfold KK; omega)
 refine⟨r,H',n',e4.trans ⟨fun h p hp=>h p (Nat.zero_le _) hp,fun h p _ hp=>h p hp⟩,fun k=>?_,by omega,hk.trans (e3.le (by omega)) (Nat.le_refl _)⟩
 unfold aX
 have:(iY P 40 && ck [.agg ⟨[x,y,z]⟩,u])=false:=by rw[Bool.and_eq_false_iff]; exact .inr (by simp [ck,hne])
 rw[this,show l+2=(l+1)+1 by omega,call40]
 unfold C40_0 B40_0
 rw[dZ]
 simp only[aZ,ptr]
 exact congrArg (fun o=>aq o fun r=>k r.1 r.2.1 r.2.2) e1
theorem laid_bounded{np nj nk:Nat}{ps js ks ls:List Int}(good:Good np nj nk ps js ks)(hls:ls.length=np)(hok:nQ js ks ls nj np nk) :
  (∀ p,isN (ej ls np) p→iW (sL js ks (ej ls np) nj np p))∧∀ p,isN (ej ls np) p→0≤yL ks (ej ls np) p∧yL ks (ej ls np) p≤1000:=by
 have key:∀ p,isN (ej ls np) p→p<np∧∃ kd:Nat,(ej ls np).getD p 0=kd∧kd<nk:=fun p hp=>by
  have hpn:p<np:=Classical.byContradiction fun c=>hp.2 (IK hls (by omega) hp.1)
  refine⟨hpn,?_⟩
  have e:=IZ hls hpn
  have hne:=hp.2
  rw[e] at hne ⊢
  rcases hok p hpn with h | h
  ·exact absurd h hne
  ·obtain⟨t1,t2,_⟩:=h
   exact⟨(ls.getD p 0).toNat,by omega,by omega⟩
 refine⟨fun p hp=>?_,fun p hp=>?_⟩
 ·obtain⟨h1,kd,h2,h3⟩:=key p hp
  unfold sL
  rw[h2,Int.toNat_natCast]
  exact CX good.kinds h3 good.np8 h1
 ·obtain⟨h1,kd,h2,h3⟩:=key p hp
  unfold yL
  rw[h2,Int.toNat_natCast]
  exact(good.kinds kd h3).1
theorem pads_range{np nj nk:Nat}{ps js ks:List Int}(good:Good np nj nk ps js ks):∀ q,q<np→(0≤ps.getD (q * 2) 0∧ps.getD (q * 2) 0≤ps.getD (q * 2+1) 0∧ps.getD (q * 2+1) 0≤100000):=by
 intro q hq
 have:¬ PBad ps q:=fun h=>good.ok (.inl ⟨q,hq,h⟩)
 unfold PBad at this
 omega
def ShowOut(js ks ps L:List Int)(nj np:Nat)(r:Value)(H':Hp)(n':Nat):Prop:=
 (∃ u rw_ m2,r=.tuple ⟨[u,.int .i64 0]⟩∧bw u=false∧fq H' n' u np rw_ (oZ js ks L nj np m2)∧Sending js ks ps L nj np (fun p q=>if p<8∧q<8 then m2 (8+q) p else 0)) ∨
 (r=.tuple ⟨[.slice none 0 0,.int .i64 9]⟩∧∃(A B:Nat→Bool) (b e:Bool),(b=true→e=true)∧canC js ks ps L nj np A B b e<wk js ks ps L nj np A B b e)
theorem Show_spec(l:Nat){np nj nk nl:Nat}{ps js ks ls:List Int}{H:Hp}{n:Nat}{v w:Value}(hg:kq H n v np nj nk ps js ks)(hw:ListR H n w nl ls)(hnp:np≤1000)(hnj:nj≤1000)(hnk:nk≤1000)(hjs:js.length=nj * 2) :
  (gX np nj nk nl ps js ks ls≠0→Ret (C37_0 (cal (l+25)) KK v w H n) n H (.tuple ⟨[.slice none 0 0,.int .i64 (gX np nj nk nl ps js ks ls)]⟩)) ∧
  (gX np nj nk nl ps js ks ls=0→∃ r H' n',C37_0 (cal (l+25)) KK v w H n=some (r,H',n')∧n≤n'∧Keep n H H'∧ShowOut js ks ps (ej ls np) nj np r H' n'):=by
 have hg0:=hg
 obtain⟨x,y,z,rfl,h1,h2,h3⟩:=hg
 unfold C37_0 B37_0
 rw[dZ]
 simp only[aZ,ptr]
 have hk:Keep n H (H.set n (some (.cells [x,y,z] 35 false none))):=(Keep.refl n H).set (Nat.le_refl _) _
 have hb:aW (H.set n (some (.cells [x,y,z] 35 false none))) n 0 [x,y,z]:=aW.new
 generalize H.set n (some (.cells [x,y,z] 35 false none))=H1 at hk hb ⊢
 have lg:az P H1 35 ⟨n,0,none⟩=some (.agg ⟨[x,y,z]⟩):=cw (o:=0) (k:=0) hb UZ sz35 (by simp) (by simp [h1.hole.1,h2.hole.1,h3.hole.1])
 obtain⟨o1,o2⟩:=openLaid_spec (l+18) (hg0.keep hk (show n≤n+1 by omega)) (hw.keep hk (show n≤n+1 by omega)) hnp hnj hnk
 rw[ak,aj,lg,aj,show l+25=l+18+7 by omega,openLaid_call]
 constructor
 ·intro hne
  obtain⟨H2,n2,e1,e2,e3⟩:=o1 hne
  have t0:tupV (.tuple ⟨[.pointer none,.agg ⟨ints (List.replicate 8 0)⟩,.int .i64 (gX np nj nk nl ps js ks ls)]⟩) 0=some (.pointer none):=rfl
  have t1:tupV (.tuple ⟨[.pointer none,.agg ⟨ints (List.replicate 8 0)⟩,.int .i64 (gX np nj nk nl ps js ks ls)]⟩) 1=some (.agg ⟨ints (List.replicate 8 0)⟩):=rfl
  have t2:tupV (.tuple ⟨[.pointer none,.agg ⟨ints (List.replicate 8 0)⟩,.int .i64 (gX np nj nk nl ps js ks ls)]⟩) 2=some (.int .i64 (gX np nj nk nl ps js ks ls)):=rfl
  obtain⟨H3,k1,k2,k3⟩:=vk (P:=P) (ρ:=Value × Hp × Nat) (H:=H2) (n:=n2) (L:=ints (List.replicate 8 0)) Qx rfl zv rfl (kJ _)
  rw[e1,aj,t0,aj,t1,aj,t2,aj,k3,ax iV,decide_eq_false hne,Bool.not_false,fX]
  exact⟨H3,n2+1,rfl,by omega,(hk.trans e3 (by omega)).trans k1 (by omega)⟩
 ·intro he
  obtain⟨⟨g,x',y',z',f,H2,n2,e1,e2,e3,e4,e5,e6,e7,e8,e9⟩,hnl,hok,hft⟩:=o2 he
  simp only[Value.agg.injEq,Array.mk.injEq,List.cons.injEq,and_true] at e6
  obtain⟨rfl,rfl,rfl⟩:=e6
  have good:=Qw hft
  subst hnl
  have l8:=Qy hw.1 good.np8
  have lens:(ints (ej ls nl)).length=8:=by rw[bv,l8]
  have t0:tupV (.tuple ⟨[.pointer (some ⟨g,0,none⟩),.agg ⟨ints (ej ls nl)⟩,.int .i64 0]⟩) 0=some (.pointer (some ⟨g,0,none⟩)):=rfl
  have t1:tupV (.tuple ⟨[.pointer (some ⟨g,0,none⟩),.agg ⟨ints (ej ls nl)⟩,.int .i64 0]⟩) 1=some (.agg ⟨ints (ej ls nl)⟩):=rfl
  have t2:tupV (.tuple ⟨[.pointer (some ⟨g,0,none⟩),.agg ⟨ints (ej ls nl)⟩,.int .i64 0]⟩) 2=some (.int .i64 0):=rfl
  have d0:decide ((0:Int)=0)=true:=rfl
  obtain⟨H3,k1,k2,k3⟩:=vk (P:=P) (ρ:=Value × Hp × Nat) (H:=H2) (n:=n2) (L:=ints (ej ls nl)) Qx rfl zv lens (kJ _)
  have kk:Keep n H H3:=fun b hb=>by rw[k1 b (by omega),e3 b (by omega),hk b hb]
  obtain⟨hSb,hy⟩:=laid_bounded good hw.1 hok
  have gp:=pads_range good
  obtain⟨r,H4,n4,s1,s2,s3,s4⟩:=goodSpread_call (ρ:=Value × Hp × Nat) l (qmx good hjs hw.1 hok) hSb hy (fun q hq=>(gp q hq).2.1) (fun q hq=>by have:=gp q hq; omega) (show g<n2+1 by omega) (e7.keep k1 e5) e8 ((h1.keep kk (Nat.le_refl _)).up (show n≤n2+1 by omega)) e9 good.kinds (by have:=good.np1; omega) good.nk3 l8 (laid_kinds hw.1 hok)
  rw[e1,aj,t0,aj,t1,aj,t2,aj,k3,ax iV,d0,Bool.not_true,ez,ak,aj,fY k2 Fk zv lens,aj,show l+18+7=l+25 by omega,s1]
  rcases s4 with⟨u,rw_,m2,rfl,q2,q3,q4⟩ | ⟨rfl,q2⟩
  ·have u0:tupV (.tuple ⟨[u,.bool true]⟩) 0=some u:=rfl
   have u1:tupV (.tuple ⟨[u,.bool true]⟩) 1=some (.bool true):=rfl
   rw[u0,aj,u1,aj,qK,aj,ez]
   exact⟨_,H4,n4,rfl,by omega,fun b hb=>by rw[s3 b (by omega),kk b hb],.inl ⟨u,rw_,m2,rfl,q2,q3,q4⟩⟩
  ·have u0:tupV (.tuple ⟨[.slice none 0 0,.bool false]⟩) 0=some (.slice none 0 0):=rfl
   have u1:tupV (.tuple ⟨[.slice none 0 0,.bool false]⟩) 1=some (.bool false):=rfl
   rw[u0,aj,u1,aj,tv,aj,fX]
   exact⟨_,H4,n4,rfl,by omega,fun b hb=>by rw[s3 b (by omega),kk b hb],.inr ⟨rfl,q2⟩⟩
end Go.Proofs.Ytmjbdjnnojfhkaa.spec
end
section
namespace Go.Proofs.Ytmjbdjnnojfhkaa.spec
open Go Go.Ev Go.Proofs.Ytmjbdjnnojfhkaa.nestFits Go.Proofs.Ytmjbdjnnojfhkaa.G
set_option maxRecDepth 100000
theorem sent_at{js ks L:List Int}{nj np p o:Nat}{m:Net}(hN:isN L p)(ho:o<np):(oZ js ks L nj np m p).getD o 0=(sL js ks L nj np p).getD (o * 2) 0+m (8+o) p:=by
 unfold oZ
 rw[if_pos hN,List.getD_eq_getElem?_getD,List.getElem?_map,List.getElem?_range ho]
 rfl
theorem sent_good{js ks ps L:List Int}{nj np:Nat}{m:Net}(ok:LaidNests js ks L nj np)(hSb:∀ p,isN L p→iW (sL js ks L nj np p))(hout:∀ p,isN L p→p<np)(h:Sending js ks ps L nj np (fun p q=>if p<8∧q<8 then m (8+q) p else 0)) :
  (∀ p,p<np→wy js ks L nj np (oZ js ks L nj np m) p)∧GJ ps (oZ js ks L nj np m) np∧RowsIn (oZ js ks L nj np m) np:=by
 have np8:=ok.np8
 obtain⟨T,hT⟩:∃ T:Nat→Nat→Int,T=fun p q=>if p<8∧q<8 then m (8+q) p else 0:=⟨_,rfl⟩
 rw[← hT] at h
 have Tm:∀ p q,p<8→q<8→T p q=m (8+q) p:=fun p q hp hq=>by rw[hT]; exact if_pos ⟨hp,hq⟩
 have within:∀ p,isN L p→∀ o,o<np→(sL js ks L nj np p).getD (o * 2) 0≤(oZ js ks L nj np m p).getD o 0∧(oZ js ks L nj np m p).getD o 0≤(sL js ks L nj np p).getD (o * 2+1) 0:=fun p hp o ho=>by
  rw[sent_at hp ho,← Tm p o hp.1 (by omega)]
  have a:=h.ge p o
  have b:=h.le p o
  unfold wL at b
  rw[if_pos hp] at b
  omega
 refine⟨fun p hp=>?_,fun q hq=>?_,fun p hp=>?_⟩
 ·unfold wy
  by_cases c:L.getD p 0=-1
  ·rw[if_pos c]
   unfold oZ
   rw[if_neg (fun h':isN L p=>h'.2 c)]
   rfl
  ·have hN:isN L p:=⟨by omega,c⟩
   rw[if_neg c]
   refine⟨?_,fun o ho=>within p hN o ho,?_⟩
   ·unfold oZ
    rw[if_pos hN]
    simp
   ·have e:ay (fun o=>(oZ js ks L nj np m p).getD o 0) np=ay (fun o=>(sL js ks L nj np p).getD (o * 2) 0) np+ay (T p) np:=by
     rw[← cK]
     exact bz fun o ho=>by rw[sent_at hN ho,Tm p o hN.1 (by omega)]
    have e1:ay (fun o=>(sL js ks L nj np p).getD (o * 2) 0) 8=ay (fun o=>(sL js ks L nj np p).getD (o * 2) 0) np:=oy np8 fun o ho _=>(ok.far p hN o ho).1
    have e2:ay (T p) 8=ay (T p) np:=oy np8 fun o ho _=>sending_far ok h.ge h.le ho
    have r:=h.row p hN.1
    unfold cX at r
    rw[if_pos hN] at r
    have t:total (sL js ks L nj np p) 0=ay (fun o=>(sL js ks L nj np p).getD (o * 2) 0) 8:=rfl
    rw[e,← e1,← e2]
    show _=yL ks L p
    omega
 ·have e:pw (oZ js ks L nj np m) np q=lowL js ks L nj np q 8+ay (fun p=>T p q) 8:=by
   unfold pw lowL
   have e0:ay (fun p=>(oZ js ks L nj np m p).getD q 0) 8=ay (fun p=>(oZ js ks L nj np m p).getD q 0) np:=oy np8 fun p hp _=>by
    unfold oZ
    rw[if_neg (fun h'=>by have:=hout p h'; omega)]
    rfl
   rw[← e0,← cK]
   refine bz fun p hp=>?_
   by_cases c:isN L p
   ·rw[if_pos c,sent_at c hq,Tm p q hp (by omega)]
   ·rw[if_neg c]
    have a:=h.ge p q
    have b:=h.le p q
    unfold wL at b
    rw[if_neg c] at b
    unfold oZ
    rw[if_neg c]
    show(0:Int)=0+T p q
    omega
  rw[e]
  exact h.col q hq
 ·by_cases c:isN L p
  ·refine⟨.inr ?_,fun q=>?_⟩
   ·unfold oZ
    rw[if_pos c]
    simp
   ·by_cases hq:q<np
    ·have w:=within p c q hq
     have b1:=hSb p c (q * 2)
     have b2:=hSb p c (q * 2+1)
     omega
    ·have:(oZ js ks L nj np m p).getD q 0=0:=by
      rw[List.getD_eq_getElem?_getD,List.getElem?_eq_none]
      ·rfl
      ·unfold oZ
       rw[if_pos c]
       simp; omega
     rw[this]
     omega
  ·have e:oZ js ks L nj np m p=[]:=if_neg c
   rw[e]
   exact⟨.inl rfl,fun q=>by simp⟩
theorem QV{ls:List Int}{np p:Nat}(h:ls.length=np)(hp:isN (ej ls np) p):p<np:=Classical.byContradiction fun c=>hp.2 (IK h (by omega) hp.1)
theorem bI_zero(m:Nat):bI m 0=((m % 2:Nat):Int):=rfl
theorem bI_succ(m i:Nat):bI m (i+1)=bI (m / 2) i:=by
 unfold bI
 rw[Nat.shiftRight_eq_div_pow,Nat.shiftRight_eq_div_pow,Nat.div_div_eq_div_mul,Nat.pow_succ,Nat.mul_comm]
theorem mask_of:∀(K:Nat) (f:Nat→Bool),∃ m,m<2 ^ K∧∀ i,i<K→bI m i=if f i=true then 1 else 0
 | 0,_=>⟨0,by simp,fun i h=>absurd h (by omega)⟩
 | K+1,f=>by
  obtain⟨m,h1,h2⟩:=mask_of K (fun i=>f (i+1))
  obtain⟨d,hd,hd2⟩:∃ d:Nat,d<2∧(d:Int)=if f 0=true then 1 else 0:=by
   by_cases h:f 0=true
   ·exact⟨1,by omega,by rw[if_pos h]; rfl⟩
   ·exact⟨0,by omega,by rw[if_neg h]; rfl⟩
  refine⟨2 * m+d,by rw[Nat.pow_succ]; omega,fun i hi=>?_⟩
  cases i with
  | zero=>
   rw[bI_zero,show(2 * m+d) % 2=d by omega]
   exact hd2
  | succ i=>
   rw[bI_succ,show(2 * m+d) / 2=m by omega]
   exact h2 i (by omega)
theorem AX{f g:Nat→Int}{n:Nat}(h:∀ i,i<n→f i=g i):∀ {k:Nat},(∀ i,n≤i→f i=0)→ay f (n+k)=ay g n
 | 0,_=>bz h
 | k+1,h0=>by
  have ih:=AX h (k:=k) h0
  rw[show n+(k+1)=(n+k)+1 by omega]
  simp only[ay]
  rw[ih,h0 (n+k) (by omega)]
  omega
theorem VQ{js ks ls:List Int}{nj np nk:Nat}(hls:ls.length=np)(hok:nQ js ks ls nj np nk)(np8:np≤8){p:Nat}(hp:p<np):(isN (ej ls np) p↔¬ ls.getD p 0<0)∧(ej ls np).getD p 0=ls.getD p 0:=by
 have e:(ej ls np).getD p 0=ls.getD p 0:=IZ hls hp
 refine⟨?_,e⟩
 unfold isN
 rw[e]
 rcases hok p hp with q | ⟨q,_,_⟩
 ·omega
 ·omega
theorem Dj{np nj nk:Nat}{ps js ks ls:List Int}(good:Good np nj nk ps js ks)(hjs:js.length=nj * 2)(hls:ls.length=np)(hok:nQ js ks ls nj np nk){mask:Nat}{A B:Nat→Bool}{b e:Bool}
  (hA:∀ p,p<np→bI mask p=if A p=true then 1 else 0) (hB:∀ o,o<np→bI mask (np+o)=if B o=true then 1 else 0) (hb:bI mask (2 * np)=if b=true then 1 else 0) (he:bI mask (2 * np+1)=if e=true then 1 else 0) :
  mustI js ks ps ls nj np mask=wk js ks ps (ej ls np) nj np A B b e∧canI js ks ps ls nj np mask=canC js ks ps (ej ls np) nj np A B b e:=by
 have np8:=good.np8
 have ok:=qmx good hjs hls hok
 have hin:=good.inner hjs
 have sh:∀ p,p<np→¬ ls.getD p 0<0→∀ q:Nat,(sL js ks (ej ls np) nj np p).getD (q * 2) 0=(cq js ks nj (ls.getD p 0).toNat (p:Int) (q:Int)).1∧(sL js ks (ej ls np) nj np p).getD (q * 2+1) 0=(cq js ks nj (ls.getD p 0).toNat (p:Int) (q:Int)).2:=fun p hp hn q=>by
  unfold sL
  rw[(VQ hls hok np8 hp).2]
  exact uv hin np8 hp q
 obtain⟨d,hd⟩:∃ d,np+d=8:=⟨8-np,by omega⟩
 unfold mustI canI wk canC
 rw[hb,he,← hd]
 refine⟨?_,?_⟩
 ·congr 1
  ·symm
   refine AX (fun p hp=>?_) (fun p hp=>if_neg fun h=>absurd (QV hls h) (by omega))
   obtain⟨l1,l2⟩:=VQ hls hok np8 hp
   unfold mI
   by_cases hn:ls.getD p 0<0
   ·rw[if_pos hn,if_neg (fun h=>l1.1 h hn)]
   ·rw[if_neg hn,if_pos (l1.2 hn)]
    congr 1
    ·unfold yL
     rw[l2,hA p hp]
     cases b <;> cases hAp:A p <;> simp
    ·refine AX (fun q hq=>?_) (fun q hq=>?_)
     ·rw[(sh p hp hn q).1]
      unfold muI
      rw[hA p hp,hB q hq]
      cases A p <;> cases B q <;> simp
     ·rw[(ok.far p (l1.2 hn) q hq).1]
      split <;> rfl
  ·symm
   refine AX (fun q hq=>?_) (fun q hq=>if_neg fun h=>absurd h.1 (by omega))
   unfold nI
   rw[hB q hq]
   cases B q <;> cases e <;> simp [hq]
 ·congr 1
  ·symm
   refine AX (fun p hp=>?_) (fun p hp=>if_neg fun h=>absurd (QV hls h) (by omega))
   obtain⟨l1,l2⟩:=VQ hls hok np8 hp
   unfold cI
   by_cases hn:ls.getD p 0<0
   ·rw[if_pos hn,if_neg (fun h=>l1.1 h hn)]
   ·rw[if_neg hn,if_pos (l1.2 hn)]
    congr 1
    ·unfold yL
     rw[l2,hA p hp]
     cases b <;> cases hAp:A p <;> simp
    ·refine AX (fun q hq=>?_) (fun q hq=>?_)
     ·rw[(sh p hp hn q).2]
      unfold caI
      rw[hA p hp,hB q hq]
      cases A p <;> cases B q <;> simp
     ·rw[(ok.far p (l1.2 hn) q hq).2]
      split <;> rfl
  ·symm
   refine AX (fun q hq=>?_) (fun q hq=>if_neg fun h=>absurd h.1 (by omega))
   unfold rI
   rw[hB q hq]
   cases B q <;> cases e <;> simp [hq]
theorem cuts_iff{np nj nk:Nat}{ps js ks ls:List Int}(good:Good np nj nk ps js ks)(hjs:js.length=nj * 2)(hls:ls.length=np)(hok:nQ js ks ls nj np nk) :
  (∀ j,j<2 ^ (2 * np+2)→NW js ks ps ls nj np j)↔∀(A B:Nat→Bool) (b e:Bool),(b=true→e=true)→wk js ks ps (ej ls np) nj np A B b e≤canC js ks ps (ej ls np) nj np A B b e:=by
 constructor
 ·intro h A B b e hbe
  obtain⟨m,h1,h2⟩:=mask_of (2 * np+2) (fun i=>if i<np then A i else if i<2 * np then B (i-np) else if i=2 * np then b else e)
  have hA:∀ p,p<np→bI m p=if A p=true then 1 else 0:=fun p hp=>by
   rw[h2 p (by omega)]
   simp only[if_pos hp]
  have hB:∀ o,o<np→bI m (np+o)=if B o=true then 1 else 0:=fun o ho=>by
   rw[h2 (np+o) (by omega)]
   simp only[if_neg (show ¬ np+o<np by omega),if_pos (show np+o<2 * np by omega),show np+o-np=o by omega]
  have hb:bI m (2 * np)=if b=true then 1 else 0:=by
   rw[h2 (2 * np) (by omega)]
   simp only[if_neg (show ¬ 2 * np<np by omega),if_neg (show ¬ 2 * np<2 * np by omega),if_true]
  have he:bI m (2 * np+1)=if e=true then 1 else 0:=by
   rw[h2 (2 * np+1) (by omega)]
   simp only[if_neg (show ¬ 2 * np+1<np by omega),if_neg (show ¬ 2 * np+1<2 * np by omega),if_neg (show ¬ 2 * np+1=2 * np by omega)]
  obtain⟨c1,c2⟩:=Dj (A:=A) (B:=B) (b:=b) (e:=e) (ps:=ps) good hjs hls hok hA hB hb he
  rw[← c1,← c2]
  refine h m h1 fun⟨x1,x2⟩=>?_
  rw[hb] at x1
  rw[he] at x2
  cases b with
  | false=>simp at x1
  | true=>rw[hbe rfl] at x2; simp at x2
 ·intro h j hj hc
  have bit:∀ i,bI j i=if decide (bI j i=1)=true then 1 else 0:=fun i=>by
   rcases bI01 j i with a | a <;> rw[a] <;> simp
  obtain⟨c1,c2⟩:=Dj (A:=fun p=>decide (bI j p=1)) (B:=fun o=>decide (bI j (np+o)=1)) (b:=decide (bI j (2 * np)=1)) (e:=decide (bI j (2 * np+1)=1)) (ps:=ps) good hjs hls hok (fun p _=>bit p) (fun o _=>bit (np+o)) (bit _) (bit _)
  rw[c1,c2]
  refine h _ _ _ _ fun hb=>?_
  have hb:=of_decide_eq_true hb
  refine decide_eq_true ?_
  rcases bI01 j (2 * np+1) with a | a
  ·exact absurd ⟨hb,a⟩ hc
  ·exact a
end Go.Proofs.Ytmjbdjnnojfhkaa.spec
end
section
namespace Go.Proofs.Ytmjbdjnnojfhkaa.spec
open Go Go.Ev Go.Proofs.Ytmjbdjnnojfhkaa.nestFits Go.Proofs.Ytmjbdjnnojfhkaa.G
set_option maxRecDepth 100000
variable {ρ:Type}
def shortR(len:Nat)(R:Nat→List Int):Prop:=len≤11∧∀ p,p<len→(R p).length≤11
theorem short_loop(c:Cal)(k:Nat){len:Nat}{H:Hp}{n:Nat}{v:Value}{rw_:Nat→Value}{R:Nat→List Int}(hv:SpreadJ H n v len rw_ R):∀(m i:Nat),i≤len→i≤12→12-i≤m →
  ∃ r:Bool,S36_1 c k m v (.int .i64 i) H n=some (.bool r,H,n)∧(r=true↔len≤11∧∀ p,i≤p→p<len→p<12→(R p).length≤11):=by
 have body:∀(b1:Value→Value→Hp→Nat→Res) (m i:Nat),i≤len→i≤12→(i<len→i<12→∃ r:Bool,b1 v (.int .i64 ((i+1:Nat):Int)) H n=some (.bool r,H,n)∧(r=true↔len≤11∧∀ p,i+1≤p→p<len→p<12→(R p).length≤11)) →
   ∃ r:Bool,C36_1 c k m b1 v (.int .i64 i) H n=some (.bool r,H,n)∧(r=true↔len≤11∧∀ p,i≤p→p<len→p<12→(R p).length≤11):=by
  intro b1 m i hi h12 ih
  have stop:¬ (i<len∧i<12)→∃ r:Bool,(aq (lenV P 59 v) fun v_v=>binK P .leq 3 (Operand.tmp 21) (Operand.const (Value.int IntKind.i64 11)) v_v (Value.int IntKind.i64 11) fun v_w=>some (v_w,H,n))=some (.bool r,H,n)∧(r=true↔len≤11∧∀ p,i≤p→p<len→p<12→(R p).length≤11):=fun hs=>by
   rw[hv.len_eq,aj,ax wW]
   refine⟨_,rfl,?_⟩
   rw[decide_eq_true_eq]
   exact⟨fun h=>⟨by omega,fun p q1 q2 q3=>by omega⟩,fun h=>by have:=h.1; omega⟩
  unfold C36_1 B36_1
  rw[hv.len_eq,aj,ax cJ]
  by_cases hlt:i<len
  ·rw[decide_eq_true (show(i:Int)<(len:Int) by omega),dk]
   dsimp only
   rw[dk,ax cJ]
   dsimp only
   rw[dw,aj,gw]
   by_cases h2:i<12
   ·have hI:I64 ((i:Int)+1):=by unfold I64; omega
    have hcast:((i:Int)+1)=((i+1:Nat):Int):=by omega
    obtain⟨sb,so,s1,_,s3⟩:=hv.at_ hlt
    rw[if_pos (by omega),s1,aj,ak,aj,s3,aj,(hv.2 i hlt).len_eq,aj,ax wX,gw]
    by_cases h3:11<(R i).length
    ·rw[if_pos (by omega)]
     exact⟨false,rfl,⟨fun h=>(by cases h),fun h=>absurd (h.2 i (Nat.le_refl _) hlt h2) (by omega)⟩⟩
    ·rw[if_neg (by omega),ax (bk hI),hcast]
     obtain⟨r,e1,e2⟩:=ih hlt h2
     refine⟨r,e1,e2.trans ⟨fun h=>⟨h.1,fun p q1 q2 q3=>?_⟩,fun h=>⟨h.1,fun p q1 q2 q3=>h.2 p (by omega) q2 q3⟩⟩⟩
     rcases Nat.eq_or_lt_of_le q1 with e | e
     ·subst e; omega
     ·exact h.2 p e q2 q3
   ·rw[if_neg (by omega)]
    have:=stop (by omega)
    rw[hv.len_eq] at this
    exact this
  ·rw[decide_eq_false (show ¬ (i:Int)<(len:Int) by omega),eJ,eJ,dQ,aj,ez]
   have:=stop (by omega)
   rw[hv.len_eq] at this
   exact this
 intro m
 induction m with
 | zero=>intro i h1 h2 h3; exact body _ 0 i h1 h2 (fun _ h=>absurd h (by omega))
 | succ m ih=>intro i h1 h2 h3; exact body _ (m+1) i h1 h2 (fun h h'=>ih (i+1) (by omega) (by omega) (by omega))
theorem call36(l:Nat)(a:Value)(H:Hp)(n:Nat):(cal (l+1)).call 36 [a] H n=C36_0 (cal l) KK a H n:=by kernel_rfl
theorem short_call(l:Nat){len:Nat}{H:Hp}{n:Nat}{v:Value}{rw_:Nat→Value}{R:Nat→List Int}(hv:SpreadJ H n v len rw_ R) :
  ∃(r:Bool) (H':Hp) (n':Nat),(r=true↔shortR len R)∧(∀ k:Value→Hp→Nat→Option ρ,aX P (cal (l+1)) 36 [v] H n k=k (.bool r) H' n')∧n≤n'∧Keep n H H':=by
 obtain⟨r,H',n',⟨b,rfl,hb⟩,e1,e2,e3⟩:=eZ (ρ:=ρ) (P:=P) (cal:=cal (l+1)) (f:=36) (args:=[v]) (H:=H) (n:=n)
  (Pre:=fun H n=>SpreadJ H n v len rw_ R) (Q:=fun r=>∃ b:Bool,r=.bool b∧(b=true↔shortR len R))
  (fun H n hv=>by
   obtain⟨r,h1,h2⟩:=short_loop (cal l) KK hv KK 0 (Nat.zero_le _) (Nat.zero_le _) (by unfold KK; omega)
   refine⟨.bool r,⟨H,n,?_,Nat.le_refl _,Keep.refl _ _⟩,r,rfl,h2.trans ⟨fun h=>⟨h.1,fun p hp=>h.2 p (Nat.zero_le _) hp (by have:=h.1; omega)⟩,fun h=>⟨h.1,fun p _ hp _=>h.2 p hp⟩⟩⟩
   rw[call36]
   unfold C36_0 B36_0
   exact h1) (fun r ⟨b,e,_⟩ _=>by subst e; rfl) hv (fun hp=>by
    simp only[ck,Bool.and_eq_true] at hp
    have h0:=hv.nil hp.1
    subst h0
    refine⟨?_,fun p h=>absurd h (by omega)⟩
    rcases hv.1 with⟨e,_⟩ | ⟨b,o,cap,e,_⟩
    ·exact .inl ⟨e,rfl⟩
    ·rw[e] at hp; simp [bw] at hp)
 exact⟨b,H',n',hb,e1,e2,e3⟩
def few(np nj nk nl:Nat)(ps js ks:List Int):Prop:=thin np nj nk nl∧(iq np nj nk ps js ks≠0∨np≤6)
theorem few_spec(l:Nat){np nj nk nl:Nat}{ps js ks ls:List Int}{H:Hp}{n:Nat}{v w:Value}(hg:GroveI H n v np nj nk ps js ks)(hw:ListR H n w nl ls) :
  ∃ r,Ret (C35_0 (cal (l+3)) KK v w H n) n H (.bool r)∧(r=true↔few np nj nk nl ps js ks):=by
 have hg0:=hg
 obtain⟨x,y,z,rfl,h1,h2,h3⟩:=hg.eq
 unfold C35_0 B35_0
 rw[dZ]
 simp only[aZ,ptr]
 have hk:Keep n H (H.set n (some (.cells [x,y,z] 26 false none))):=(Keep.refl n H).set (Nat.le_refl _) _
 have hb:aW (H.set n (some (.cells [x,y,z] 26 false none))) n 0 [x,y,z]:=aW.new
 generalize H.set n (some (.cells [x,y,z] 26 false none))=H1 at hk hb ⊢
 have ld:∀ H2,aW H2 n 0 [x,y,z]→az P H2 26 ⟨n,0,none⟩=some (.agg ⟨[x,y,z]⟩):=fun H2 h=>KV h h1.hole.1 h2.hole.1 h3.hole.1
 obtain⟨t,H2,n2,t1,t2,t3,t4⟩:=thin_call (ρ:=Value × Hp × Nat) (l+2) (hg0.keep hk (show n≤n+1 by omega)) (hw.keep hk (show n≤n+1 by omega)).len_eq
 rw[ak,aj,ld H1 hb,aj,t2]
 have k2:Keep n H H2:=hk.trans t4 (by omega)
 have hb2:=hb.keep t4 (show n<n+1 by omega)
 cases t with
 | false=>
  have ht:¬ thin np nj nk nl:=fun h=>by have:=t1.2 h; cases this
  simp only[eJ,jk,dQ,aj]
  exact⟨false,⟨H2,n2,rfl,by omega,k2⟩,⟨fun h=>(by cases h),fun h=>absurd h.1 ht⟩⟩
 | true=>
  have ht:=t1.1 rfl
  obtain⟨H3,n3,f1,f2,f3⟩:=ref_call (ρ:=Value × Hp × Nat) l (hg0.keep k2 (show n≤n2 by omega))
  have k3:Keep n H H3:=k2.trans f3 (by omega)
  have hb3:=hb2.keep f3 (show n<n2 by omega)
  have lx:az P H3 22 ⟨n,0+0,none⟩=some x:=bq (k:=0) hb3 Sj rfl h1.hole.1 h1.hole.2
  have hlen:lenV P 22 x=some (.int .i64 np):=h1.len_eq Mw
  simp only[dk,aj,ld H2 hb2,f1,ax iV]
  cases hd:decide (iq np nj nk ps js ks=0) with
  | false=>
   have hd:=of_decide_eq_false hd
   simp only[Bool.not_false,nw,dw,aj]
   exact⟨true,⟨_,_,rfl,by omega,k3⟩,⟨fun _=>⟨ht,.inl hd⟩,fun _=>rfl⟩⟩
  | true=>
   have hd:=of_decide_eq_true hd
   simp only[Bool.not_true,nq,Fq,aj,ak,lx,hlen,ax wW,dQ,dw]
   refine⟨_,⟨_,_,rfl,by omega,k3⟩,?_⟩
   rw[decide_eq_true_eq]
   exact⟨fun h=>⟨ht,.inr (by omega)⟩,fun h=>by rcases h.2 with q | q; exact absurd hd q; omega⟩
theorem pad_row{np nj nk p:Nat}{ps js ks ls:List Int}(good:Good np nj nk ps js ks)(hjs:js.length=nj * 2)(hls:ls.length=np)(hok:nQ js ks ls nj np nk)(R:Nat→List Int)(hp:p<np) :
  wy js ks (ej ls np) nj np R p↔wx js ks nj np p (ls.getD p 0) (R p):=by
 have np8:=good.np8
 obtain⟨l1,l2⟩:=VQ hls hok np8 hp
 unfold wy wx
 rw[l2]
 by_cases hn:ls.getD p 0<0
 ·have e:ls.getD p 0=-1:=by
   rcases hok p hp with q | ⟨q,_,_⟩
   ·exact q
   ·omega
  rw[if_pos hn,if_pos e]
 ·rw[if_neg hn,if_neg (show ¬ ls.getD p 0=-1 by omega)]
  unfold byP
  have sh:=fun q:Nat=>uv (ks:=ks) (kd:=(ls.getD p 0).toNat) (good.inner hjs) np8 hp q
  constructor
  ·rintro⟨a,b,c⟩
   exact⟨a,fun o ho=>by have:=b o ho; rw[(sh o).1,(sh o).2] at this; exact this,c⟩
  ·rintro⟨a,b,c⟩
   exact⟨a,fun o ho=>by rw[(sh o).1,(sh o).2]; exact b o ho,c⟩
theorem rows_in{np nj nk:Nat}{ps js ks ls:List Int}(good:Good np nj nk ps js ks)(hok:nQ js ks ls nj np nk){R:Nat→List Int}(h:∀ p,p<np→wx js ks nj np p (ls.getD p 0) (R p)):RowsIn R np:=by
 intro p hp
 have h0:=h p hp
 unfold wx at h0
 by_cases hn:ls.getD p 0<0
 ·rw[if_pos hn] at h0
  refine⟨.inl h0,fun q=>?_⟩
  have e:R p=[]:=List.length_eq_zero_iff.1 h0
  rw[e]
  simp
 ·rw[if_neg hn] at h0
  refine⟨.inr h0.1,fun q=>?_⟩
  by_cases hq:q<np
  ·have hk:(ls.getD p 0).toNat<nk:=by
    rcases hok p hp with q | ⟨_,q,_⟩
    ·omega
    ·omega
   have r:=tK (js:=js) (nj:=nj) good.small hk (p:Int) (q:Int)
   have b:=h0.2.1 q hq
   omega
  ·have e:(R p).getD q 0=0:=by
    rw[List.getD_eq_getElem?_getD,List.getElem?_eq_none (by omega)]
    rfl
   rw[e]
   omega
theorem fq.nil'{H:Hp}{n len:Nat}{v:Value}{rw_:Nat→Value}{R:Nat→List Int}(h:fq H n v len rw_ R)(hp:bw v=true):fq .nil 0 v len rw_ R:=by
 have h0:=h.nil hp
 subst h0
 refine⟨?_,fun p h=>absurd h (by omega)⟩
 rcases h.1 with⟨e,_⟩ | ⟨b,o,cap,e,_⟩
 ·exact .inl ⟨e,rfl⟩
 ·rw[e] at hp; simp [bw] at hp
theorem ProveSpread_any(l:Nat){np nj nk nl nv:Nat}{ps js ks ls:List Int}{H:Hp}{n:Nat}{v w u:Value}{rw_:Nat→Value}{R:Nat→List Int}(hg:kq H n v np nj nk ps js ks)(hw:ListR H n w nl ls)(hv:fq H n u nv rw_ R)(hnp:np≤1000)(hnj:nj≤1000)(hnk:nk≤1000) :
  ∃(r:Bool) (H':Hp) (n':Nat),(r=true↔gX np nj nk nl ps js ks ls=0∧nv=np∧(∀ p,p<np→wy js ks (ej ls np) nj np R p)∧GJ ps R np)∧(∀ k:Value→Hp→Nat→Option ρ,aX P (cal (l+8)) 38 [v,w,u] H n k=k (.bool r) H' n')∧n≤n'∧Keep n H H':=by
 obtain⟨r,H',n',⟨b,rfl,hb⟩,e1,e2,e3⟩:=eZ (ρ:=ρ) (P:=P) (cal:=cal (l+8)) (f:=38) (args:=[v,w,u]) (H:=H) (n:=n)
  (Pre:=fun H n=>kq H n v np nj nk ps js ks∧ListR H n w nl ls∧fq H n u nv rw_ R) (Q:=fun r=>∃ b:Bool,r=.bool b∧(b=true↔gX np nj nk nl ps js ks ls=0∧nv=np∧(∀ p,p<np→wy js ks (ej ls np) nj np R p)∧GJ ps R np))
  (fun H n ⟨h1,h2,h3⟩=>by
   obtain⟨r,q1,q2⟩:=ProveSpread_spec l h1 h2 h3 hnp hnj hnk
   refine⟨.bool r,?_,r,rfl,q2⟩
   rw[show l+8=(l+7)+1 by omega,call38]
   exact q1) (fun r ⟨b,e,_⟩ _=>by subst e; rfl) ⟨hg,hw,hv⟩ (fun hp=>by
    simp only[ck,Bool.and_eq_true] at hp
    exact⟨hg.nil hp.1,hw.nil hp.2.1,hv.nil' hp.2.2.1⟩)
 exact⟨b,H',n',hb,e1,e2,e3⟩
end Go.Proofs.Ytmjbdjnnojfhkaa.spec
end
