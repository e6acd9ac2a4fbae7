import Derived.Orders
import Derived.KernelRfl
import Derived.Laws.CopyRow
import Derived.Laws.Cells
import Derived.Laws.StructEq
set_option linter.unusedVariables false
section
namespace Go.Ev
noncomputable section
open Go
inductive Tr (α:Type) where
 | nil
 | node (v:Option α) (l r:Tr α)
def Jj:Nat→Nat→List Bool
 | 0,_=>[]
 | k+1,n=>match n with
  | 0=>[]
  | m+1=>(m % 2 == 0)::Jj k (m / 2)
def path(n:Nat):List Bool:=Jj (n+1) n
noncomputable def getP{α:Type}(p:List Bool)(t:Tr α):Option α:=
 List.rec (motive:=fun _=>Tr α→Option α) (fun t=>Tr.rec (motive:=fun _=>Option α) none (fun v _ _ _ _=>v) t)
  (fun b _ ih t=>Tr.rec (motive:=fun _=>Option α) none (fun _ l r _ _=>Bool.rec (motive:=fun _=>Option α) (ih r) (ih l) b) t) p t
theorem getP_n_nil{α:Type}:getP [] (.nil:Tr α)=none:=rfl
theorem getP_n_node{α:Type}(v:Option α)(l r:Tr α):getP [] (.node v l r)=v:=rfl
theorem DY{α:Type}(p:List Bool)(v:Option α)(l r:Tr α):getP (true::p) (.node v l r)=getP p l:=rfl
theorem DZ{α:Type}(p:List Bool)(v:Option α)(l r:Tr α):getP (false::p) (.node v l r)=getP p r:=rfl
noncomputable def setP{α:Type}(v:Option α)(p:List Bool)(t:Tr α):Tr α:=
 List.rec (motive:=fun _=>Tr α→Tr α) (fun t=>Tr.rec (motive:=fun _=>Tr α) (.node v .nil .nil) (fun _ l r _ _=>.node v l r) t)
  (fun b _ ih t=>Tr.rec (motive:=fun _=>Tr α) (Bool.rec (motive:=fun _=>Tr α) (.node none .nil (ih .nil)) (.node none (ih .nil) .nil) b)
   (fun u l r _ _=>Bool.rec (motive:=fun _=>Tr α) (.node u l (ih r)) (.node u (ih l) r) b) t) p t
theorem setP_n_nil{α:Type}(v:Option α):setP v [] .nil=.node v .nil .nil:=rfl
theorem setP_n_node{α:Type}(v u:Option α)(l r:Tr α):setP v [] (.node u l r)=.node v l r:=rfl
theorem setP_t_nil{α:Type}(v:Option α)(p:List Bool):setP v (true::p) .nil=.node none (setP v p .nil) .nil:=rfl
theorem setP_f_nil{α:Type}(v:Option α)(p:List Bool):setP v (false::p) .nil=.node none .nil (setP v p .nil):=rfl
theorem setP_t_node{α:Type}(v u:Option α)(p:List Bool)(l r:Tr α):setP v (true::p) (.node u l r)=.node u (setP v p l) r:=rfl
theorem setP_f_node{α:Type}(v u:Option α)(p:List Bool)(l r:Tr α):setP v (false::p) (.node u l r)=.node u l (setP v p r):=rfl
noncomputable def Tr.get{α:Type}(t:Tr α)(n:Nat):Option α:=getP (path n) t
noncomputable def Tr.set{α:Type}(t:Tr α)(n:Nat)(v:Option α):Tr α:=setP v (path n) t
theorem Zq{α:Type}(p:List Bool):getP p (.nil:Tr α)=none:=by cases p <;> rfl
theorem getP_setP{α:Type}(v:Option α):∀(p q:List Bool) (t:Tr α),getP q (setP v p t)=if q=p then v else getP q t
 | [],[],.nil=>rfl
 | [],[],.node _ _ _=>rfl
 | [],c::q,.nil=>by cases c <;> simp [setP_n_nil,DY,DZ,Zq]
 | [],c::q,.node _ _ _=>by cases c <;> simp [setP_n_node,DY,DZ]
 | b::p,[],t=>by cases t <;> cases b <;> simp [setP_t_nil,setP_f_nil,setP_t_node,setP_f_node,getP_n_node,getP_n_nil]
 | b::p,c::q,t=>by
  cases t <;> cases b <;> cases c <;> simp [setP_t_nil,setP_f_nil,setP_t_node,setP_f_node,DY,DZ,getP_setP v p q,Zq]
theorem pathF_inj:∀(k m n:Nat),m<k→n<k→Jj k m=Jj k n→m=n
 | 0,_,_,h,_,_=>by omega
 | k+1,0,0,_,_,_=>rfl
 | k+1,0,n+1,_,_,h=>by simp [Jj] at h
 | k+1,m+1,0,_,_,h=>by simp [Jj] at h
 | k+1,m+1,n+1,hm,hn,h=>by
  simp only[Jj,List.cons.injEq] at h
  have h2:=pathF_inj k (m / 2) (n / 2) (by omega) (by omega) h.2
  have h1:=h.1
  by_cases a:m % 2=0 <;> by_cases b:n % 2=0 <;> (try simp [a,b] at h1) <;> omega
theorem JW:∀(k j m:Nat),m<k→m<j→Jj k m=Jj j m
 | 0,_,_,h,_=>by omega
 | _,0,_,_,h=>by omega
 | k+1,j+1,0,_,_=>rfl
 | k+1,j+1,m+1,hk,hj=>by
  simp only[Jj]
  rw[JW k j (m / 2) (by omega) (by omega)]
theorem path_inj{m n:Nat}(h:path m=path n):m=n:=by
 unfold path at h
 rw[JW (m+1) (m+n+1) m (by omega) (by omega),JW (n+1) (m+n+1) n (by omega) (by omega)] at h
 exact pathF_inj _ _ _ (by omega) (by omega) h
theorem Tr.get_set{α:Type}(t:Tr α)(n:Nat)(v:Option α)(m:Nat) :
  (t.set n v).get m=if m=n then v else t.get m:=by
 unfold Tr.get Tr.set
 rw[getP_setP]
 by_cases h:m=n
 ·subst h; simp
 ·have : ¬ path m = path n := fun e => h (path_inj e)
  simp [h,this]
theorem Tr.get_nil{α:Type}(n:Nat):(Tr.nil:Tr α).get n=none:=Zq _
inductive Blk where
 | cells (c:List Value) (elem:TypeId) (ro:Bool) (vec:Option Nat)
 | loop (state:LoopState) (pending:Option Code) (fn:FuncId) (T:Tr Value) (N:Nat) (params:Array Tmp) (assign body:Code) (defers:Nat)
 | deferred
 | map (es:List MapEntry) (clock:Nat)
 | rows (c:List Value)
 | fam (c:List Value) (elem:TypeId) (s:Nat) (anc desc:List Nat)
def capV:Nat:=4611686018427387904
def capR:Nat:=4611686018427387905
def capE:Nat:=4611686018427387906
def Qj:Value:=.slice (some ⟨capE,0,none⟩) 0 capE
mutual
def bz:Value→Bool
 | .bool _ | .int _ _ | .string _ | .float _ _ | .complex _ _ _ | .nilFunc | .nilIface=>true
 | .pointer a=>a.isNone
 | .slice a _ _=>a.isNone
 | .map r=>r.isNone
 | .chan _=>false
 | .func fn f c=>(match fn with | .yield _=>false | _=>true) && lj f && lj c
 | .iface _ v=>bz v
 | .agg cs=>lj cs
 | .tuple cs=>lj cs
def lj:Array Value→Bool
 | ⟨l⟩=>ek l
def ek:List Value→Bool
 | []=>true
 | v::l=>bz v && ek l
end
def oQ:Value→Bool
 | .agg _ | .tuple _=>false
 | _=>true
abbrev Tm:=Tr Value
abbrev Hp:=Tr Blk
structure St where
 T:Tm
 H:Hp
 n:Nat
 D:List Nat
def opd:Operand→Tm→Option Value
 | .tmp t,T=>T.get t
 | .const v,_=>match bz v with
  | true=>some v
  | false=>none
 | .func f,_=>some (.func (.func f) #[] #[])
 | .global _,_=>none
def opds(T:Tm):List Operand→Option (List Value)
 | []=>some []
 | x::l=>match opd x T with
  | none=>none
  | some v=>match opds T l with
   | none=>none
   | some vs=>some (v::vs)
def cz{α:Type}(P:Program):Sem α→Option α
 | .pure a=>some a
 | .program k=>cz P (k P)
 | .mark _ k=>cz P k
 | _=>none
def oW(P:Program)(t:TypeId):Option Bool:=
 match P.underlying t with
 | some (.struct _) | some (.array _ _)=>some true
 | some _=>some false
 | none=>none
def szT(P:Program)(t:TypeId):Option Nat:=
 match P.info? t with
 | some i=>some i.size
 | none=>none
def sK(P:Program)(t:TypeId):Option Nat:=
 match P.info? t with
 | some i=>some i.bytes
 | none=>none
def jx(P:Program)(t:TypeId):Option Value:=
 match P.info? t with
 | some i=>match i.zero with
  | some v=>if bz v then some v else none
  | none=>none
 | none=>none
def cut(l:List Value)(off n:Nat):Option (List Value):=
 let s:=(l.drop off).take n
 if s.length=n then some s else none
def lX(l:List Value):Nat→List Value→Option (List Value)
 | 0,vs=>over l vs
 | k+1,vs=>match l with
  | []=>none
  | x::l=>match lX l k vs with
   | none=>none
   | some r=>some (x::r)
where
 over:List Value→List Value→Option (List Value)
  | l,[]=>some l
  | [],_::_=>none
  | _::l,v::vs=>match over l vs with
   | none=>none
   | some r=>some (v::r)
def lq(P:Program)(t:TypeId)(c:List Value)(off:Nat):Option Value:=
 match oW P t with
 | some true=>match szT P t with
  | some s=>match cut c off s with
   | some l=>some (.agg ⟨l⟩)
   | none=>none
  | none=>none
 | some false=>c[off]?
 | none=>none
def nq:Value→Bool
 | .chan _=>false
 | _=>true
def vy:Value→Bool
 | .agg ⟨l⟩=>l.all nq
 | v=>nq v
def az(P:Program)(H:Hp)(t:TypeId)(a:Addr):Option Value:=
 match a.spot with
 | some _=>none
 | none=>match H.get a.block with
  | some (.cells c _ _ _)=>lq P t c a.off
  | some (.fam c _ _ _ _)=>lq P t c a.off
  | some (.rows c)=>match lq P t c a.off with
   | some v=>match vy v with
    | true=>some v
    | false=>none
   | none=>none
  | _=>none
def loadN(H:Hp)(a:Addr)(n:Nat):Option (List Value):=
 match a.spot with
 | some _=>none
 | none=>match H.get a.block with
  | some (.cells c _ _ _)=>cut c a.off n
  | some (.fam c _ _ _ _)=>cut c a.off n
  | some (.rows c)=>match cut c a.off n with
   | some l=>match l.all nq with
    | true=>some l
    | false=>none
   | none=>none
  | _=>none
def pX(H:Hp)(a:Addr)(vs:List Value):Option Hp:=
 match a.spot with
 | some _=>none
 | none=>match H.get a.block with
  | some (.cells c e false vec)=>if vs.all oQ then match lX c a.off vs with
   | some c'=>some (H.set a.block (some (.cells c' e false vec)))
   | none=>none
   else none
  | _=>none
def aQ:Value→List Value
 | .agg cs=>cs.toList
 | v=>[v]
def nk(place:Nat→Option (Nat × Nat))(cells:List Value):List (Nat × Value)→Option (List Value)
 | []=>some cells
 | (i,v)::rest=>match place i with
  | none=>none
  | some (off,size)=>if(aQ v).length=size then match lX cells off (aQ v) with
   | some c=>nk place c rest
   | none=>none
   else none
def repl(n:Nat)(z:List Value):List Value:=
 match n with
 | 0=>[]
 | n+1=>z++repl n z
def uW(T:Tm):List (Nat × Operand)→Option (List (Nat × Value))
 | []=>some []
 | (i,x)::l=>match opd x T with
  | none=>none
  | some v=>match uW T l with
   | none=>none
   | some vs=>some ((i,v)::vs)
def JX(P:Program):List Field→Option (List (Nat × Nat))
 | []=>some []
 | f::l=>match szT P f.type with
  | none=>none
  | some s=>match JX P l with
   | none=>none
   | some r=>some ((f.offset,s)::r)
def Zv(P:Program)(T:Tm)(t:TypeId)(parts:List (Nat × Operand)):Option Value:=
 match jx P t,uW T parts with
 | some z,some ps=>match P.underlying t with
  | some (.struct fs)=>match JX P fs.toList with
   | some pl=>match nk (pl[·]?) (aQ z) ps with
    | some c=>some (.agg ⟨c⟩)
    | none=>none
   | none=>none
  | some (.array _ e)=>match szT P e with
   | some s=>match nk (fun i=>some (i * s,s)) (aQ z) ps with
    | some c=>some (.agg ⟨c⟩)
    | none=>none
   | none=>none
  | _=>none
 | _,_=>none
def mz(st:St)(c:List Value)(e:TypeId)(vec:Option Nat):St:=
 { st with H:=st.H.set st.n (some (.cells c e false vec)),n:=st.n+1 }
def ptr(i:Nat):Value:=.pointer (some ⟨i,0,none⟩)
def Bq(P:Program)(t:TypeId)(f:Nat):Option (Nat × TypeId):=
 match P.underlying t with
 | some (.struct fs)=>match fs.toList[f]? with
  | some x=>some (x.offset,x.type)
  | none=>none
 | _=>none
def Jq(v:Value)(len:Nat):Option Nat:=
 match v with
 | .int _ (.ofNat i)=>if i<len then some i else none
 | _=>none
def Zw(v:Value)(y:Nat):Option Nat:=
 match v with
 | .int _ (.ofNat i)=>if i≤y then some i else none
 | _=>none
def addA(a:Addr)(k:Nat):Addr:=⟨a.block,a.off+k,none⟩
def aJ(P:Program)(t:TypeId)(x i:Value):Option Value:=
 match P.underlying t,x with
 | some (.array len e),.pointer (some a)=>match a.spot with
  | some _=>none
  | none=>match Jq i len,szT P e with
   | some k,some s=>some (.pointer (some (addA a (k * s))))
   | _,_=>none
 | some (.slice e),.slice (some a) len _=>match a.spot with
  | some _=>none
  | none=>match Jq i len,szT P e with
   | some k,some s=>some (.pointer (some (addA a (k * s))))
   | _,_=>none
 | _,_=>none
def uX(P:Program)(t:TypeId)(x i:Value):Option Value:=
 match P.underlying t,x with
 | some (.array len e),.agg cs=>match Jq i len,szT P e with
  | some k,some s=>lq P e cs.toList (k * s)
  | _,_=>none
 | some .string,.string s=>match Jq i s.size with
  | some k=>match s.data.toList[k]? with
   | some b=>some (.int .u8 b.toNat)
   | none=>none
  | none=>none
 | _,_=>none
def ax(P:Program)(t:TypeId)(x:Value)(f:Nat):Option Value:=
 match x with
 | .pointer (some a)=>match a.spot,Bq P t f with
  | none,some (off,ft)=>match szT P ft with
   | some s=>if s=0 then none else some (.pointer (some (addA a off)))
   | none=>none
  | _,_=>none
 | _=>none
def Qq(P:Program)(t:TypeId)(x:Value)(f:Nat):Option Value:=
 match x with
 | .agg cs=>match Bq P t f with
  | some (off,ft)=>lq P ft cs.toList off
  | none=>none
 | _=>none
def hiV(len m:Nat)(hi:Option Value):Option Nat:=match hi with | none=>some len | some v=>Zw v m
def loV(r:Nat)(lo:Option Value):Option Nat:=match lo with | none=>some 0 | some v=>Zw v r
def lY(len:Nat)(m:Nat)(lo hi:Option Value):Option (Nat × Nat):=
 match hiV len m hi with
 | none=>none
 | some h=>match loV h lo with
  | none=>none
  | some l=>some (l,h)
def lw(P:Program)(t:TypeId)(x:Value)(lo hi:Option Value):Option Value:=
 match P.underlying t,x with
 | some (.slice e), .slice (some a) len cap => match a.spot, szT P e with
  | none,some s=>
   if cap<capV then
    if len≤cap then
     match lY len cap lo hi with
     | some (l,h)=>some (.slice (some (if cap=l then a else addA a (l * s))) (h-l) (cap-l))
     | none=>none
    else none
   else
    match lY len len lo hi with
    | some (l,h)=>
     if l=h then some Qj
     else if l=0 then(if cap=capV then some (.slice (some a) h capV) else some (.slice (some a) h capR))
     else some (.slice (some (addA a (l * s))) (h-l) capR)
    | none=>none
  | some _,some _=>if len=0 then match lY 0 0 lo hi with
    | some _=>some Qj
    | none=>none
   else none
  | _,_=>none
 | some (.slice e),.slice none 0 0=>match lY 0 0 lo hi,szT P e with
  | some _,some _=>some (.slice none 0 0)
  | _,_=>none
 | some (.array n e),.pointer (some a)=>match a.spot,szT P e with
  | none,some s=>match lY n n lo hi with
   | some (l,h)=>if n<capV then some (.slice (some (if n=l then a else addA a (l * s))) (h-l) (n-l)) else none
   | none=>none
  | _,_=>none
 | _,_=>none
def lenV(P:Program)(t:TypeId)(x:Value):Option Value:=
 match P.underlying t,x with
 | some (.array n _),_=>some (goInt n)
 | some (.slice _),.slice _ n _=>some (goInt n)
 | some .string,.string s=>some (goInt s.size)
 | _,_=>none
def iy(H:Hp)(s:Nat):Value→Option (List Value × Nat)
 | .slice none n _=>if n=0 then some ([],0) else none
 | .slice (some a) n _=>match loadN H a (n * s) with
  | some l=>some (l,n)
  | none=>match Nat.beq n 0 with
   | true=>some ([],0)
   | false=>none
 | _=>none
def dY(P:Program)(t:TypeId):Option TypeId:=
 match P.underlying t with
 | some (.slice e)=>some e
 | _=>none
def Dx(need s b:Nat):Bool:=(need<1048576 || (1≤b && need * b≤140737488355328)) && s<1048576 && b<1048576
def yW(need s b:Nat):Bool:=need<1048576 && s<1048576 && b<1048576
def rx(st:St)(H:Hp)(len s:Nat)(c:List Value)(e:TypeId):Value × St:=
 (.slice (some ⟨st.n,0,none⟩) len capV,mz { st with H:=H } c e (some s))
def oZ(st:St)(e:TypeId)(s:Nat)(a:Addr)(len cap:Nat)(old new:List Value)(n:Nat):Option (Value × St):=
 match Nat.blt cap capV with
 | true=>match Nat.ble (len+n) cap with
  | true=>match pX st.H (addA a (len * s)) new with
   | some H=>some (.slice (some a) (len+n) cap,{ st with H })
   | none=>none
  | false=>some (rx st st.H (len+n) s (old++new) e)
 | false=>match Nat.beq cap capV,st.H.get a.block with
  | true,some (.cells _ e' false (some s'))=>match Nat.beq e' e && Nat.beq s' s && new.all oQ with
   | true=>some (rx st (st.H.set a.block none) (len+n) s (old++new) e)
   | false=>none
  | _,_=>none
def cZ(P:Program)(st:St)(t t2:TypeId)(x y:Value):Option (Value × St):=
 match dY P t,dY P t2 with
 | some e,some _=>match szT P e,sK P e,jx P e with
  | some s,some b,some z=>match iy st.H s y,Nat.beq (aQ z).length s with
   | some (new,n),true=>match x with
    | .slice none 0 0=>match n with
     | 0=>some (.slice none 0 0,st)
     | n+1=>match Dx (n+1) s b with
      | true=>some (rx st st.H (n+1) s new e)
      | false=>none
    | .slice (some a) len cap=>match loadN st.H a (len * s),a.spot,Dx (len+n) s b with
     | some old,none,true=>oZ st e s a len cap old new n
     | _,_,_=>none
    | _=>none
   | _,_=>none
  | _,_,_=>none
 | _,_=>none
def yX(d:Nat):List Nat→Bool
 | []=>false
 | x::l=>match Nat.beq x d with
  | true=>true
  | false=>yX d l
def Bv:List Nat→Hp→Option Hp
 | [],H=>some H
 | d::l,H=>match H.get d with
  | some (.fam ..)=>Bv l (H.set d none)
  | _=>none
def JY(n:Nat)(D:List Nat):List Nat→Hp→Option Hp
 | [],H=>some H
 | a::l,H=>match H.get a with
  | some (.fam c e s A D')=>JY n D l (H.set a (some (.fam c e s A (n::D'.filter fun x=>!yX x D))))
  | _=>none
def famOf(H:Hp)(i e s:Nat):Option (List Value × List Nat × List Nat):=match H.get i with
 | some (.cells c e' false (some s'))=>match Nat.beq e' e && Nat.beq s' s with
  | true=>some (c,[],[])
  | false=>none
 | some (.fam c e' s' A D)=>match Nat.beq e' e && Nat.beq s' s with
  | true=>some (c,A,D)
  | false=>none
 | _=>none
def Qv(st:St)(e:TypeId)(s:Nat)(i len:Nat)(new:List Value)(n:Nat):Option (Value × St):=
 match famOf st.H i e s with
 | some (c,A,D)=>match Nat.blt 0 len && Nat.beq c.length (len * s) && new.all oQ && !yX i D with
  | true=>match Bv D st.H with
   | some H1=>match JY st.n D A H1 with
    | some H2=>some (.slice (some ⟨st.n,0,none⟩) (len+n) capV,{ st with H:=(H2.set i (some (.fam c e s A [st.n]))).set st.n (some (.fam (c++new) e s (i::A) [])),n:=st.n+1 })
    | none=>none
   | none=>none
  | false=>none
 | none=>none
def keepV(P:Program)(st:St)(t t2:TypeId)(x y:Value):Option (Value × St):=match x with
 | .slice (some a) len cap => match Nat.beq cap capV with
  | true=>match dY P t,dY P t2 with
   | some e,some _=>match szT P e,sK P e,jx P e with
    | some s,some b,some z=>match iy st.H s y,Nat.beq (aQ z).length s with
     | some (new,n),true=>match a.spot,Dx (len+n) s b with
      | none,true=>Qv st e s a.block len new n
      | _,_=>none
     | _,_=>none
    | _,_,_=>none
   | _,_=>none
  | false=>cZ P st t t2 x y
 | _=>cZ P st t t2 x y
def keepPairs:List (Nat × Nat):=[]
def keepIn(a b:Nat):List (Nat × Nat)→Bool
 | []=>false
 | p::l=>match Nat.beq p.1 a && Nat.beq p.2 b with
  | true=>true
  | false=>keepIn a b l
def keepC(c:Call):Bool:=match c.args.toList with
 | [.tmp a,.tmp b]=>keepIn a b keepPairs
 | _=>false
def NZ(P:Program)(st:St)(keep:Bool)(t t2:TypeId)(x y:Value):Option (Value × St):=match keep with
 | true=>keepV P st t t2 x y
 | false=>cZ P st t t2 x y
def Jv(P:Program)(st:St)(t:TypeId)(x y:Value):Option (Value × St):=
 match dY P t with
 | some e=>match szT P e with
  | some s=>match x,y with
   | .slice (some a) dl dc,.slice (some b) sl _=>match Nat.beq dc capE with
    | true=>none
    | false=>match loadN st.H b (Nat.min sl dl * s) with
     | some l=>match pX st.H a l with
      | some H=>some (goInt (Nat.min sl dl),{ st with H })
      | none=>none
     | none=>none
   | _,_=>none
  | none=>none
 | none=>none
def tj(P:Program):List Field→Nat→Bool
 | [],_=>true
 | f :: l, i => match f.name != "_" && Nat.beq f.offset i, P.underlying f.type, oW P f.type with
  | true,some (.int _),some false=>tj P l (i+1)
  | _,_,_=>false
def zW(P:Program)(k:TypeId):Option Nat:=match P.underlying k with
 | some (.struct fs)=>match !P.stoodInHeld k && tj P fs.toList 0 with
  | true=>some fs.toList.length
  | false=>none
 | _=>none
def kz:List Value→List Value→Option Bool
 | [],[]=>some true
 | .int k a::l,.int k' b::l'=>match decide (k=k'),decide (a=b) with
  | true,true=>kz l l'
  | true,false=>some false
  | _,_=>none
 | _,_=>none
def aggEq(P:Program)(t:TypeId)(a b:Value):Option Bool:=match a,b with
 | .agg ⟨l⟩,.agg ⟨l'⟩=>match zW P t with
  | some n=>match Nat.beq l.length n && !P.eqGuardType P.depth t with
   | true=>kz l l'
   | false=>none
  | none=>none
 | _,_=>none
def DK(P:Program)(op:BinOp)(t:TypeId)(a b:Value):Option Value:=match op with
 | .eql=>match aggEq P t a b with
  | some r=>some (.bool r)
  | none=>none
 | .neq=>match aggEq P t a b with
  | some r=>some (.bool (!r))
  | none=>none
 | _=>none
def nilEq(P:Program)(t:TypeId)(x y:Value):Option Bool:=
 match P.underlying t,x,y with
 | some (.slice _),.slice none _ _,.slice b _ _=>some b.isNone
 | some (.slice _),.slice (some _) _ _,.slice none _ _=>some false
 | some (.pointer _),.pointer none,.pointer b=>some b.isNone
 | some (.pointer _),.pointer (some _),.pointer none=>some false
 | some (.func _ _ _),.nilFunc,.nilFunc=>some true
 | some (.func _ _ _),.nilFunc,.func _ _ _=>some false
 | some (.func _ _ _),.func _ _ _,.nilFunc=>some false
 | _,_,_=>none
def gJ(op:BinOp)(t:TypeId)(x y:Operand)(a b:Value):Sem Value:=do eqGuard op t x y a b; binOp op t a b
def mk64(n:Nat):Option Value:=match Nat.blt n 9223372036854775808 with
 | true=>some (.int .i64 (.ofNat n))
 | false=>none
def JZ(op:BinOp)(m n:Nat):Option Value:=match op with
 | .add=>mk64 (m+n)
 | .mul=>mk64 (m * n)
 | .sub=>match Nat.ble n m with
  | true=>mk64 (m-n)
  | false=>none
 | .eql=>some (.bool (Nat.beq m n))
 | .neq=>some (.bool (!Nat.beq m n))
 | .lss=>some (.bool (Nat.blt m n))
 | .leq=>some (.bool (Nat.ble m n))
 | .gtr=>some (.bool (Nat.blt n m))
 | .geq=>some (.bool (Nat.ble n m))
 | _=>none
def uw(op:BinOp)(a b:Value):Option Value:=match a with
 | .int .i64 (.ofNat m)=>match b with
  | .int .i64 (.ofNat n)=>JZ op m n
  | _=>none
 | _=>none
def HW(P:Program)(op:BinOp)(t:TypeId)(x y:Operand)(a b:Value):Option Value:=
 match bz a && bz b with
 | true=>match DK P op t a b with
  | some v=>some v
  | none=>match cz P (gJ op t x y a b) with
   | some v=>match bz v with
    | true=>some v
    | false=>none
   | none=>none
 | false=>match op with
  | .eql=>match nilEq P t a b with
   | some r=>some (.bool r)
   | none=>none
  | .neq=>match nilEq P t a b with
   | some r=>some (.bool (!r))
   | none=>none
  | _=>none
def binV(P:Program)(op:BinOp)(t:TypeId)(x y:Operand)(a b:Value):Option Value:=
 match uw op a b with
 | some v=>some v
 | none=>HW P op t x y a b
def keep(v:Option Value)(st:St):Option (Value × St):=match v with | some v=>some (v,st) | none=>none
def oPick(c a b:Operand)(st:St):Option (Value × St):=match opd c st.T with
 | some (.bool true)=>keep (opd a st.T) st
 | some (.bool false)=>keep (opd b st.T) st
 | _=>none
def Ej(P:Program)(e:TypeId)(st:St):Option (Value × St):=match jx P e with
 | some z=>some (ptr st.n,mz st (aQ z) e none)
 | none=>none
def oBox(e:TypeId)(x:Operand)(st:St):Option (Value × St):=match opd x st.T with
 | some v=>some (ptr st.n,mz st (aQ v) e none)
 | none=>none
def lQ(P:Program)(t:TypeId)(len:Nat)(parts:Array (Nat × Operand))(st:St):Option (Value × St):=
 match dY P t,uW st.T parts.toList with
 | some e,some ps=>match szT P e,jx P e with
  | some s,some z=>if len * s≤16777216∧(aQ z).length=s∧len<capV then
    match nk (fun i=>some (i * s,s)) (repl len (aQ z)) ps with
    | some c=>some (.slice (some ⟨st.n,0,none⟩) len len,mz st c e none)
    | none=>none
   else none
  | _,_=>none
 | _,_=>none
def oLoad(P:Program)(t:TypeId)(a:Operand)(st:St):Option (Value × St):=match opd a st.T with
 | some (.pointer (some a))=>keep (az P st.H t a) st
 | _=>none
def oStore(P:Program)(t:TypeId)(a x:Operand)(st:St):Option (Value × St):=match opd a st.T,opd x st.T with
 | some (.pointer (some a)),some v=>match szT P t with
  | some s=>if(aQ v).length=s then match pX st.H a (aQ v) with
    | some H=>some (undef,{ st with H })
    | none=>none
   else none
  | none=>none
 | _,_=>none
def zX(x:Operand)(st:St):Option (Value × St):=match opd x st.T with
 | some (.pointer (some a))=>some (.pointer (some a),st)
 | some (.func (.func f) a b)=>some (.func (.func f) a b,st)
 | _=>none
def oBin(P:Program)(op:BinOp)(t:TypeId)(x y:Operand)(st:St):Option (Value × St):=match opd x st.T,opd y st.T with
 | some a,some b=>keep (binV P op t x y a b) st
 | _,_=>none
def yY(P:Program)(m:Sem Value)(st:St):Option (Value × St):=match cz P m with
 | some u=>match bz u with
  | true=>some (u,st)
  | false=>none
 | none=>none
def oUn(P:Program)(op:UnOp)(x:Operand)(st:St):Option (Value × St):=match opd x st.T with
 | some v=>match bz v with
  | true=>yY P (Op.unary op v) st
  | false=>none
 | none=>none
def Ew(P:Program)(s d:TypeId)(x:Operand)(st:St):Option (Value × St):=match opd x st.T with
 | some v=>match bz v with
  | true=>yY P (convert s d v) st
  | false=>none
 | none=>none
def zY(fn:Fn)(first cap:Array Operand)(st:St):Option (Value × St):=match fn with
 | .func f=>match opds st.T first.toList,opds st.T cap.toList with
  | some a,some b=>some (.func (.func f) ⟨a⟩ ⟨b⟩,st)
  | _,_=>none
 | _=>none
def nJ(P:Program)(t:TypeId)(l c:Operand)(st:St):Option (Value × St):=match dY P t,opd l st.T,opd c st.T with
 | some e,some (.int .i64 (.ofNat l)),some (.int .i64 (.ofNat c))=>match szT P e,sK P e,jx P e with
  | some s,some b,some z=>if l≤c∧yW c s b∧(aQ z).length=s then
    some (.slice (some ⟨st.n,0,none⟩) l c,mz st (repl c (aQ z)) e none)
   else none
  | _,_,_=>none
 | _,_,_=>none
def opdO:Option Operand→Tm→Option (Option Value)
 | none,_=>some none
 | some x,T=>match opd x T with
  | some v=>some (some v)
  | none=>none
def zZ(H:Hp):Value→Option (List MapEntry)
 | .map none=>some []
 | .map (some r)=>match H.get r with
  | some (.map es _)=>some es
  | _=>none
 | _=>none
def Dy(P:Program)(t:TypeId):Option (TypeId × TypeId):=match P.underlying t with
 | some (.map k e)=>some (k,e)
 | _=>none
def lookS(key elem:TypeId)(es:List MapEntry)(x:Value)(ok:Bool):Sem Value:=do
 Instr.checkKey (Array.isEmpty ⟨es⟩) 10000 key x
 match ← Instr.findKey key x es with
 | some (_,v)=>pure (if ok=true then .tuple #[v,.bool true] else v)
 | none=>do
  let z ← zeroValue elem
  pure (if ok=true then .tuple #[z,.bool false] else z)
def pureO(P:Program)(m:Sem Value):Option Value:=match cz P m with
 | some u=>match bz u with
  | true=>some u
  | false=>none
 | none=>none
def iW(x:List Value):List MapEntry→Nat→Option (Option (Nat × Value))
 | [],_=>some none
 | e::es,i=>match e.key with
  | .agg ⟨l⟩=>match kz x l with
   | some true=>some (some (i,e.val))
   | some false=>iW x es (i+1)
   | none=>none
  | _=>none
def HX(P:Program)(key:TypeId)(es:List MapEntry)(x:Value):Option (Option (Nat × Value)):=
 match x with
 | .agg ⟨l⟩=>match zW P key with
  | some n=>match Nat.beq l.length n with
   | true=>iW l es 0
   | false=>none
  | none=>none
 | _=>none
def NK(P:Program)(elem:TypeId)(ok:Bool):Option (Nat × Value)→Option Value
 | some (_,v)=>match bz v with
  | true=>some (if ok=true then .tuple #[v,.bool true] else v)
  | false=>none
 | none=>match jx P elem with
  | some z=>some (if ok=true then .tuple #[z,.bool false] else z)
  | none=>none
def HY(P:Program)(key elem:TypeId)(es:List MapEntry)(x:Value)(ok:Bool):Option Value:=
 match HX P key es x with
 | some r=>NK P elem ok r
 | none=>pureO P (lookS key elem es x ok)
def fZ(P:Program)(H:Hp)(t:TypeId)(m x:Value)(ok:Bool):Option Value:=
 match Dy P t with
 | some (key,elem)=>match zZ H m,bz x with
  | some es,true=>HY P key elem es x ok
  | _,_=>none
 | none=>none
def modE(es:List MapEntry)(i:Nat)(key val:Value):List MapEntry:=es.modify i fun e=>{ key:=key,val:=val,born:=e.born }
def updS(keyType:TypeId)(es:List MapEntry)(clock:Nat)(key value:Value):Sem (List MapEntry × Nat):=do
 Instr.checkKey false 10000 keyType key
 match ← Instr.findKey keyType key es with
 | some (i,_)=>do
  let key ← Instr.keyThatStays ((Option.map (fun x=>x.key) es[i]?).getD key) key
  pure (modE es i key value,clock)
 | none=>pure (es++[{ key:=key,val:=value,born:=clock }],clock+1)
def vz(P:Program)(t:TypeId)(m x v:Value)(H:Hp):Option Hp:=
 match Dy P t,m with
 | some (key,_),.map (some r)=>match H.get r with
  | some (.map es clock)=>match bz x && bz v with
   | true=>match cz P (updS key es clock x v) with
    | some (es',c')=>some (H.set r (some (.map es' c')))
    | none=>none
   | false=>none
  | _=>none
 | _,_=>none
def entS(keyType elem:TypeId)(es:List MapEntry)(clock:Nat)(key:Value):Sem (Value × List MapEntry × Nat):=do
 Instr.checkKey false 10000 keyType key
 match ← Instr.findKey keyType key es with
 | some (i,v)=>do
  let key ← Instr.keyThatStays ((Option.map (fun x=>x.key) es[i]?).getD key) key
  pure (.tuple #[v,goInt ((Option.map (fun x=>(x.born:Int)) es[i]?).getD 0)],es.modify i fun e=>{ key:=key,val:=e.val,born:=e.born },clock)
 | none=>do
  let z ← zeroValue elem
  pure (.tuple #[z,goInt clock],es++[{ key:=key,val:=z,born:=clock }],clock+1)
def mapEntV(P:Program)(t:TypeId)(m x:Value)(H:Hp):Option (Value × Hp):=
 match Dy P t,m with
 | some (key, elem), .map (some r) => match H.get r with
  | some (.map es clock)=>match bz x with
   | true=>match cz P (entS key elem es clock x) with
    | some (v,es',c')=>match bz v with
     | true=>some (v,H.set r (some (.map es' c')))
     | false=>none
    | none=>none
   | false=>none
  | _=>none
 | _,_=>none
def entStV(m s v:Value)(H:Hp):Option Hp:=
 match m,s with
 | .map (some r),.int _ b=>match H.get r with
  | some (.map es clock)=>match bz v with
   | true=>match es.findIdx? (fun e=>(e.born:Int) == b) with
    | some i=>some (H.set r (some (.map (es.modify i fun e=>{ key:=e.key,val:=v,born:=e.born }) clock)))
    | none=>none
   | false=>none
  | _=>none
 | _,_=>none
def Ey(st:St):Option (Value × St):=some (.map (some st.n),{ st with H:=st.H.set st.n (some (.map [] 0)),n:=st.n+1 })
def Yq(P:Program)(t:TypeId)(m x:Operand)(ok:Bool)(st:St):Option (Value × St):=match opd m st.T,opd x st.T with
 | some m,some x=>keep (fZ P st.H t m x ok) st
 | _,_=>none
def withH(o:Option Hp)(st:St):Option (Value × St):=match o with
 | some H=>some (undef,{ st with H })
 | none=>none
def Yv(P:Program)(t:TypeId)(m x v:Operand)(st:St):Option (Value × St):=match opd m st.T,opd x st.T,opd v st.T with
 | some m,some x,some v=>withH (vz P t m x v st.H) st
 | _,_,_=>none
def Yw(P:Program)(t:TypeId)(m x:Operand)(st:St):Option (Value × St):=match opd m st.T,opd x st.T with
 | some m,some x=>match mapEntV P t m x st.H with
  | some (v,H)=>some (v,{ st with H })
  | none=>none
 | _,_=>none
def oEntSt(m s v:Operand)(st:St):Option (Value × St):=match opd m st.T,opd s st.T,opd v st.T with
 | some m,some s,some v=>withH (entStV m s v st.H) st
 | _,_,_=>none
def Zx(P:Program)(t:TypeId)(x:Operand)(lo hi:Option Operand)(st:St):Option (Value × St):=match opd x st.T,opdO lo st.T,opdO hi st.T with
 | some v,some l,some h=>keep (lw P t v l h) st
 | _,_,_=>none
def wX(P:Program)(t:TypeId)(x:Operand)(f:Nat)(st:St):Option (Value × St):=match opd x st.T with
 | some v=>keep (ax P t v f) st
 | none=>none
def Zy(P:Program)(t:TypeId)(x:Operand)(f:Nat)(st:St):Option (Value × St):=match opd x st.T with
 | some v=>keep (Qq P t v f) st
 | none=>none
def wY(P:Program)(t:TypeId)(x i:Operand)(st:St):Option (Value × St):=match opd x st.T,opd i st.T with
 | some v,some k=>keep (aJ P t v k) st
 | _,_=>none
def Zz(P:Program)(t:TypeId)(x i:Operand)(st:St):Option (Value × St):=match opd x st.T,opd i st.T with
 | some v,some k=>keep (uX P t v k) st
 | _,_=>none
def Ez(t:Operand)(i:Nat)(st:St):Option (Value × St):=match opd t st.T with
 | some (.tuple vs)=>keep (vs.toList[i]?) st
 | _=>none
def oLen(P:Program)(c:Call)(st:St):Option (Value × St):=match c.args.toList,c.argTypes.toList with
 | [x],t::_=>match opd x st.T with
  | some v=>keep (lenV P t v) st
  | none=>none
 | _,_=>none
def Yx(P:Program)(c:Call)(st:St):Option (Value × St):=match c.args.toList,c.argTypes.toList with
 | [x,y],[t,t2]=>match opd x st.T,opd y st.T with
  | some v,some u=>NZ P st (keepC c) t t2 v u
  | _,_=>none
 | _,_=>none
def oCopy(P:Program)(c:Call)(st:St):Option (Value × St):=match c.args.toList,c.argTypes.toList with
 | [x,y],t::_=>match opd x st.T,opd y st.T with
  | some v,some u=>Jv P st t v u
  | _,_=>none
 | _,_=>none
def HZ(P:Program)(b:Builtin)(c:Call)(type:TypeId)(st:St):Option (Value × St):=match opds st.T c.args.toList with
 | some vs=>match ek vs with
  | true=>match cz P (builtin b c.argTypes type (c.args.map fun | .const _=>true | _=>false) ⟨vs⟩) with
   | some (.value u)=>match bz u with
    | true=>some (u,st)
    | false=>none
   | _=>none
  | false=>none
 | none=>none
def oK(P:Program)(b:Builtin)(c:Call)(type:TypeId)(st:St):Option (Value × St):=match b with
 | .len=>oLen P c st
 | .append=>Yx P c st
 | .copy=>oCopy P c st
 | .min | .max=>HZ P b c type st
 | _=>none
def Vk(P:Program)(c:Call)(type:TypeId)(st:St):Option (Value × St):=match c.callee with
 | .builtin b=>oK P b c type st
 | _=>none
def aOp(P:Program)(op:Op)(type:TypeId)(st:St):Option (Value × St):=
 match op with
 | .move x | .assign x=>keep (opd x st.T) st
 | .pick c a b=>oPick c a b st
 | .alloc e=>Ej P e st
 | .box e x=>oBox e x st
 | .build t parts=>keep (Zv P st.T t parts.toList) st
 | .buildSlice t len parts=>lQ P t len parts st
 | .load t a=>oLoad P t a st
 | .store t a x=>oStore P t a x st
 | .nilCheck x=>zX x st
 | .binOp op t x y _=>oBin P op t x y st
 | .unOp op _ x=>oUn P op x st
 | .convert s d x=>Ew P s d x st
 | .makeFunc fn first cap=>zY fn first cap st
 | .makeSlice t l c=>nJ P t l c st
 | .slice t x lo hi none=>Zx P t x lo hi st
 | .fieldAddr t x f=>wX P t x f st
 | .field t x f=>Zy P t x f st
 | .indexAddr t x i=>wY P t x i st
 | .index t x i=>Zz P t x i st
 | .extract t i=>Ez t i st
 | .call c=>Vk P c type st
 | .makeMap _ none=>Ey st
 | .lookup t m x ok=>Yq P t m x ok st
 | .mapUpdate t m x v=>Yv P t m x v st
 | .mapEntry t m x=>Yw P t m x st
 | .entryStore _ m s v=>oEntSt m s v st
 | _=>none
inductive Ex where
 | norm
 | exit (id:Nat)
 | ret
def putT(T:Tm)(dst:Option Tmp)(v:Value):Tm:=
 match dst with
 | some d=>T.set d (some v)
 | none=>T
def pQ(ops:List Oper)(g:Option (Nat × Bool))(T:Tm):Option Bool:=
 match g with
 | none=>some true
 | some (j,want)=>match ops[j]? with
  | some oj=>match oj.dst with
   | some d=>match T.get d with
    | some (.bool b)=>some (b == want)
    | some (.tuple ⟨[]⟩)=>some false
    | _=>none
   | none=>none
  | none=>none
def resV(P:Program)(T:Tm)(H:Hp):List ResultVar→Option (List Value)
 | []=>some []
 | r::l=>match (match r with
   | .tmp t=>T.get t
   | .cell a t=>match T.get a with
    | some (.pointer (some a))=>az P H t a
    | _=>none) with
  | none=>none
  | some v=>match resV P T H l with
   | none=>none
   | some vs=>some (v::vs)
def oneV:List Value→Value
 | [v]=>v
 | l=>.tuple ⟨l⟩
def pj:Tm→Nat→List Value→Tm
 | T,_,[]=>T
 | T,i,v::l=>pj (T.set i (some v)) (i+1) l
def Dz(H:Hp):List Nat→Option Hp
 | []=>some H
 | i::l=>match H.get i with
  | some .deferred=>Dz (H.set i none) l
  | _=>none
abbrev Rec:=Option Nat→FuncId→Code→St→Option (Ex × St)
def Jw(P:Program)(rec:Rec)(f:FuncId)(args:List Value)(st:St):Option (Value × St):=
 match P.funcs[f]? with
 | none=>none
 | some fn=>match fn.body with
  | none=>none
  | some c => if fn.name == "runtime.NumGoroutine" || fn.ntmps < args.length then none else
   match rec none f c { T:=pj .nil 0 args,H:=st.H,n:=st.n,D:=[] } with
   | some (.exit _,_)=>none
   | some (_,s)=>match Dz s.H s.D with
    | none=>none
    | some H=>match resV P s.T H fn.results.toList with
     | none=>none
     | some vs=>some (oneV vs,{ st with H:=H,n:=s.n })
   | none=>none
def flatV:Value→Bool
 | .bool _ | .int _ _ | .string _=>true
 | .agg ⟨l⟩=>l.all fun | .bool _ | .int _ _ | .string _=>true | _=>false
 | _=>false
def flatTs(P:Program):List TypeId→Bool
 | []=>true
 | t::l=>match jx P t with
  | some z=>match flatV z with
   | true=>flatTs P l
   | false=>false
  | none=>false
def ux(P:Program)(f:FuncId):Bool:=match P.funcs[f]? with
 | some fn=>flatTs P fn.resultTypes.toList
 | none=>false
def callF(P:Program)(rec:Rec)(f:FuncId)(args:List Value)(st:St):Option (Value × St):=
 match ux P f && ek args with
 | false=>Jw P rec f args st
 | true=>match Jw P rec f args { T:=.nil,H:=.nil,n:=0,D:=[] } with
  | some (v,_)=>match bz v with
   | true=>some (v,st)
   | false=>none
  | none=>none
def ntm(P:Program)(f:FuncId):Nat:=match P.funcs[f]? with | some fn=>fn.ntmps | none=>0
def Qw:Ex→Option (Option Code)
 | .norm=>some none
 | .exit id=>some (some (.exit id))
 | .ret=>some (some .ret)
def vk:Tm→Nat→List Tmp→List Value→Option Tm
 | T,_,[],[]=>some T
 | T,N,t::ts,v::vs=>if t<N then vk (T.set t (some v)) N ts vs else none
 | _,_,_,_=>none
def yZ(H:Hp)(l:Nat)(s:LoopState)(pe:Option Code):Option Hp:=
 match H.get l with
 | some (.loop _ _ fn T N ps aS bd d)=>some (H.set l (some (.loop s pe fn T N ps aS bd d)))
 | _=>none
def Oj(H:Hp)(l:Nat):Bool:=
 match H.get l with
 | some (.loop .ready ..)=>true
 | _=>false
def vZ(H:Hp)(l:Nat):Option Code:=
 match H.get l with
 | some (.loop _ pe ..)=>pe
 | _=>none
def Bw(rec : Rec)(P : Program)(l : Nat)(args : List Value)(st : St) : Option (Value × St) :=
 match st.H.get l with
 | some (.loop _ _ fn T N params assign body _) => match Nat.beq N (ntm P fn), vk T N params.toList args with
  | true,some T'=>match rec (some l) fn assign { T:=T',H:=st.H,n:=st.n,D:=[] } with
   | some (.norm, s) => match Oj s.H l, yZ s.H l .busy (vZ s.H l) with
    | true,some H1=>match rec (some l) fn body { s with H:=H1 } with
     | some (ex,s2)=>match Qw ex with
      | none=>none
      | some j=>match yZ s2.H l (if j.isNone then .ready else .done) j with
       | some H2=>some (.bool j.isNone,{ st with H:=H2,n:=s2.n })
       | none=>none
     | none=>none
    | _,_=>none
   | _=>none
  | _,_=>none
 | _=>none
def callV(P:Program)(rec:Rec)(f:Value)(args:List Value)(st:St):Option (Value × St):=
 match f with
 | .func (.func g) first cap=>callF P rec g (first.toList++args++cap.toList) st
 | .func (.yield l) ⟨[]⟩ ⟨[]⟩=>Bw rec P l args st
 | _=>none
def cCall(P:Program)(rec:Rec)(c:Call)(type:TypeId)(st:St):Option (Value × St):=
 match c.callee with
 | .value f=>match opd f st.T,opds st.T c.args.toList with
  | some v,some args=>callV P rec v args st
  | _,_=>none
 | _=>Vk P c type st
def cOp(P:Program)(rec:Rec)(op:Op)(type:TypeId)(st:St):Option (Value × St):=
 match op with
 | .call c=>cCall P rec c type st
 | op=>aOp P op type st
def inN(N:Nat):Option Tmp→Bool
 | none=>true
 | some d=>Nat.blt d N
def evOp1(P:Program)(rec:Rec)(dst:Option Tmp)(op:Op)(type:TypeId)(st:St):Option St:=
 match cOp P rec op type st with
 | none=>none
 | some (v,s)=>some { s with T:=putT s.T dst v }
def evOp(P:Program)(rec:Rec)(N:Nat)(ops:List Oper)(o:Oper)(st:St):Option St:=
 match inN N o.dst with
 | false=>none
 | true=>match pQ ops o.guard st.T with
  | none=>none
  | some false=>some { st with T:=putT st.T o.dst undef }
  | some true=>evOp1 P rec o.dst o.op o.type st
def VJ(P:Program)(rec:Rec)(N:Nat)(ops:List Oper):List Oper→St→Option St
 | [],st=>some st
 | o::l,st=>match evOp P rec N ops o st with
  | none=>none
  | some s=>VJ P rec N ops l s
def seqE(r:Option (Ex × St))(k:St→Option (Ex × St)):Option (Ex × St):=
 match r with
 | some (.norm,s)=>k s
 | r=>r
def Zk(id:Nat)(r:Option (Ex × St)):Option (Ex × St):=
 match r with
 | some (.exit j,s)=>match Nat.beq j id with
  | true=>some (.norm,s)
  | false=>some (.exit j,s)
 | r=>r
def normE(r:Option St):Option (Ex × St):=
 match r with
 | some s=>some (.norm,s)
 | none=>none
def vJ(ro:Option Nat)(st:St):Option (Nat × St):=
 match ro with
 | none=>some (st.n,{ st with H:=st.H.set st.n (some .deferred),n:=st.n+1,D:=st.n::st.D })
 | some l=>match st.H.get l with
  | some (.loop _ _ _ _ _ _ _ _ d)=>some (d,st)
  | _=>none
def zK(l:Nat)(s:St):Option (Ex × St):=
 match s.H.get l with
 | some (.loop .busy ..)=>none
 | some (.loop _ pe fn T N ps aS bd d)=>
  let s:St:={ s with H:=s.H.set l (some (.loop .exhausted pe fn T N ps aS bd d)) }
  match pe with
  | none=>some (.norm,s)
  | some (.exit id)=>some (.exit id,s)
  | some .ret=>some (.ret,s)
  | _=>none
 | _=>none
def ZJ(P:Program)(rec:Rec)(ro:Option Nat)(f:FuncId)(x:Operand)(params:Array Tmp)(assign body:Code)(st:St):Option (Ex × St):=
 match opd x st.T with
 | some (.func (.func g) first cap)=>match vJ ro st with
  | none=>none
  | some (d,st)=>match callF P rec g (first.toList++(.func (.yield st.n) #[] #[])::cap.toList) { st with H:=st.H.set st.n (some (.loop .ready none f st.T (ntm P f) params assign body d)),n:=st.n+1 } with
   | none=>none
   | some (_,s)=>zK st.n s
 | _=>none
abbrev Draw:=FuncId→Nat→List Oper→St→Option St
end
end Go.Ev
end
section
namespace Go.Ev
open Go
abbrev Phi:=Nat→Option (Nat × Nat)
def Phi.le(φ ψ:Phi):Prop:=∀ i p,φ i=some p→ψ i=some p
theorem Phi.le_refl(φ:Phi):φ.le φ:=fun _ _ h=>h
theorem Phi.le_trans{φ ψ χ:Phi}(h:φ.le ψ)(k:ψ.le χ):φ.le χ:=fun i p e=>k i p (h i p e)
def AR(φ:Phi)(a a':Addr):Prop:=(∃ c,φ a.block=some (a'.block,c))∧a'.off=a.off∧a'.spot=a.spot
theorem AR.mono{φ ψ:Phi}(h:φ.le ψ){a a':Addr}:AR φ a a'→AR ψ a a':=fun⟨⟨c,e⟩,r⟩=>⟨⟨c,h _ _ e⟩,r⟩
def CR(φ:Phi)(a:Addr)(n c c':Nat):Prop:=
 (c<capV∧c'=c)∨(c=capV∧a.off=0∧a.spot=none∧n≤c'∧∃ b,φ a.block=some (b,c'))∨(c=capR∧n≤c')
theorem CR.mono{φ ψ:Phi}(h:φ.le ψ){a:Addr}{n c c':Nat}:CR φ a n c c'→CR ψ a n c c':=by
 rintro(e | ⟨e,f,g,i,b,j⟩ | e)
 ·exact .inl e
 ·exact .inr (.inl ⟨e,f,g,i,b,h _ _ j⟩)
 ·exact .inr (.inr e)
def FR(φ:Phi):Fn→Fn→Prop
 | .yield l,g=>∃ l' c,g=.yield l'∧φ l=some (l',c)
 | f,g=>g=f
theorem FR.mono{φ ψ:Phi}(h:φ.le ψ){f g:Fn}(k:FR φ f g):FR ψ f g:=by
 cases f <;> try exact k
 obtain⟨l',c,e,f⟩:=k
 exact⟨l',c,e,h _ _ f⟩
mutual
def VR(φ:Phi):Value→Value→Prop
 | .bool b,v'=>v'=.bool b
 | .int k n,v'=>v'=.int k n
 | .float k n,v'=>v'=.float k n
 | .complex k n m,v'=>v'=.complex k n m
 | .string s,v'=>v'=.string s
 | .pointer none,v'=>v'=.pointer none
 | .pointer (some a),v'=>∃ a',v'=.pointer (some a')∧AR φ a a'
 | .slice none n c,v'=>v'=.slice none n c
 | .slice (some a) n c,v'=>∃ a' c',v'=.slice (some a') n c'∧((AR φ a a'∧CR φ a n c c')∨(n=0∧c=capE))
 | .map none,v'=>v'=.map none
 | .map (some r),v'=>∃ r' c,v'=.map (some r')∧φ r=some (r',c)
 | .chan _,_=>False
 | .func f a b,v'=>∃ f' a' b',v'=.func f' a' b'∧FR φ f f'∧VRA φ a a'∧VRA φ b b'
 | .nilFunc,v'=>v'=.nilFunc
 | .iface t v,v'=>∃ u,v'=.iface t u∧VR φ v u
 | .nilIface,v'=>v'=.nilIface
 | .agg c,v'=>∃ c',v'=.agg c'∧VRA φ c c'
 | .tuple c,v'=>∃ c',v'=.tuple c'∧VRA φ c c'
def VRA(φ:Phi):Array Value→Array Value→Prop
 | ⟨l⟩,a=>VRL φ l a.toList
def VRL(φ:Phi):List Value→List Value→Prop
 | [],l'=>l'=[]
 | v::l,l'=>∃ v' r',l'=v'::r'∧VR φ v v'∧VRL φ l r'
end
mutual
theorem VR.mono{φ ψ:Phi}(h:φ.le ψ):∀ {v v':Value},VR φ v v'→VR ψ v v'
 | .bool _,_,k | .int _ _,_,k | .float _ _,_,k | .complex _ _ _,_,k | .string _,_,k | .pointer none,_,k
 | .slice none _ _,_,k | .map none,_,k | .nilFunc,_,k | .nilIface,_,k=>by simpa only [VR] using k
 | .chan _,_,k=>by simp only[VR] at k
 | .pointer (some a),v',k=>by
  simp only[VR] at *
  obtain⟨a',e,r⟩:=k
  exact⟨a',e,r.mono h⟩
 | .slice (some a) n c,v',k=>by
  simp only[VR] at *
  obtain⟨a',c',e,q⟩:=k
  exact⟨a',c',e,q.imp (fun⟨r,s⟩=>⟨r.mono h,s.mono h⟩) id⟩
 | .map (some r),v',k=>by
  simp only[VR] at *
  obtain⟨r',c,e,f⟩:=k
  exact⟨r',c,e,h _ _ f⟩
 | .func f a b,v',k=>by
  simp only[VR] at *
  obtain⟨f',a',b',e,x,y,z⟩:=k
  exact⟨f',a',b',e,x.mono h,VRA.mono h y,VRA.mono h z⟩
 | .iface t v,v',k=>by
  simp only[VR] at *
  obtain⟨u,e,x⟩:=k
  exact⟨u,e,VR.mono h x⟩
 | .agg c,v',k=>by
  simp only[VR] at *
  obtain⟨u,e,x⟩:=k
  exact⟨u,e,VRA.mono h x⟩
 | .tuple c,v',k=>by
  simp only[VR] at *
  obtain⟨u,e,x⟩:=k
  exact⟨u,e,VRA.mono h x⟩
theorem VRA.mono{φ ψ:Phi}(h:φ.le ψ):∀ {a a':Array Value},VRA φ a a'→VRA ψ a a'
 | ⟨l⟩,a',k=>by
  simp only[VRA] at *
  exact VRL.mono h k
theorem VRL.mono{φ ψ:Phi}(h:φ.le ψ):∀ {l l':List Value},VRL φ l l'→VRL ψ l l'
 | [],_,k=>by simpa only [VRL] using k
 | v::l,l',k=>by
  simp only[VRL] at *
  obtain⟨v',r',e,x,y⟩:=k
  exact⟨v',r',e,VR.mono h x,VRL.mono h y⟩
end
mutual
theorem bz.eq{φ:Phi}:∀ {v v':Value},bz v=true→VR φ v v'→v'=v
 | .bool _,_,_,k | .int _ _,_,_,k | .float _ _,_,_,k | .complex _ _ _,_,_,k | .string _,_,_,k | .pointer none,_,_,k
 | .slice none _ _,_,_,k | .map none,_,_,k | .nilFunc,_,_,k | .nilIface,_,_,k=>by simpa only [VR] using k
 | .chan _,_,_,k=>by simp only[VR] at k
 | .pointer (some a),v',p,k=>by simp [bz] at p
 | .slice (some a) n c,v',p,k=>by simp [bz] at p
 | .map (some r),v',p,k=>by simp [bz] at p
 | .func f a b,v',p,k=>by
  simp only[VR] at k
  obtain⟨f',a',b',rfl,x,y,z⟩:=k
  simp only[bz,Bool.and_eq_true] at p
  rw[lj.eq p.1.2 y,lj.eq p.2 z]
  cases f <;> simp_all [FR]
 | .iface t v,v',p,k=>by
  simp only[VR] at k
  obtain⟨u,rfl,x⟩:=k
  rw[bz.eq (by simpa only [bz] using p) x]
 | .agg c,v',p,k=>by
  simp only[VR] at k
  obtain⟨u,rfl,x⟩:=k
  rw[lj.eq (by simpa only [bz] using p) x]
 | .tuple c,v',p,k=>by
  simp only[VR] at k
  obtain⟨u,rfl,x⟩:=k
  rw[lj.eq (by simpa only [bz] using p) x]
theorem lj.eq{φ:Phi}:∀ {v v':Array Value},lj v=true→VRA φ v v'→v'=v
 | ⟨l⟩,⟨l'⟩,p,k=>by
  simp only[VRA] at k
  rw[show l'=l from ek.eq (by simpa only [lj] using p) k]
theorem ek.eq{φ:Phi}:∀ {v v':List Value},ek v=true→VRL φ v v'→v'=v
 | [],_,_,k=>by simpa only [VRL] using k
 | v::l,l',p,k=>by
  simp only[VRL] at k
  obtain⟨v',r',rfl,x,y⟩:=k
  simp only[ek,Bool.and_eq_true] at p
  rw[bz.eq p.1 x,ek.eq p.2 y]
end
mutual
theorem bz.refl{φ:Phi}:∀ {v:Value},bz v=true→VR φ v v
 | .bool _,_ | .int _ _,_ | .float _ _,_ | .complex _ _ _,_ | .string _,_ | .pointer none,_
 | .slice none _ _,_ | .map none,_ | .nilFunc,_ | .nilIface,_=>by simp only[VR]
 | .chan _,p=>by simp [bz] at p
 | .pointer (some a),p=>by simp [bz] at p
 | .slice (some a) n c,p=>by simp [bz] at p
 | .map (some r),p=>by simp [bz] at p
 | .func f a b,p=>by
  simp only[bz,Bool.and_eq_true] at p
  simp only[VR]
  refine⟨f,a,b,rfl,?_,lj.refl p.1.2,lj.refl p.2⟩
  cases f <;> simp_all [FR]
 | .iface t v,p=>by
  simp only[VR]
  exact⟨v,rfl,bz.refl (by simpa only [bz] using p)⟩
 | .agg c,p=>by
  simp only[VR]
  exact⟨c,rfl,lj.refl (by simpa only [bz] using p)⟩
 | .tuple c,p=>by
  simp only[VR]
  exact⟨c,rfl,lj.refl (by simpa only [bz] using p)⟩
theorem lj.refl{φ:Phi}:∀ {v:Array Value},lj v=true→VRA φ v v
 | ⟨l⟩,p=>by
  simp only[VRA]
  exact ek.refl (by simpa only [lj] using p)
theorem ek.refl{φ:Phi}:∀ {v:List Value},ek v=true→VRL φ v v
 | [],_=>by simp only[VRL]
 | v::l,p=>by
  simp only[ek,Bool.and_eq_true] at p
  simp only[VRL]
  exact⟨v,l,rfl,bz.refl p.1,ek.refl p.2⟩
end
theorem VRL.length{φ:Phi}:∀ {l l':List Value},VRL φ l l'→l'.length=l.length
 | [],_,k=>by simp only[VRL] at k; simp [k]
 | v::l,l',k=>by
  simp only[VRL] at k
  obtain⟨v',r',rfl,x,y⟩:=k
  simp [VRL.length y]
theorem VRL.get{φ:Phi}:∀ {l l':List Value},VRL φ l l'→∀ {i:Nat} {v:Value},l[i]?=some v→∃ v',l'[i]?=some v'∧VR φ v v'
 | [],_,k,i,v,h=>by simp at h
 | v::l,l',k,i,u,h=>by
  simp only[VRL] at k
  obtain⟨v',r',rfl,x,y⟩:=k
  cases i with
  | zero=>simp at h; subst h; exact⟨v',by simp,x⟩
  | succ i=>simp at h; simpa using y.get h
theorem VRL.append{φ:Phi}:∀ {l l' m m':List Value},VRL φ l l'→VRL φ m m'→VRL φ (l++m) (l'++m')
 | [],_,m,m',k,j=>by simp only[VRL] at k; simpa [k] using j
 | v::l,l',m,m',k,j=>by
  simp only[VRL] at k
  obtain⟨v',r',rfl,x,y⟩:=k
  simp only[List.cons_append,VRL]
  exact⟨v',r'++m',rfl,x,y.append j⟩
theorem VRL.drop{φ:Phi}:∀(n:Nat) {l l':List Value},VRL φ l l'→VRL φ (l.drop n) (l'.drop n)
 | 0,_,_,k=>by simpa using k
 | n+1,[],_,k=>by simp only[VRL] at k; simp [k,VRL]
 | n+1,v::l,l',k=>by
  simp only[VRL] at k
  obtain⟨v',r',rfl,x,y⟩:=k
  simpa using y.drop n
theorem VRL.take{φ:Phi}:∀(n:Nat) {l l':List Value},VRL φ l l'→VRL φ (l.take n) (l'.take n)
 | 0,_,_,_=>by simp [VRL]
 | n+1,[],_,k=>by simp only[VRL] at k; simp [k,VRL]
 | n+1,v::l,l',k=>by
  simp only[VRL] at k
  obtain⟨v',r',rfl,x,y⟩:=k
  simp only[List.take_succ_cons,VRL]
  exact⟨v',_,rfl,x,y.take n⟩
theorem VRL.nil{φ:Phi}:VRL φ [] []:=by simp only[VRL]
theorem VRL.cons{φ:Phi}{v v':Value}{l l':List Value}(h:VR φ v v')(k:VRL φ l l'):VRL φ (v::l) (v'::l'):=by
 simp only[VRL]; exact⟨v',l',rfl,h,k⟩
theorem VRL.of_get{φ:Phi}:∀ {l l':List Value},l'.length=l.length→(∀(j:Nat) v,l[j]?=some v→∃ v',l'[j]?=some v'∧VR φ v v')→VRL φ l l'
 | [],[],_,_=>VRL.nil
 | [],_::_,h,_=>by simp at h
 | _::_,[],h,_=>by simp at h
 | v::l,v'::l',h,k=>by
  obtain⟨u,a,b⟩:=k 0 v (by simp)
  simp at a; subst a
  exact VRL.cons b (VRL.of_get (by simpa using h) fun j w e=>by simpa using k (j+1) w (by simpa using e))
def Pre(φ:Phi)(l l':List Value):Prop:=VRL φ l (l'.take l.length)
theorem Pre.mono{φ ψ:Phi}(h:φ.le ψ){l l':List Value}(k:Pre φ l l'):Pre ψ l l':=VRL.mono h k
theorem Pre.le{φ:Phi}{l l':List Value}(k:Pre φ l l'):l.length≤l'.length:=by
 have:=VRL.length k; simp at this; omega
theorem Pre.of{φ:Phi}{l l':List Value}(k:VRL φ l l'):Pre φ l l':=by
 unfold Pre; rw[List.take_of_length_le (by rw[k.length]; exact Nat.le_refl _)]; exact k
end Go.Ev
end
section
namespace Go.Ev
open Go
def spl(l:List Value)(k:Nat)(vs:List Value):List Value:=l.take k++vs++l.drop (k+vs.length)
theorem over_eq:∀(l vs r:List Value),lX.over l vs=some r→r=vs++l.drop vs.length∧vs.length≤l.length
 | l,[],r,h=>by simp [lX.over] at h; simp [h]
 | [],v::vs,r,h=>by simp [lX.over] at h
 | x::l,v::vs,r,h=>by
  simp only[lX.over] at h
  split at h
  ·simp at h
  ·rename_i q hq
   simp at h; subst h
   obtain⟨e,f⟩:=over_eq l vs q hq
   simp [e]; exact f
theorem Qy:∀(k:Nat) (l vs r:List Value),lX l k vs=some r→r=spl l k vs∧k+vs.length≤l.length
 | 0,l,vs,r,h=>by
  simp only[lX] at h
  obtain⟨e,f⟩:=over_eq l vs r h
  simp [spl,e]; exact f
 | k+1,[],vs,r,h=>by simp [lX] at h
 | k+1,x::l,vs,r,h=>by
  simp only[lX] at h
  split at h
  ·simp at h
  ·rename_i q hq
   simp at h; subst h
   obtain⟨e,f⟩:=Qy k l vs q hq
   subst e
   constructor
   ·simp [spl,Nat.add_right_comm k 1]
   ·simp; omega
theorem spl_length(l:List Value)(k:Nat)(vs:List Value)(h:k+vs.length≤l.length):(spl l k vs).length=l.length:=by
 simp [spl]; omega
theorem Pre.spl{φ:Phi}{l l' vs vs':List Value}{k:Nat}(h:Pre φ l l')(g:VRL φ vs vs')(hk:k+vs.length≤l.length) :
  Pre φ (spl l k vs) (spl l' k vs'):=by
 have hl:=g.length
 have hle:=h.le
 unfold Pre at *
 rw[spl_length _ _ _ hk]
 have e:(Ev.spl l' k vs').take l.length=Ev.spl (l'.take l.length) k vs':=by
  have m1:min l.length k=k:=by omega
  have m2:min k l'.length=k:=by omega
  have m3:min k l.length=k:=by omega
  have t:vs'.take (l.length-k)=vs':=List.take_of_length_le (by omega)
  simp only[Ev.spl,List.take_append,List.take_take,List.drop_take,List.length_append,List.length_take,hl,m1,m2,m3,t]
 rw[e]
 unfold Ev.spl
 have h1:=(h.take k).append g
 have h2:=h1.append (h.drop (k+vs.length))
 rw[← hl] at h2
 simpa [hl] using h2
def TR(φ:Phi)(T:Tm)(t:Array Value):Prop:=∀ i v,T.get i=some v→∃ v',t[i]?=some v'∧VR φ v v'
theorem TR.mono{φ ψ:Phi}(h:φ.le ψ){T:Tm}{t:Array Value}(k:TR φ T t):TR ψ T t:=
 fun i v e=>let ⟨v',a,b⟩:=k i v e; ⟨v',a,b.mono h⟩
def BR(φ:Phi):Blk→Obj→Nat→Prop
 | .cells c e ro vec,o,cp=>∃ arr fr,o=.cells arr e fr∧(ro=false→fr=(0,0))∧Pre φ c arr.toList∧(∀ s,vec=some s→arr.size=cp * s)
 | .loop st pe fn T N ps aS bd d,o,_=>∃ r,o=.loop r∧r.state=st∧r.pending=pe∧r.fn=fn∧r.tmps.size=N∧TR φ T r.tmps∧r.params=ps∧r.assign=aS∧r.body=bd∧∃ c,φ d=some (r.defers,c)
 | .deferred,o,_=>o=.deferred (some [])
 | .map es c,o,_=>o=.map ⟨es⟩ c
 | .rows c,o,_=>∃ arr e fr,o=.cells arr e fr∧∀(j:Nat) v,c[j]?=some v→nq v=true→∃ v',arr[j]?=some v'∧VR φ v v'
 | .fam c e s _ _,o,cp=>∃ arr,o=.cells arr e (0,0)∧Pre φ c arr.toList∧arr.size=cp * s∧0<cp
theorem BR.mono{φ ψ:Phi}(h:φ.le ψ){b:Blk}{o:Obj}{c:Nat}(k:BR φ b o c):BR ψ b o c:=by
 cases b with
 | cells c e ro vec=>
  obtain⟨arr,fr,a,b,c,d⟩:=k
  exact⟨arr,fr,a,b,c.mono h,d⟩
 | loop st pe fn T N ps aS bd d=>
  obtain⟨r,a,b,c,d,e,f,g,i,j,u,v⟩:=k
  exact⟨r,a,b,c,d,e,f.mono h,g,i,j,u,h _ _ v⟩
 | deferred=>exact k
 | map es c=>exact k
 | rows c=>
  obtain⟨arr,e,fr,x,y⟩:=k
  exact⟨arr,e,fr,x,fun j v a b=>let ⟨v',p,q⟩:=y j v a b; ⟨v',p,q.mono h⟩⟩
 | fam c e s A D=>
  obtain⟨arr,a,b,c⟩:=k
  exact⟨arr,a,b.mono h,c⟩
def Blk.isFam:Blk→Bool
 | .fam ..=>true
 | _=>false
def Kin(i:Nat)(b:Blk)(j:Nat)(c:Blk):Prop:=∃ l e s A D l' e' s' A' D',b=.fam l e s A D∧c=.fam l' e' s' A' D' ∧
 ((i ∈ A'∧j ∈ D∧l.length≤l'.length)∨(j ∈ A∧i ∈ D'∧l'.length≤l.length))
theorem Kin.left{i j:Nat}{b c:Blk}(h:Kin i b j c)(hb:b.isFam=false):False:=by
 obtain⟨_,_,_,_,_,_,_,_,_,_,rfl,_⟩:=h; cases hb
theorem Kin.right{i j:Nat}{b c:Blk}(h:Kin i b j c)(hb:c.isFam=false):False:=by
 obtain⟨_,_,_,_,_,_,_,_,_,_,_,rfl,_⟩:=h; cases hb
theorem Kin.symm{i j:Nat}{b c:Blk}(h:Kin i b j c):Kin j c i b:=by
 obtain⟨l,e,s,A,D,l',e',s',A',D',h1,h2,h3⟩:=h
 exact⟨l',e',s',A',D',l,e,s,A,D,h2,h1,h3.symm⟩
def Blk.ro:Blk→Bool
 | .cells _ _ r _=>r
 | .rows _=>true
 | _=>false
structure Sets where
 w:Nat→Prop
 r:Nat→Prop
def frOb:Option Obj→Nat × Nat
 | some (.cells _ _ fr)=>fr
 | _=>(0,0)
theorem BR.fr{φ:Phi}{b:Blk}{o:Obj}{c:Nat}(h:BR φ b o c)(hr:b.ro=false):frOb (some o)=(0,0):=by
 cases b with
 | cells l e ro vec=>
  obtain⟨arr,fr,rfl,g,_⟩:=h
  exact g hr
 | loop st pe fn T N ps aS bd d=>
  obtain⟨r,rfl,_⟩:=h
  rfl
 | deferred=>simp only[BR] at h; subst h; rfl
 | map es c=>simp only[BR] at h; subst h; rfl
 | rows c=>cases hr
 | fam c e s A D=>
  obtain⟨arr,rfl,_⟩:=h
  rfl
structure I (w₀:World) (W:Sets) (φ:Phi) (H:Hp) (n:Nat) (w:World):Prop where
 dom:∀ i p,φ i=some p→i<n
 rel:∀ i b,H.get i=some b→∃ p o,φ i=some p∧w.heap[p.1]?=some o∧BR φ b o p.2
 inj:∀ i j b c p q,H.get i=some b→H.get j=some c→φ i=some p→φ j=some q→p.1=q.1→i=j∨Kin i b j c
 keep:∀ b,b<w₀.heap.size→¬ W.w b→w.heap[b]?=w₀.heap[b]?
 size:w₀.heap.size≤w.heap.size
 wr:∀ i b p,H.get i=some b→b.ro=false→φ i=some p→W.w p.1∨w₀.heap.size≤p.1
 src:∀ i b p,H.get i=some b→φ i=some p→W.r p.1∨w₀.heap.size≤p.1
 os:w.os=w₀.os
 tape:w.tape=w₀.tape
 output:w.output=w₀.output
 fz:∀ b:Nat,frOb w.heap[b]?=frOb w₀.heap[b]?
variable {w₀:World} {W:Sets} {φ:Phi} {H:Hp} {n:Nat} {w:World}
theorem I.lt(h:I w₀ W φ H n w){i:Nat}{b:Blk}{p:Nat × Nat}(hi:H.get i=some b)(hp:φ i=some p):p.1<w.heap.size:=by
 obtain⟨q,o,f,g,_⟩:=h.rel i b hi
 rw[hp] at f; cases f
 exact(Array.getElem?_eq_some_iff.1 g).1
theorem I.drew(h:I w₀ W φ H n w)(k:Nat):I w₀ W φ H n { w with drawn:=k }:=
 ⟨h.dom,h.rel,h.inj,h.keep,h.size,h.wr,h.src,h.os,h.tape,h.output,h.fz⟩
structure Ext (φ:Phi) (n:Nat) (ψ:Phi) (m:Nat):Prop where
 le:φ.le ψ
 new:∀ i p,ψ i=some p→φ i=some p∨n≤i
 n:n≤m
theorem Ext.refl(φ:Phi)(n:Nat):Ext φ n φ n:=⟨Phi.le_refl _,fun _ _ h=>.inl h,Nat.le_refl _⟩
theorem Ext.trans{φ ψ χ:Phi}{n m k:Nat}(h:Ext φ n ψ m)(g:Ext ψ m χ k):Ext φ n χ k:=
 ⟨Phi.le_trans h.le g.le,fun i p e=>by
  rcases g.new i p e with x | x
  ·exact h.new i p x
  ·exact .inr (Nat.le_trans h.n x),Nat.le_trans h.n g.n⟩
def ext(φ:Phi)(n:Nat)(p:Nat × Nat):Phi:=fun i=>if i=n then some p else φ i
theorem Ek{p:Nat × Nat}(h:φ n=none):φ.le (ext φ n p):=by
 intro i q e
 unfold ext
 split
 ·rename_i x; subst x; rw[h] at e; cases e
 ·exact e
theorem cW(φ:Phi)(n:Nat)(p:Nat × Nat):ext φ n p n=some p:=by simp [ext]
theorem I.free(h:I w₀ W φ H n w):φ n=none:=by
 cases e:φ n with
 | none=>rfl
 | some p=>have:=h.dom n p e; omega
theorem I.ext_push(h:I w₀ W φ H n w)(p:Nat × Nat):Ext φ n (ext φ n p) (n+1):=
 ⟨Ek h.free,fun i q e=>by
  unfold ext at e
  split at e
  ·exact .inr (by omega)
  ·exact .inl e,Nat.le_succ n⟩
theorem I.kill(h:I w₀ W φ H n w)(k:Nat):I w₀ W φ (H.set k none) n w:=by
 have g:∀ i b,(H.set k none).get i=some b→H.get i=some b:=by
  intro i b e
  rw[Tr.get_set] at e
  split at e
  ·cases e
  ·exact e
 exact⟨h.dom,fun i b e=>h.rel i b (g i b e),fun i j b c p q e f=>h.inj i j b c p q (g i b e) (g j c f),h.keep,h.size,fun i b p e=>h.wr i b p (g i b e),fun i b p e=>h.src i b p (g i b e),h.os,h.tape,h.output,h.fz⟩
theorem frOb_push(h:I w₀ W φ H n w){o:Obj}(ho:frOb (some o)=(0,0))(b:Nat):frOb (w.heap.push o)[b]?=frOb w₀.heap[b]?:=by
 rw[← h.fz b,Array.getElem?_push]
 split
 ·rename_i q; rw[q,ho,Array.getElem?_eq_none (Nat.le_refl _)]; rfl
 ·rfl
theorem ZQ(h:I w₀ W φ H n w){o o':Obj}{i:Nat}(hi:w.heap[i]?=some o)(ho:frOb (some o)=(0,0))(ho':frOb (some o')=(0,0))(b:Nat) :
  frOb (w.heap.setIfInBounds i o')[b]?=frOb w₀.heap[b]?:=by
 rw[← h.fz b,Array.getElem?_setIfInBounds]
 split
 ·rename_i q
  subst q
  rw[hi,ho]
  split
  ·exact ho'
  ·rfl
 ·rfl
theorem I.push(h:I w₀ W φ H n w){b:Blk}{o:Obj}{cp:Nat}(hb:BR φ b o cp)(hro:b.ro=false:=by rfl) :
  I w₀ W (ext φ n (w.heap.size,cp)) (H.set n (some b)) (n+1) { w with heap:=w.heap.push o }:=by
 have hle:=Ek (p:=(w.heap.size,cp)) h.free
 refine⟨?_,?_,?_,?_,?_,?_,?_,h.os,h.tape,h.output,frOb_push h (hb.fr hro)⟩
 ·intro i p e
  unfold ext at e
  split at e
  ·rename_i x; subst x; cases e; omega
  ·have:=h.dom i p e; omega
 ·intro i c e
  rw[Tr.get_set] at e
  split at e
  ·rename_i x; subst x; cases e
   exact⟨_,o,cW _ _ _,by simp,hb.mono hle⟩
  ·obtain ⟨p, o', f, g, k⟩ := h.rel i c e
   refine⟨p,o',hle _ _ f,?_,k.mono hle⟩
   have:=h.lt e f
   show(w.heap.push o)[p.1]?=_
   rw[Array.getElem?_push,if_neg (by omega)]; exact g
 ·intro i j c d p q e f g k x
  rw[Tr.get_set] at e f
  have new:∀ i c p,H.get i=some c→ext φ n (w.heap.size,cp) i=some p→i≠n→p.1<w.heap.size:=by
   intro i c p e g ne
   unfold ext at g; rw[if_neg ne] at g; exact h.lt e g
  split at e <;> split at f
  ·rename_i a b; exact .inl (by rw[a,b])
  ·rename_i a b
   subst a; rw[cW] at g; cases g
   have:=new j d q f k b; simp at x; omega
  ·rename_i a b
   subst b; rw[cW] at k; cases k
   have:=new i c p e g a; simp at x; omega
  ·rename_i a b
   unfold ext at g k
   rw[if_neg a] at g; rw[if_neg b] at k
   exact h.inj i j c d p q e f g k x
 ·intro b hb nb
  show(w.heap.push o)[b]?=_
  rw[Array.getElem?_push,if_neg (by have:=h.size; omega)]; exact h.keep b hb nb
 ·have:=h.size; simp; omega
 ·intro i c p e r g
  rw[Tr.get_set] at e
  split at e
  ·rename_i x; subst x; rw [cW] at g; cases g
   exact .inr h.size
  ·rename_i x
   unfold ext at g; rw[if_neg x] at g
   exact h.wr i c p e r g
 ·intro i c p e g
  rw[Tr.get_set] at e
  split at e
  ·rename_i x; subst x; rw [cW] at g; cases g
   exact .inr h.size
  ·rename_i x
   unfold ext at g; rw[if_neg x] at g
   exact h.src i c p e g
theorem I.inj'(h:I w₀ W φ H n w){i j:Nat}{b c:Blk}{p q:Nat × Nat}(hi:H.get i=some b)(hj:H.get j=some c)(hp:φ i=some p)(hq:φ j=some q)(e:p.1=q.1)(hf:b.isFam=false):i=j:=
 (h.inj i j b c p q hi hj hp hq e).resolve_right fun k=>k.left hf
theorem I.put(h:I w₀ W φ H n w){i:Nat}{b b':Blk}{o':Obj}{p:Nat × Nat}(hi:H.get i=some b)(hp:φ i=some p)(hr:b.ro=false)
  (hb:BR φ b' o' p.2) (hro:b'.ro=false:=by rfl) (hfam:b.isFam=false:=by rfl):I w₀ W φ (H.set i (some b')) n { w with heap:=w.heap.setIfInBounds p.1 o' }:=by
 have hlt:=h.lt hi hp
 have hold:∃ o,w.heap[p.1]?=some o∧frOb (some o)=(0,0):=by
  obtain⟨q,o,f,g,k⟩:=h.rel i b hi
  rw[hp] at f; cases f
  exact⟨o,g,k.fr hr⟩
 obtain⟨o0,hold1,hold2⟩:=hold
 refine⟨?_,?_,?_,?_,?_,?_,?_,h.os,h.tape,h.output,ZQ h hold1 hold2 (hb.fr hro)⟩
 ·intro j q e; exact h.dom j q e
 ·intro j c e
  rw[Tr.get_set] at e
  split at e
  ·rename_i x; subst x; cases e
   exact⟨p,o',hp,by simp [hlt],hb⟩
  ·rename_i x
   obtain⟨q,o,f,g,k⟩:=h.rel j c e
   refine⟨q,o,f,?_,k⟩
   have ne:p.1≠q.1:=fun y=>x (h.inj' hi e hp f y hfam).symm
   show(w.heap.setIfInBounds p.1 o')[q.1]?=_
   rw[Array.getElem?_setIfInBounds_ne ne]; exact g
 ·intro j k c d q r e f g g' x
  rw[Tr.get_set] at e f
  by_cases hj:j=i
  ·subst hj
   by_cases hk:k=j
   ·exact .inl hk.symm
   ·rw [if_neg hk] at f
    exact .inl (h.inj' hi f g g' x hfam)
  ·rw [if_neg hj] at e
   by_cases hk:k=i
   ·subst hk
    exact .inl (h.inj' hi e g' g x.symm hfam).symm
   ·rw [if_neg hk] at f
    exact h.inj j k c d q r e f g g' x
 ·intro c hc nc
  have ne:p.1≠c:=by
   intro y; subst y
   rcases h.wr i b p hi hr hp with a | a
   ·exact nc a
   ·omega
  show(w.heap.setIfInBounds p.1 o')[c]?=_
  rw[Array.getElem?_setIfInBounds_ne ne]; exact h.keep c hc nc
 ·simpa using h.size
 ·intro j c q e r g
  rw[Tr.get_set] at e
  split at e
  ·rename_i x; subst x; exact h.wr j b q hi hr g
  ·exact h.wr j c q e r g
 ·intro j c q e g
  rw[Tr.get_set] at e
  split at e
  ·rename_i x; subst x; exact h.src j b q hi g
  ·exact h.src j c q e g
end Go.Ev
end
section
namespace Go.Ev
open Go
variable {P:Program} {w₀:World} {W:Sets} {φ:Phi} {st st':St} {w:World} {a:Act}
theorem cJ{x:Operand}{T:Tm}{v:Value}(ht:TR φ T a.tmps)(e:opd x T=some v):VR φ v (a.eval x):=by
 cases x with
 | tmp t=>
  obtain⟨v',f,g⟩:=ht t v e
  simp only[Act.eval,Array.getD_eq_getD_getElem?,f]; exact g
 | const c=>
  simp only[opd] at e
  split at e
  ·rename_i p; cases e; exact bz.refl p
  ·cases e
 | func f=>simp only[opd] at e; cases e; simp only[VR,Act.eval]; exact⟨_,_,_,rfl,rfl,VRL.nil (φ:=φ),VRL.nil (φ:=φ)⟩
 | global g=>simp [opd] at e
theorem HK{T:Tm}(ht:TR φ T a.tmps):∀ {l:List Operand} {vs:List Value},opds T l=some vs→VRL φ vs (l.map a.eval)
 | [],vs,e=>by simp [opds] at e; subst e; exact VRL.nil
 | x::l,vs,e=>by
  simp only[opds] at e
  split at e
  ·cases e
  ·rename_i v hv
   split at e
   ·cases e
   ·rename_i us hu
    cases e
    exact VRL.cons (cJ ht hv) (HK ht hu)
def Done(P:Program)(m:Sem Next)(w₀:World)(W:Sets)(φ:Phi)(w:World)(st:St)(v:Value)(st':St):Prop:=
 ∃ φ' v' w',(m.run P w=.ok (.value v') w'∨(m.run P w=.ok .skip w'∧v'=undef))∧Ext φ st.n φ' st'.n∧I w₀ W φ' st'.H st'.n w'∧VR φ' v v'∧st'.T=st.T∧st'.D=st.D
theorem Done.same{m:Sem Next}{v v':Value}(h:I w₀ W φ st.H st.n w)(hm:m.run P w=.ok (.value v') w)(hv:VR φ v v'):Done P m w₀ W φ w st v st:=
 ⟨φ,v',w,.inl hm,Ext.refl _ _,h,hv,rfl,rfl⟩
theorem Aj{o:Option Value}{v:Value}(e:keep o st=some (v,st')):o=some v∧st'=st:=by
 cases o with
 | none=>simp [keep] at e
 | some u=>simp [keep] at e; exact⟨by rw[e.1],e.2.symm⟩
theorem fq(v:Value):aQ v=v.cells.toList:=by cases v <;> rfl
theorem VR.cells{v v':Value}(h:VR φ v v'):VRL φ (aQ v) (aQ v'):=by
 have one:∀ {v v':Value},VR φ v v'→VRL φ [v] [v']:=fun h=>VRL.cons h VRL.nil
 cases v with
 | agg c=>simp only[VR] at h; obtain⟨c',rfl,r⟩:=h; cases c; simpa only [VRA,aQ] using r
 | pointer a=>cases a <;> (have k:=h; simp only[VR] at k) <;> first | (subst k; exact one h) | (obtain⟨a',rfl,r⟩:=k; exact one h)
 | slice a n c=>cases a <;> (have k:=h; simp only[VR] at k) <;> first | (subst k; exact one h) | (obtain⟨a',c',rfl,r⟩:=k; exact one h)
 | map a=>cases a <;> (have k:=h; simp only[VR] at k) <;> first | (subst k; exact one h) | (obtain⟨a',c',rfl,r⟩:=k; exact one h)
 | func f b c=>have k:=h; simp only[VR] at k; obtain⟨f',b',c',rfl,r⟩:=k; exact one h
 | iface t u=>have k:=h; simp only[VR] at k; obtain⟨u',rfl,r⟩:=k; exact one h
 | tuple c=>have k:=h; simp only[VR] at k; obtain⟨c',rfl,r⟩:=k; exact one h
 | chan c=>simp only[VR] at h
 | _=>(have k:=h; simp only[VR] at k; subst k; exact one h)
theorem VR.leaf{v v':Value}(h:VR φ v v')(l:oQ v=true):v'.oneCell'=true:=by
 cases v with
 | agg c=>simp [oQ] at l
 | tuple c=>simp [oQ] at l
 | pointer a=>cases a <;> simp only[VR] at h <;> first | (subst h; rfl) | (obtain⟨a',rfl,r⟩:=h; rfl)
 | slice a n c=>cases a <;> simp only[VR] at h <;> first | (subst h; rfl) | (obtain⟨a',c',rfl,r⟩:=h; rfl)
 | map a=>cases a <;> simp only[VR] at h <;> first | (subst h; rfl) | (obtain⟨a',c',rfl,r⟩:=h; rfl)
 | func f b c=>simp only[VR] at h; obtain⟨f',b',c',rfl,r⟩:=h; rfl
 | iface t u=>simp only[VR] at h; obtain⟨u',rfl,r⟩:=h; rfl
 | chan c=>simp only[VR] at h
 | _=>(simp only[VR] at h; subst h; rfl)
theorem VRL.leaf:∀ {l l':List Value},VRL φ l l'→l.all oQ=true→∀ v ∈ l',v.oneCell'=true
 | [],l',h,_=>by simp only[VRL] at h; subst h; simp
 | v::l,l',h,a=>by
  simp only[VRL] at h
  obtain⟨v',r',rfl,x,y⟩:=h
  simp only[List.all_cons,Bool.and_eq_true] at a
  intro u hu
  rcases List.mem_cons.1 hu with rfl | hu
  ·exact x.leaf a.1
  ·exact y.leaf a.2 u hu
theorem jK{t:TypeId}{z:Value}(e:jx P t=some z)(w:World):(zeroValue t).run P w=.ok z w∧bz z=true:=by
 unfold jx at e
 split at e
 ·rename_i i hi
  split at e
  ·rename_i v hv
   split at e
   ·rename_i p; cases e
    refine⟨?_,p⟩
    simp [zeroValue,typeInfo,hi,hv]
   ·cases e
  ·cases e
 ·cases e
theorem fY{t:TypeId}{s:Nat}(e:szT P t=some s)(w:World):(sizeOf t).run P w=.ok s w:=by
 unfold szT at e
 split at e
 ·rename_i i hi; cases e; simp [sizeOf,typeInfo,hi]
 ·cases e
theorem By{t:TypeId}{s:Nat}(e:sK P t=some s)(w:World):∃ i,(typeInfo t).run P w=.ok i w∧i.bytes=s:=by
 unfold sK at e
 split at e
 ·rename_i i hi; cases e; exact⟨i,by simp [typeInfo,hi],rfl⟩
 ·cases e
theorem cx{t:TypeId}{d:TypeDesc}(e:P.underlying t=some d)(w:World):(underlying t).run P w=.ok d w:=by
 simp [underlying,e]
theorem jy{t:TypeId}{b:Bool}(e:oW P t=some b)(w:World):(isAgg t).run P w=.ok b w:=by
 unfold oW at e
 split at e
 ·rename_i fs h; cases e; simp [isAgg,cx h]
 ·rename_i x y h; cases e; simp [isAgg,cx h]
 ·rename_i d h1 h2 h; cases e
  simp only[isAgg,Sem.run_bind,cx h,Result.andThen_ok]
  rfl
 ·cases e
theorem iw{t e:TypeId}(h:dY P t=some e):P.underlying t=some (.slice e):=by
 unfold dY at h
 split at h
 ·rename_i x hx; cases h; exact hx
 ·cases h
theorem JK{l r:List Value}{o n:Nat}(e:cut l o n=some r):r=(l.drop o).take n∧r.length=n:=by
 unfold cut at e
 simp only at e
 split at e
 ·rename_i h; cases e; exact⟨rfl,h⟩
 ·cases e
theorem part_ok{t:TypeId}{c c':List Value}{o:Nat}{v:Value}(hc:VRL φ c c')(e:lq P t c o=some v)(w:World) :
  ∃ v',(part t ⟨c'⟩ o).run P w=.ok v' w∧VR φ v v':=by
 unfold lq at e
 split at e
 ·rename_i h
  split at e
  ·rename_i s hs
   split at e
   ·rename_i l hl
    cases e
    obtain⟨rfl,hlen⟩:=JK hl
    refine⟨.agg ⟨(c'.drop o).take s⟩,?_,?_⟩
    ·simp only [part, Sem.run_bind, jy h, Result.andThen_ok, if_true, fY hs, Sem.run_pure]
     congr 2
     apply Array.ext'
     simp [List.extract_eq_take_drop]
    ·simp only [VR]
     exact⟨_,rfl,by simpa only [VRA] using (hc.drop o).take s⟩
   ·cases e
  ·cases e
 ·rename_i h
  obtain⟨v',f,g⟩:=hc.get e
  refine⟨v',?_,g⟩
  simp [part,jy h,f]
 ·cases e
end Go.Ev
end
section
namespace Go.Ev
open Go
variable {P:Program} {w₀:World} {W:Sets} {φ:Phi} {st st':St} {w:World} {a:Act} {H:Hp} {n:Nat}
theorem wZ(b o i:Nat):(⟨b,o,none⟩:Addr).add i=⟨b,o+i,none⟩:=by unfold Addr.add; split <;> simp_all
theorem row_of(h:I w₀ W φ H n w){i:Nat}{c:List Value}{e:TypeId}{ro:Bool}{vec:Option Nat}(hi:H.get i=some (.cells c e ro vec)) :
  ∃ p arr fr,φ i=some p∧w.heap[p.1]?=some (.cells arr e fr)∧(ro=false→fr=(0,0))∧Pre φ c arr.toList∧(∀ s,vec=some s→arr.size=p.2 * s):=by
 obtain⟨p,o,f,g,k⟩:=h.rel i _ hi
 obtain⟨arr,fr,rfl,x,y,z⟩:=k
 exact⟨p,arr,fr,f,g,x,y,z⟩
theorem ZV(h:I w₀ W φ H n w){i:Nat}{c:List Value}{e s:Nat}{A D:List Nat}(hi:H.get i=some (.fam c e s A D)) :
  ∃ p arr,φ i=some p∧w.heap[p.1]?=some (.cells arr e (0,0))∧Pre φ c arr.toList∧arr.size=p.2 * s∧0<p.2:=by
 obtain⟨p,o,f,g,k⟩:=h.rel i _ hi
 obtain⟨arr,rfl,y,z⟩:=k
 exact⟨p,arr,f,g,y,z⟩
theorem Oq{c l:List Value}{o m b:Nat}{arr:Array Value}{e:TypeId}{fr:Nat × Nat}(hp:Pre φ c arr.toList)(hb:w.heap[b]?=some (.cells arr e fr))(hc:cut c o m=some l) :
  ∃ l',VRL φ l l'∧(loadCells ⟨b,o,none⟩ m).run P w=.ok ⟨l'⟩ w:=by
 obtain⟨rfl,hl⟩:=JK hc
 refine⟨((arr.toList.take c.length).drop o).take m,(hp.drop o).take m,?_⟩
 have hlen:=((hp.drop o).take m).length
 rw[hl] at hlen
 have:=run_loadCells_list (P:=P) w ⟨b,o,none⟩ (((arr.toList.take c.length).drop o).take m) ?_
 ·rw[hlen] at this; exact this
 ·intro j v hj
  rw[wZ]
  rw[List.getElem?_take] at hj
  split at hj
  ·rw [List.getElem?_drop, List.getElem?_take] at hj
   split at hj
   ·simp only [World.cell?, hb]
    simpa using hj
   ·cases hj
  ·cases hj
theorem cut_rows{c l:List Value}{o m b:Nat}{arr:Array Value}{e:TypeId}{fr:Nat × Nat}(hp:∀(j:Nat) v,c[j]?=some v→nq v=true→∃ v',arr[j]?=some v'∧VR φ v v')
  (hb:w.heap[b]?=some (.cells arr e fr)) (hc:cut c o m=some l) (hh:l.all nq=true) :
  ∃ l',VRL φ l l'∧(loadCells ⟨b,o,none⟩ m).run P w=.ok ⟨l'⟩ w:=by
 obtain⟨rfl,hl⟩:=JK hc
 have each:∀(j:Nat) v,((c.drop o).take m)[j]?=some v→∃ v',((arr.toList.drop o).take m)[j]?=some v'∧VR φ v v':=by
  intro j v hj
  have hmem:=List.all_eq_true.1 hh v (List.mem_of_getElem? hj)
  rw[List.getElem?_take] at hj ⊢
  split at hj
  ·rename_i hlt
   rw[List.getElem?_drop] at hj
   obtain⟨v',a,b⟩:=hp _ _ hj hmem
   exact⟨v',by rw[if_pos hlt,List.getElem?_drop]; simpa using a,b⟩
  ·cases hj
 have hlen:((arr.toList.drop o).take m).length=m:=by
  rcases Nat.eq_zero_or_pos m with h0 | h0
  ·subst h0; simp
  ·have hj : m - 1 < ((c.drop o).take m).length := by omega
   obtain⟨v',a,_⟩:=each (m-1) _ (List.getElem?_eq_getElem hj)
   have:=(List.getElem?_eq_some_iff.1 a).1
   have:=List.length_take_le m (arr.toList.drop o)
   omega
 refine⟨(arr.toList.drop o).take m,VRL.of_get (by rw[hlen,hl]) each,?_⟩
 have:=run_loadCells_list (P:=P) w ⟨b,o,none⟩ ((arr.toList.drop o).take m) ?_
 ·rw[hlen] at this; exact this
 ·intro j v hj
  rw[wZ]
  rw[List.getElem?_take] at hj
  split at hj
  ·rw [List.getElem?_drop] at hj
   simp only[World.cell?,hb]
   simpa using hj
  ·cases hj
theorem iz{x:Addr}(h:x.spot=none):x=⟨x.block,x.off,none⟩:=by cases x; simp at h; subst h; rfl
theorem Ow(h:I w₀ W φ H n w){x x':Addr}{m:Nat}{l:List Value}(hx:AR φ x x')(e:loadN H x m=some l) :
  ∃ l',VRL φ l l'∧(loadCells x' m).run P w=.ok ⟨l'⟩ w:=by
 unfold loadN at e
 split at e
 ·cases e
 ·rename_i hs
  split at e
  ·rename_i c el ro vec hb
   obtain⟨p,arr,fr,f,g,_,k,_⟩:=row_of h hb
   obtain⟨⟨cc,hx1⟩,hx2,hx3⟩:=hx
   rw[f] at hx1; cases hx1
   rw[iz (hx3.trans hs),hx2]
   exact Oq k g e
  ·rename_i c el sz A D hb
   obtain⟨p,arr,f,g,k,_,_⟩:=ZV h hb
   obtain⟨⟨cc,hx1⟩,hx2,hx3⟩:=hx
   rw[f] at hx1; cases hx1
   rw[iz (hx3.trans hs),hx2]
   exact Oq k g e
  ·rename_i c hb
   obtain⟨p,o,f,g,arr,el,fr,rfl,k⟩:=h.rel _ _ hb
   obtain⟨⟨cc,hx1⟩,hx2,hx3⟩:=hx
   rw[f] at hx1; cases hx1
   rw[iz (hx3.trans hs),hx2]
   split at e
   ·rename_i l0 hl0
    split at e
    ·rename_i hall
     cases e
     exact cut_rows k g hl0 hall
    ·cases e
   ·cases e
  ·cases e
theorem ZW(h:I w₀ W φ H n w){x x':Addr}{t:TypeId}{v:Value}(hx:AR φ x x')(e:az P H t x=some v) :
  ∃ v',VR φ v v'∧(loadVar t x').run P w=.ok v' w:=by
 unfold az at e
 split at e
 ·cases e
 ·rename_i hs
  split at e
  ·rename_i c el ro vec hb
   obtain⟨p,arr,fr,f,g,_,k,_⟩:=row_of h hb
   obtain⟨⟨cc,hx1⟩,hx2,hx3⟩:=hx
   rw[f] at hx1; cases hx1
   rw[iz (hx3.trans hs),hx2]
   unfold lq at e
   split at e
   ·rename_i ha
    split at e
    ·rename_i s hsz
     split at e
     ·rename_i l hl
      cases e
      obtain⟨l',hl',hr⟩:=Oq (P:=P) k g hl
      refine⟨.agg ⟨l'⟩,?_,?_⟩
      ·simp only[VR]; exact⟨_,rfl,by simpa only [VRA] using hl'⟩
      ·simp [loadVar,jy ha,fY hsz,hr]
     ·cases e
    ·cases e
   ·rename_i ha
    obtain⟨v',e1,e2⟩:=k.get e
    refine⟨v',e2,?_⟩
    rw[List.getElem?_take] at e1
    split at e1
    ·have : w.cell? ⟨x'.block, x.off, none⟩ = some v' := by simp only [World.cell?, g]; simpa using e1
     simp [loadVar,jy ha,this]
    ·cases e1
   ·cases e
  ·rename_i c el sz A D hb
   obtain⟨p,arr,f,g,k,_,_⟩:=ZV h hb
   obtain⟨⟨cc,hx1⟩,hx2,hx3⟩:=hx
   rw[f] at hx1; cases hx1
   rw[iz (hx3.trans hs),hx2]
   unfold lq at e
   split at e
   ·rename_i ha
    split at e
    ·rename_i s hsz
     split at e
     ·rename_i l hl
      cases e
      obtain⟨l',hl',hr⟩:=Oq (P:=P) k g hl
      refine⟨.agg ⟨l'⟩,?_,?_⟩
      ·simp only[VR]; exact⟨_,rfl,by simpa only [VRA] using hl'⟩
      ·simp [loadVar,jy ha,fY hsz,hr]
     ·cases e
    ·cases e
   ·rename_i ha
    obtain⟨v',e1,e2⟩:=k.get e
    refine⟨v',e2,?_⟩
    rw[List.getElem?_take] at e1
    split at e1
    ·have : w.cell? ⟨x'.block, x.off, none⟩ = some v' := by simp only [World.cell?, g]; simpa using e1
     simp [loadVar,jy ha,this]
    ·cases e1
   ·cases e
  ·rename_i c hb
   obtain⟨p,o,f,g,arr,el,fr,rfl,k⟩:=h.rel _ _ hb
   obtain⟨⟨cc,hx1⟩,hx2,hx3⟩:=hx
   rw[f] at hx1; cases hx1
   rw[iz (hx3.trans hs),hx2]
   split at e
   case h_2=>cases e
   rename_i v0 hv0
   split at e
   case h_2=>cases e
   rename_i hno
   cases e
   unfold lq at hv0
   split at hv0
   ·rename_i ha
    split at hv0
    ·rename_i s hsz
     split at hv0
     ·rename_i l hl
      cases hv0
      obtain⟨l',hl',hr⟩:=cut_rows (P:=P) k g hl (by simpa [vy] using hno)
      refine⟨.agg ⟨l'⟩,?_,?_⟩
      ·simp only[VR]; exact⟨_,rfl,by simpa only [VRA] using hl'⟩
      ·simp [loadVar,jy ha,fY hsz,hr]
     ·cases hv0
    ·cases hv0
   ·rename_i ha
    have hno':nq v=true:=by
     cases v <;> first | rfl | simpa [vy] using hno
    obtain⟨v',e1,e2⟩:=k _ _ hv0 hno'
    refine⟨v',e2,?_⟩
    have:w.cell? ⟨x'.block,x.off,none⟩=some v':=by simp only[World.cell?,g]; simpa using e1
    simp [loadVar,jy ha,this]
   ·cases hv0
  ·cases e
theorem Qz(w:World)(g:Nat)(cur cs:Array Value)(t:TypeId)(fr:Nat × Nat)(hg:w.heap[g]?=some (.cells cur t fr)) :
  w.setRow g cs={ w with heap:=w.heap.setIfInBounds g (.cells cs t fr) }:=by
 obtain⟨hlt,hh⟩:=Array.getElem?_eq_some_iff.1 hg
 unfold World.setRow
 congr 1
 apply Array.ext_getElem?
 intro i
 rw[Array.getElem?_modify,Array.getElem?_setIfInBounds]
 by_cases e:g=i
 ·subst e; simp [hlt,hh]
 ·simp [e]
theorem Qk(h:I w₀ W φ H n w){x x':Addr}{vs vs':List Value}{H':Hp}(hx:AR φ x x')(hv:VRL φ vs vs')(e:pX H x vs=some H') :
  ∃ w',(storeCells x' vs').run P w=.ok () w'∧I w₀ W φ H' n w':=by
 unfold pX at e
 split at e
 ·cases e
 ·rename_i hs
  split at e
  ·rename_i c el vec hb
   split at e
   ·rename_i hall
    split at e
    ·rename_i c' hc
     cases e
     obtain⟨p,arr,fr,f,g,fr0,k,sz⟩:=row_of h hb
     obtain⟨⟨cc,hx1⟩,hx2,hx3⟩:=hx
     rw[f] at hx1; cases hx1
     rw[iz (hx3.trans hs),hx2]
     obtain⟨rfl,hle⟩:=Qy _ _ _ _ hc
     rw[fr0 rfl] at g
     have hl:=hv.length
     have hle':=k.le
     have hrun:=run_storeCells_at (P:=P) x'.block x.off el vs' 0 arr w g (by simp at hle'; omega) (hv.leaf hall)
     refine⟨_,hrun,?_⟩
     rw[Qz w _ _ _ _ _ g]
     refine h.put hb f rfl (b':=.cells (spl c x.off vs) el false vec) ⟨_,(0,0),rfl,fun _=>rfl,?_,?_⟩
     ·have := k.spl hv hle
      simpa [Ev.spl] using this
     ·intro s hs'
      have:=sz s hs'
      rw[← this]
      simp only[List.size_toArray,List.length_append,List.length_take,List.length_drop,Array.length_toList]
      simp at hle'
      omega
    ·cases e
   ·cases e
  ·cases e
theorem fold_spl(off:Nat):∀(vs:List Value) (k:Nat) (l:List Value),off+k+vs.length≤l.length →
  (vs.zipIdx k).foldl (fun(cs:Array Value) (x:Value × Nat)=>cs.setIfInBounds (off+x.2) x.1) ⟨l⟩=⟨spl l (off+k) vs⟩
 | [],k,l,_=>by simp [spl]
 | v::vs,k,l,h=>by
  simp only[List.zipIdx_cons,List.foldl_cons]
  have e:(⟨l⟩:Array Value).setIfInBounds (off+k) v=⟨l.set (off+k) v⟩:=by
   apply Array.ext'; simp
  rw[e,fold_spl off vs (k+1) _ (by simp at h ⊢; omega)]
  congr 1
  have:=list_seg_step l (off+k) v vs (by simp at h; omega)
  simpa [spl,Nat.add_assoc,Nat.add_comm 1] using this
theorem Yy:∀ {pl:Nat→Option (Nat × Nat)} {c c' r:List Value} {ps:List (Nat × Value)} {ps':List (Nat × Value)},
  VRL φ c c'→ps'.map (·.1)=ps.map (·.1)→VRL φ (ps.map (·.2)) (ps'.map (·.2))→nk pl c ps=some r→∃ r',Instr.fill pl ⟨c'⟩ ps'=some ⟨r'⟩∧VRL φ r r':=by
 intro pl c c' r ps
 induction ps generalizing c c' with
 | nil=>
  intro ps' hc hi hv e
  simp [nk] at e; subst e
  cases ps' with
  | nil=>exact⟨c',rfl,hc⟩
  | cons x xs=>simp at hi
 | cons p ps ih=>
  intro ps' hc hi hv e
  cases ps' with
  | nil=>simp at hi
  | cons q qs=>
   obtain⟨i,v⟩:=p
   obtain⟨j,v'⟩:=q
   simp only[List.map_cons,List.cons.injEq] at hi
   obtain⟨rfl,hi⟩:=hi
   simp only[List.map_cons,VRL] at hv
   obtain⟨u,us,hu,hv1,hv2⟩:=hv
   simp only[List.cons.injEq] at hu
   obtain⟨rfl,rfl⟩:=hu
   simp only[nk] at e
   split at e
   ·cases e
   ·rename_i off size hpl
    split at e
    ·rename_i hsz
     split at e
     ·rename_i c1 hc1
      obtain⟨rfl,hle⟩:=Qy _ _ _ _ hc1
      have hvc:=hv1.cells
      have hl:=hvc.length
      have hcl:=hc.length
      have hsz':v'.cells.size=size:=by rw[← hsz,← hl,fq]; simp
      have hfold:v'.cells.zipIdx.foldl (fun cs (x:Value × Nat)=>cs.setIfInBounds (off+x.2) x.1) (⟨c'⟩:Array Value)=⟨spl c' off (aQ v')⟩:=by
       have e1:v'.cells=(aQ v').toArray:=by rw[fq]
       rw[e1]
       have:=fold_spl off (aQ v') 0 c' (by omega)
       simpa using this
      have hpre:VRL φ (spl c off (aQ v)) (spl c' off (aQ v')):=by
       have h1:=(hc.take off).append hvc
       have h2:=h1.append (hc.drop (off+(aQ v).length))
       unfold spl
       rw[hl]; exact h2
      obtain⟨r',hr,hr2⟩:=ih hpre hi hv2 e
      refine⟨r',?_,hr2⟩
      simp only[Instr.fill,hpl]
      rw[if_neg]
      ·rw[hfold]; exact hr
      ·simp [hsz']; omega
     ·cases e
    ·cases e
end Go.Ev
end
section
namespace Go.Ev
open Go
variable {P:Program} {w₀:World} {W:Sets} {φ:Phi} {st st':St} {w:World} {a:Act} {H:Hp} {n:Nat}
theorem qZ{α:Type}:∀ {m:Sem α} {v:α},cz P m=some v→∀ w:World,m.run P w=.ok v w:=by
 intro m
 induction m with
 | pure x=>intro v e w; simp [cz] at e; subst e; rfl
 | program k ih=>intro v e w; simp only[cz] at e; simp only[Sem.run]; exact ih _ e w
 | mark m k ih=>intro v e w; simp only[cz] at e; simp only[Sem.run]; exact ih e w
 | _=>intro v e w; simp [cz] at e
def ik(m:Sem Value):Sem Next:=do pure (.value (← m))
def ZX(m:Sem Unit):Sem Next:=do m; pure .skip
theorem gq{m:Sem Value}{v:Value}{w w':World}(h:m.run P w=.ok v w'):(ik m).run P w=.ok (.value v) w':=by
 simp [ik,h]
theorem Kj{m:Sem Unit}{w w':World}(h:m.run P w=.ok () w'):(ZX m).run P w=.ok .skip w':=by
 simp [ZX,h]
theorem Done.val{m:Sem Value}{v v':Value}(h:I w₀ W φ st.H st.n w)(hm:m.run P w=.ok v' w)(hv:VR φ v v'):Done P (ik m) w₀ W φ w st v st:=
 Done.same h (gq hm) hv
theorem Done.keep{m:Sem Value}{o:Option Value}{v:Value}(h:I w₀ W φ st.H st.n w)(e:keep o st=some (v,st'))
  (k:∀ v,o=some v→∃ v',m.run P w=.ok v' w∧VR φ v v'):Done P (ik m) w₀ W φ w st v st':=by
 obtain⟨rfl,rfl⟩:=Aj e
 obtain⟨v',h1,h2⟩:=k v rfl
 exact Done.val h h1 h2
theorem Done.row{m:Sem Value}{c c':List Value}{e:TypeId}{vec:Option Nat}{cp:Nat}{v v':Value}{w1:World}(h:I w₀ W φ st.H st.n w1)
  (hc:Pre φ c c') (hvec:∀ s,vec=some s→c'.length=cp * s)
  (hm:m.run P w=.ok v' { w1 with heap:=w1.heap.push (.cells ⟨c'⟩ e) })
  (hv:VR (ext φ st.n (w1.heap.size,cp)) v v'):Done P (ik m) w₀ W φ w st v (mz st c e vec):=by
 have hb:BR φ (.cells c e false vec) (.cells ⟨c'⟩ e) cp:=⟨⟨c'⟩,(0,0),rfl,fun _=>rfl,hc,fun s hs=>by simpa using hvec s hs⟩
 exact⟨_,v',_,.inl (gq hm),h.ext_push _,h.push hb,hv,rfl,rfl⟩
theorem VR.ptr_new{φ:Phi}{n b c:Nat}:VR (ext φ n (b,c)) (ptr n) (.pointer (some ⟨b,0,none⟩)):=by
 simp only[ptr,VR]
 exact⟨_,rfl,⟨c,cW _ _ _⟩,rfl,rfl⟩
section
variable (h:I w₀ W φ st.H st.n w) (ht:TR φ st.T a.tmps)
include h ht
theorem pick_ok{c x y:Operand}{v:Value}(e:oPick c x y st=some (v,st')) :
  Done P (do pure (Next.value (if ← asBool (a.eval c) then a.eval x else a.eval y))) w₀ W φ w st v st':=by
 unfold oPick at e
 split at e
 ·rename_i hc
  have:=cJ ht hc; simp only[VR] at this
  obtain⟨hx,rfl⟩:=Aj e
  exact Done.same h (by simp [this,asBool]) (cJ ht hx)
 ·rename_i hc
  have:=cJ ht hc; simp only[VR] at this
  obtain⟨hx,rfl⟩:=Aj e
  exact Done.same h (by simp [this,asBool]) (cJ ht hx)
 ·cases e
omit ht in
theorem alloc_ok{t:TypeId}{v:Value}(e:Ej P t st=some (v,st')) :
  Done P (ik (Instr.alloc t true (.tuple #[]))) w₀ W φ w st v st':=by
 unfold Ej at e
 split at e
 ·rename_i z hz
  simp only[Option.some.injEq,Prod.mk.injEq] at e
  obtain⟨rfl,rfl⟩:=e
  obtain⟨hr,hp⟩:=jK hz w
  refine Done.row (cp:=0) (c':=aQ z) h (Pre.of (bz.refl hp).cells) (fun s hs=>by cases hs) ?_ VR.ptr_new
  simp [Instr.alloc,hr,newVar,newRow,fq]
 ·cases e
theorem box_ok{t:TypeId}{x:Operand}{v:Value}(e:oBox t x st=some (v,st')) :
  Done P (ik (Instr.box t (a.eval x))) w₀ W φ w st v st':=by
 unfold oBox at e
 split at e
 ·rename_i u hu
  simp only[Option.some.injEq,Prod.mk.injEq] at e
  obtain⟨rfl,rfl⟩:=e
  refine Done.row (cp:=0) (c':=aQ (a.eval x)) h (Pre.of (cJ ht hu).cells) (fun s hs=>by cases hs) ?_ VR.ptr_new
  simp [Instr.box,newVar,newRow,fq]
 ·cases e
omit h in
theorem Ox:∀ {l:List (Nat × Operand)} {ps:List (Nat × Value)},uW st.T l=some ps →
  (l.map fun(i,x)=>(i,a.eval x)).map (·.1)=ps.map (·.1)∧VRL φ (ps.map (·.2)) ((l.map fun(i,x)=>(i,a.eval x)).map (·.2))
 | [],ps,e=>by simp [uW] at e; subst e; exact⟨rfl,VRL.nil⟩
 | (i,x)::l,ps,e=>by
  simp only[uW] at e
  split at e
  ·cases e
  ·rename_i v hv
   split at e
   ·cases e
   ·rename_i vs hvs
    cases e
    obtain⟨h1,h2⟩:=Ox hvs
    exact⟨by simp only[List.map_cons,h1],VRL.cons (cJ ht hv) h2⟩
omit h ht in
theorem places_run(w:World):∀ {l:List Field} {pl:List (Nat × Nat)},JX P l=some pl →
  (l.mapM (m:=Sem) fun f=>do pure (f.offset,← sizeOf f.type)).run P w=.ok pl w
 | [],pl,e=>by simp [JX] at e; subst e; simp
 | f::l,pl,e=>by
  simp only[JX] at e
  split at e
  ·cases e
  ·rename_i s hs
   split at e
   ·cases e
   ·rename_i r hr
    cases e
    have ih:=places_run w hr
    simp only[List.mapM_cons,Sem.run_bind,fY hs,Result.andThen_ok,Sem.run_pure]
    rw[show(List.mapM (m:=Sem) (fun f=>do pure (f.offset,← sizeOf f.type)) l).run P w=.ok r w from ih]
    rfl
theorem build_ok{t:TypeId}{parts:Array (Nat × Operand)}{v:Value}(e:keep (Zv P st.T t parts.toList) st=some (v,st')) :
  Done P (ik (Instr.build t (parts.map fun(i,x)=>(i,a.eval x)))) w₀ W φ w st v st':=by
 refine Done.keep h e fun v hv=>?_
 unfold Zv at hv
 split at hv
 ·rename_i z ps hz hps
  obtain⟨hzr,hzp⟩:=jK hz w
  obtain⟨h1,h2⟩:=Ox ht hps
  have hz2:=(bz.refl (φ:=φ) hzp).cells
  have hpl:(parts.map fun(i,x)=>(i,a.eval x)).toList=parts.toList.map fun(i,x)=>(i,a.eval x):=by simp
  split at hv
  ·rename_i fs hu
   split at hv
   ·rename_i pl hpl'
    split at hv
    ·rename_i c hc
     cases hv
     obtain⟨r',hr,hr2⟩:=Yy hz2 h1 h2 hc
     refine⟨.agg ⟨r'⟩,?_,by simp only[VR]; exact⟨_,rfl,by simpa only [VRA] using hr2⟩⟩
     have hm:(fs.mapM (m:=Sem) fun f=>do pure (f.offset,← sizeOf f.type)).run P w=.ok pl.toArray w:=by
      rw[Array.mapM_eq_mapM_toList]
      simp only[Sem.run_map,places_run w hpl',Result.andThen_ok]
     simp only[Instr.build,Sem.run_bind,hzr,Result.andThen_ok,cx hu,hm,hpl]
     have e0:z.cells=⟨aQ z⟩:=by rw[fq]
     have e1:(fun x:Nat=>pl.toArray[x]?)=(fun x:Nat=>pl[x]?):=by funext x; simp
     rw[e0,e1,hr]
     rfl
    ·cases hv
   ·cases hv
  ·rename_i k el hu
   split at hv
   ·rename_i s hs
    split at hv
    ·rename_i c hc
     cases hv
     obtain⟨r',hr,hr2⟩:=Yy hz2 h1 h2 hc
     refine⟨.agg ⟨r'⟩,?_,by simp only[VR]; exact⟨_,rfl,by simpa only [VRA] using hr2⟩⟩
     simp only[Instr.build,Sem.run_bind,hzr,Result.andThen_ok,cx hu,fY hs,hpl]
     have e0:z.cells=⟨aQ z⟩:=by rw[fq]
     rw[e0,hr]
     rfl
    ·cases hv
   ·cases hv
  ·cases hv
 ·cases hv
theorem load_ok{t:TypeId}{x:Operand}{v:Value}(e:oLoad P t x st=some (v,st')) :
  Done P (ik (Instr.loadAt t (a.eval x))) w₀ W φ w st v st':=by
 unfold oLoad at e
 split at e
 ·rename_i ad hx
  have hv:=cJ ht hx; simp only[VR] at hv
  obtain⟨ad',hv,har⟩:=hv
  refine Done.keep h e fun v hv'=>?_
  obtain⟨v',h1,h2⟩:=ZW h har hv'
  exact⟨v',by simp [Instr.loadAt,Instr.sureAddr,hv,h2],h1⟩
 ·cases e
theorem store_ok{t:TypeId}{x y:Operand}{v:Value}(e:oStore P t x y st=some (v,st')) :
  Done P (ZX (Instr.storeAt t (a.eval x) (a.eval y))) w₀ W φ w st v st':=by
 unfold oStore at e
 split at e
 ·rename_i ad u hx hy
  have hv:=cJ ht hx; simp only[VR] at hv
  obtain⟨ad',hv,har⟩:=hv
  have hu:=(cJ ht hy).cells
  split at e
  ·rename_i s hs
   split at e
   ·rename_i hl
    split at e
    ·rename_i H hH
     simp only[Option.some.injEq,Prod.mk.injEq] at e
     obtain⟨rfl,rfl⟩:=e
     obtain⟨w',h1,h2⟩:=Qk (P:=P) h har hu hH
     have hl':=hu.length
     refine⟨φ,undef,w',.inr ⟨Kj ?_,rfl⟩,Ext.refl _ _,h2,bz.refl rfl,rfl,rfl⟩
     rw[fq] at h1 hl'
     simp at hl'
     simp [Instr.storeAt,Instr.sureAddr,hv,storeVar,fY hs,hl',hl,h1]
    ·cases e
   ·cases e
  ·cases e
 ·cases e
end
end Go.Ev
end
section
namespace Go.Ev
open Go
variable {P:Program} {w₀:World} {W:Sets} {φ:Phi} {st st':St} {w:World} {a:Act} {H:Hp} {n:Nat}
theorem Ij(z:List Value):∀ n,repl n z=(List.range (n * z.length)).map fun i=>z[i % z.length]!
 | 0=>by simp [repl]
 | n+1=>by
  simp only[repl,Ij z n]
  apply List.ext_getElem?
  intro i
  by_cases h:i<z.length
  ·have h2 : i < (n + 1) * z.length := by rw [Nat.succ_mul]; omega
   rw[List.getElem?_append_left h]
   simp [h,h2,Nat.mod_eq_of_lt h]
  ·have hz : z.length ≤ i := by omega
   rw[List.getElem?_append_right hz]
   by_cases h2:i<(n+1) * z.length
   ·have h3 : i - z.length < n * z.length := by rw [Nat.succ_mul] at h2; omega
    have hm:(i-z.length) % z.length=i % z.length:=by
     rw[← Nat.mod_eq_sub_mod hz]
    simp [h2,h3,hm]
   ·have h3 : ¬ i - z.length < n * z.length := by rw [Nat.succ_mul] at h2; omega
    simp [h2,h3]
theorem ry(z:Array Value)(n:Nat):((Array.range (n * z.size)).map fun i=>z[i % z.size]!)=⟨repl n z.toList⟩:=by
 rw[Ij]
 apply Array.ext'
 simp only[Array.toList_map,Array.toList_range,Array.length_toList]
 apply List.map_congr_left
 intro i _
 rw[getElem!_def,getElem!_def]
 simp
theorem Iq{v:Value}{len k:Nat}(e:Jq v len=some k):∃ q,v=.int q (k:Int)∧k<len:=by
 unfold Jq at e
 split at e
 ·rename_i q i
  split at e
  ·cases e; rename_i h; exact⟨q,rfl,h⟩
  ·cases e
 ·cases e
theorem bndIn_inv{v:Value}{len k:Nat}(e:Zw v len=some k):∃ q,v=.int q (k:Int)∧k≤len:=by
 unfold Zw at e
 split at e
 ·rename_i q i
  split at e
  ·cases e; rename_i h; exact⟨q,rfl,h⟩
  ·cases e
 ·cases e
theorem AR.add{x x':Addr}(h:AR φ x x')(hs:x.spot=none)(k:Nat):AR φ (addA x k) (x'.add k):=by
 obtain⟨⟨c,h1⟩,h2,h3⟩:=h
 rw[iz (h3.trans hs),wZ]
 exact⟨⟨c,h1⟩,by simp [addA,h2],rfl⟩
section
variable (h:I w₀ W φ st.H st.n w) (ht:TR φ st.T a.tmps)
include h ht
theorem buildSlice_ok{t:TypeId}{len:Nat}{parts:Array (Nat × Operand)}{v:Value}(e:lQ P t len parts st=some (v,st')) :
  Done P (ik (Instr.buildSlice t len (parts.map fun(i,x)=>(i,a.eval x)))) w₀ W φ w st v st':=by
 unfold lQ at e
 split at e
 ·rename_i el ps hel hps
  split at e
  ·rename_i s z hs hz
   split at e
   ·rename_i hc
    split at e
    ·rename_i c hfill
     simp only[Option.some.injEq,Prod.mk.injEq] at e
     obtain⟨rfl,rfl⟩:=e
     obtain⟨hzr,hzp⟩:=jK hz w
     obtain⟨h1,h2⟩:=Ox ht hps
     have hpl:(parts.map fun(i,x)=>(i,a.eval x)).toList=parts.toList.map fun(i,x)=>(i,a.eval x):=by simp
     have hrp:ek (repl len (aQ z))=true:=by
      have hcp:ek (aQ z)=true:=by
       cases z <;> simp_all [aQ,ek,bz]
       rename_i cs; cases cs; simpa [lj] using hzp
      have app:∀ l m,ek l=true→ek m=true→ek (l++m)=true:=by
       intro l m hl hm
       induction l with
       | nil=>exact hm
       | cons x l ih=>simp only[ek,List.cons_append,Bool.and_eq_true] at *; exact⟨hl.1,ih hl.2⟩
      clear hfill hc
      induction len with
      | zero=>rfl
      | succ k ih=>exact app _ _ hcp ih
     obtain⟨c',hr,hr2⟩:=Yy (φ:=φ) (ek.refl hrp) h1 h2 hfill
     refine Done.row (cp:=0) (c':=c') h (Pre.of hr2) (fun s hs=>by cases hs) (v':=.slice (some ⟨w.heap.size,0,none⟩) len len) ?_ ?_
     ·have hz2 : z.cells.size = s := by rw [← hc.2.1, fq]; simp
      have hbig:¬ len * s > 2 ^ 24:=by have:=hc.1; omega
      simp only[Instr.buildSlice,Sem.run_bind,cx (iw hel),Result.andThen_ok,fY hs,if_neg hbig,hpl]
      by_cases h0:len * s=0
      ·simp only [h0, if_true, pure_bind]
       have:repl len (aQ z)=[]:=by
        rw[Ij]; rw[hc.2.1,h0]; rfl
       rw[this] at hr
       have e0:(Array.map (fun x=>(#[]:Array Value)[x % (#[]:Array Value).size]!) (Array.range 0))=⟨[]⟩:=by simp
       rw[e0,hr]
       simp [newRow]
      ·simp only [h0, if_false, Sem.run_bind, hzr, Result.andThen_ok, Sem.run_pure]
       have e0:=ry z.cells len
       rw[hz2] at e0
       rw[hz2,e0,← fq,hr]
       simp [newRow]
     ·simp only [VR]
      exact⟨_,_,rfl,.inl ⟨⟨⟨0,cW _ _ _⟩,rfl,rfl⟩,.inl ⟨hc.2.2,rfl⟩⟩⟩
    ·cases e
   ·cases e
  ·cases e
 ·cases e
theorem nilCheck_ok{x:Operand}{v:Value}(o:Oper)(ho:o.op=.nilCheck x)(e:zX x st=some (v,st')) :
  Done P (execOp a.eval o) w₀ W φ w st v st':=by
 unfold zX at e
 split at e
 ·rename_i ad hx
  simp only[Option.some.injEq,Prod.mk.injEq] at e
  obtain⟨rfl,rfl⟩:=e
  have hv:=cJ ht hx
  have hv2:=hv; simp only[VR] at hv2
  obtain⟨ad',e2,_⟩:=hv2
  rw[e2] at hv
  exact Done.same h (by simp [execOp,ho,e2]) hv
 ·rename_i f p q hx
  simp only[Option.some.injEq,Prod.mk.injEq] at e
  obtain⟨rfl,rfl⟩:=e
  have hv:=cJ ht hx
  have hv2:=hv; simp only[VR] at hv2
  obtain⟨f',p',q',e2,e3,_⟩:=hv2
  simp only[FR] at e3; subst e3
  rw[e2] at hv
  exact Done.same h (by simp [execOp,ho,e2]) hv
 ·cases e
omit h ht in
theorem nilEq_ok{x y:Operand}{t:TypeId}{u v u' v':Value}{r:Bool}(hu:VR φ u u')(hv:VR φ v v')(e:nilEq P t u v=some r)(w:World) :
  (gJ .eql t x y u' v').run P w=.ok (.bool r) w∧(gJ .neq t x y u' v').run P w=.ok (.bool (!r)) w:=by
 have key:∀(op:BinOp),eqGuard op t x y u' v'=pure ()→(∀ d,(Op.equalIn (d+1) t u' v').run P w=.ok r w) →
   binOp .eql t u' v'=(do pure (.bool (← Op.equal t u' v')))→binOp .neq t u' v'=(do pure (.bool (!(← Op.equal t u' v')))) →
   (op=.eql→(gJ op t x y u' v').run P w=.ok (.bool r) w)∧(op=.neq→(gJ op t x y u' v').run P w=.ok (.bool (!r)) w):=by
  intro op h1 h2 h3 h4
  have h2':(Op.equal t u' v').run P w=.ok r w:=by unfold Op.equal Op.maxDepth; exact h2 9999
  constructor
  ·rintro rfl; simp [gJ,h1,h3,h2']
  ·rintro rfl; simp [gJ,h1,h4,h2']
 have fin:(eqGuard .eql t x y u' v'=pure ())→(eqGuard .neq t x y u' v'=pure ())→(∀ d,(Op.equalIn (d+1) t u' v').run P w=.ok r w) →
   binOp .eql t u' v'=(do pure (.bool (← Op.equal t u' v')))→binOp .neq t u' v'=(do pure (.bool (!(← Op.equal t u' v')))) →
   (gJ .eql t x y u' v').run P w=.ok (.bool r) w∧(gJ .neq t x y u' v').run P w=.ok (.bool (!r)) w:=
  fun g1 g2 h2 h3 h4=>⟨(key .eql g1 h2 h3 h4).1 rfl,(key .neq g2 h2 h3 h4).2 rfl⟩
 unfold nilEq at e
 split at e
 ·rename_i el n1 c1 b n2 c2 hund
  cases e
  simp only[VR] at hu; subst hu
  cases b with
  | none=>simp only[VR] at hv; subst hv; exact fin rfl rfl (fun d=>by simp [Op.equalIn,cx hund]) rfl rfl
  | some b=>simp only[VR] at hv; obtain⟨b',c',rfl,_⟩:=hv; exact fin rfl rfl (fun d=>by simp [Op.equalIn,cx hund]) rfl rfl
 ·rename_i el b n1 c1 n2 c2 hund
  cases e
  simp only[VR] at hu hv; subst hv
  obtain⟨b',c',rfl,_⟩:=hu
  exact fin rfl rfl (fun d=>by simp [Op.equalIn,cx hund]) rfl rfl
 ·rename_i el b hund
  cases e
  simp only[VR] at hu; subst hu
  cases b with
  | none=>simp only[VR] at hv; subst hv; exact fin rfl rfl (fun d=>by simp [Op.equalIn,cx hund]) rfl rfl
  | some b=>simp only[VR] at hv; obtain⟨b',rfl,_⟩:=hv; exact fin rfl rfl (fun d=>by simp [Op.equalIn,cx hund]) rfl rfl
 ·rename_i el b hund
  cases e
  simp only[VR] at hu hv; subst hv
  obtain⟨b',rfl,_⟩:=hu
  exact fin rfl rfl (fun d=>by simp [Op.equalIn,cx hund]) rfl rfl
 ·rename_i p q s hund
  cases e
  simp only[VR] at hu hv; subst hu; subst hv
  exact fin rfl rfl (fun d=>by simp [Op.equalIn,cx hund]) rfl rfl
 ·rename_i p q s f x1 x2 hund
  cases e
  simp only[VR] at hu hv; subst hu
  obtain⟨f',a',b',rfl,_⟩:=hv
  exact fin rfl rfl (fun d=>by simp [Op.equalIn,cx hund]) rfl rfl
 ·rename_i p q s f x1 x2 hund
  cases e
  simp only[VR] at hu hv; subst hv
  obtain⟨f',a',b',rfl,_⟩:=hu
  exact fin rfl rfl (fun d=>by simp [Op.equalIn,cx hund]) rfl rfl
 ·cases e
omit h ht in
theorem Oy{n:Nat}{v:Value}(e:mk64 n=some v):v=.int .i64 (n:Int)∧IntKind.i64.wrap (n:Int)=n:=by
 unfold mk64 at e
 split at e
 ·rename_i hb
  cases e
  have hlt:n<9223372036854775808:=by simpa using hb
  refine⟨rfl,?_⟩
  have e1:(n:Int) % 18446744073709551616=n:=by omega
  simp [IntKind.wrap,IntKind.bits,IntKind.signed,e1]
  omega
 ·cases e
omit h ht in
theorem quick_ok{op:BinOp}{x y:Operand}{t:TypeId}{a b v:Value}(e:uw op a b=some v)(w:World) :
  (gJ op t x y a b).run P w=.ok v w∧bz v=true∧bz a=true∧bz b=true:=by
 unfold uw at e
 split at e
 ·rename_i m
  split at e
  ·rename_i n
   refine⟨?_,?_,rfl,rfl⟩
   ·have hg : ∀ op', eqGuard op' t x y (.int .i64 (.ofNat m)) (.int .i64 (.ofNat n)) = pure () := by
     intro op'; unfold eqGuard; split <;> rfl
    unfold gJ
    rw[hg]
    unfold JZ at e
    cases op <;> simp only at e
    case add=>obtain⟨rfl,hw⟩:=Oy e; simpa [binOp,Op.intArith] using hw
    case mul=>obtain⟨rfl,hw⟩:=Oy e; simpa [binOp,Op.intArith] using hw
    case sub=>
     split at e
     ·rename_i hle
      have hle:=Nat.le_of_ble_eq_true hle
      obtain⟨rfl,hw⟩:=Oy e
      have e3:((m-n:Nat):Int)=(m:Int)-n:=by omega
      rw[e3] at hw
      simp [binOp,Op.intArith,e3,hw]
     ·cases e
    case eql=>cases e; have:((m:Int) == (n:Int))=Nat.beq m n:=(by rw[Bool.eq_iff_iff]; simp; omega); simp [binOp,Op.intCmp,this]
    case neq=>cases e; have:((m:Int) == (n:Int))=Nat.beq m n:=(by rw[Bool.eq_iff_iff]; simp; omega); simp [binOp,Op.intCmp,bne,this]
    case lss=>cases e; have:decide ((m:Int)<(n:Int))=Nat.blt m n:=(by rw[Bool.eq_iff_iff]; simp); simp [binOp,Op.intCmp,← this]
    case gtr=>cases e; have:decide ((n:Int)<(m:Int))=Nat.blt n m:=(by rw[Bool.eq_iff_iff]; simp); simp [binOp,Op.intCmp,← this]
    case leq=>cases e; have:decide ((m:Int)≤(n:Int))=Nat.ble m n:=(by rw[Bool.eq_iff_iff]; simp); simp [binOp,Op.intCmp,← this]
    case geq=>cases e; have:decide ((n:Int)≤(m:Int))=Nat.ble n m:=(by rw[Bool.eq_iff_iff]; simp); simp [binOp,Op.intCmp,← this]
    all_goals cases e
   ·unfold JZ at e
    cases op <;> simp only at e <;> first | cases e | (obtain⟨rfl,_⟩:=Oy e; rfl) | (split at e <;> first | cases e | (obtain⟨rfl,_⟩:=Oy e; rfl))
    all_goals rfl
  ·cases e
 ·cases e
omit h ht in
theorem QJ{xs ys:List Value}(d:Nat):∀ {fs:List Field} {i:Nat} {l l':List Value} {r:Bool},tj P fs i=true→xs.drop i=l→ys.drop i=l'→fs.length=l.length→kz l l'=some r →
  (Op.eqFields (d+1) ⟨xs⟩ ⟨ys⟩ fs).run P w=.ok r w
 | [],i,l,l',r,_,_,_,hl,he=>by
  cases l with
  | cons z zs=>simp at hl
  | nil=>cases l' with
   | nil=>simp [kz] at he; simp [Op.eqFields,he]
   | cons z zs=>simp [kz] at he
 | f::fs,i,l,l',r,hf,hx,hy,hlen,he=>by
  simp only[tj] at hf
  split at hf
  ·rename_i k hn hu ha
   simp only[Bool.and_eq_true,bne_iff_ne,ne_eq,Nat.beq_eq] at hn
   obtain⟨hn,rfl⟩:=hn
   match l,l',he with
   | [],_,_=>simp at hlen
   | .int k1 a::l,.int k2 b::l',he=>
    have gx:xs[f.offset]?=some (.int k1 a):=by
     have:=congrArg (fun z=>z[0]?) hx; simpa using this
    have gy:ys[f.offset]?=some (.int k2 b):=by
     have:=congrArg (fun z=>z[0]?) hy; simpa using this
    have px:(part f.type ⟨xs⟩ f.offset).run P w=.ok (.int k1 a) w:=by simp [part,jy ha,gx]
    have py:(part f.type ⟨ys⟩ f.offset).run P w=.ok (.int k2 b) w:=by simp [part,jy ha,gy]
    have dx:xs.drop (f.offset+1)=l:=by rw[← List.drop_drop,hx]; rfl
    have dy:ys.drop (f.offset+1)=l':=by rw[← List.drop_drop,hy]; rfl
    simp only[kz] at he
    split at he
    ·rename_i h1 h2
     have h1:=of_decide_eq_true h1
     have h2:=of_decide_eq_true h2
     subst h1; subst h2
     have ih:=QJ d hf dx dy (by simpa using hlen) he
     simp only[Op.eqFields,hn,ne_eq,not_false_eq_true,if_true,Sem.run_bind,px,py,Result.andThen_ok,run_equalIn_int w d f.type k1 k a a hu,beq_self_eq_true,Bool.not_true,Bool.false_eq_true,if_false,ih]
    ·rename_i h1 h2
     have h1:=of_decide_eq_true h1
     have h2:=of_decide_eq_false h2
     cases he
     subst h1
     simp only[Op.eqFields,hn,ne_eq,not_false_eq_true,if_true,Sem.run_bind,px,py,Result.andThen_ok,run_equalIn_int w d f.type k1 k a b hu,beq_eq_false_iff_ne.2 h2,Bool.not_false,Sem.run_pure]
    ·cases he
  ·cases hf
omit h ht in
theorem Oz{k:TypeId}{n:Nat}(e:zW P k=some n):∃ fs:Array Field,P.underlying k=some (.struct fs)∧P.stoodInHeld k=false∧tj P fs.toList 0=true∧fs.toList.length=n:=by
 unfold zW at e
 split at e
 ·rename_i fs hu
  split at e
  ·rename_i hb
   simp only[Bool.and_eq_true,Bool.not_eq_true'] at hb
   cases e
   exact⟨fs,hu,hb.1,hb.2,rfl⟩
  ·cases e
 ·cases e
omit h ht in
theorem aggEq_ok{t:TypeId}{a b:Value}{r:Bool}(e:aggEq P t a b=some r)(x y:Operand)(w:World) :
  (gJ .eql t x y a b).run P w=.ok (.bool r) w∧(gJ .neq t x y a b).run P w=.ok (.bool (!r)) w:=by
 unfold aggEq at e
 split at e
 ·rename_i l l'
  split at e
  ·rename_i n hn
   obtain⟨fs,hu,hp,hf,hl⟩:=Oz hn
   split at e
   ·rename_i hb
    simp only[Bool.and_eq_true,Bool.not_eq_true',Nat.beq_eq] at hb
    have hfo:P.fieldsOf t=fs:=by simp [Program.fieldsOf,hu]
    have he:(Op.equalIn 10000 t (.agg ⟨l⟩) (.agg ⟨l'⟩)).run P w=.ok r w:=by
     rw[show(10000:Nat)=9998+1+1 from rfl,run_equalIn_struct w (9998+1) t _ _ (by rw[hfo]; exact hu) hp,hfo]
     exact QJ 9998 hf (List.drop_zero) (List.drop_zero) (by omega) e
    unfold gJ
    constructor
    ·simp only[Sem.run_bind,run_eqGuard_agg w .eql t x y _ _ hb.2,Result.andThen_ok,run_eql_struct,he]
    ·simp only[Sem.run_bind,run_eqGuard_agg w .neq t x y _ _ hb.2,Result.andThen_ok,run_neq_struct,he]
   ·cases e
  ·cases e
 ·cases e
omit h ht in
theorem aggBin_ok{op:BinOp}{t:TypeId}{a b v:Value}(e:DK P op t a b=some v)(x y:Operand)(w:World) :
  (gJ op t x y a b).run P w=.ok v w∧bz v=true:=by
 unfold DK at e
 split at e
 ·split at e
  ·rename_i r hr; cases e; exact⟨(aggEq_ok hr x y w).1,rfl⟩
  ·cases e
 ·split at e
  ·rename_i r hr; cases e; exact⟨(aggEq_ok hr x y w).2,rfl⟩
  ·cases e
 ·cases e
theorem bin_ok{op:BinOp}{t:TypeId}{x y:Operand}{v:Value}(e:oBin P op t x y st=some (v,st')) :
  Done P (ik (gJ op t x y (a.eval x) (a.eval y))) w₀ W φ w st v st':=by
 unfold oBin at e
 split at e
 ·rename_i p q hp hq
  have hp':=cJ ht hp
  have hq':=cJ ht hq
  refine Done.keep h e fun v hv=>?_
  unfold binV at hv
  split at hv
  ·rename_i u hu
   cases hv
   obtain⟨k1,k2,k3,k4⟩:=quick_ok (P:=P) (x:=x) (y:=y) (t:=t) hu w
   rw[bz.eq k3 hp',bz.eq k4 hq']
   exact⟨_,k1,bz.refl k2⟩
  ·unfold HW at hv
   split at hv
   ·rename_i hpure
    simp only[Bool.and_eq_true] at hpure
    rw[bz.eq hpure.1 hp',bz.eq hpure.2 hq']
    split at hv
    ·rename_i u hu
     cases hv
     obtain⟨k1,k2⟩:=aggBin_ok hu x y w
     exact⟨_,k1,bz.refl k2⟩
    split at hv
    ·rename_i u hu
     split at hv
     ·rename_i hpu
      cases hv
      exact⟨_,qZ hu w,bz.refl hpu⟩
     ·cases hv
    ·cases hv
   ·split at hv
    ·split at hv
     ·rename_i r hr
      cases hv
      exact⟨.bool r,(nilEq_ok hp' hq' hr w).1,bz.refl rfl⟩
     ·cases hv
    ·split at hv
     ·rename_i r hr
      cases hv
      exact⟨.bool (!r),(nilEq_ok hp' hq' hr w).2,bz.refl rfl⟩
     ·cases hv
    ·cases hv
 ·cases e
omit ht in
theorem viaPure_ok{m:Sem Value}{v:Value}(e:yY P m st=some (v,st')):Done P (ik m) w₀ W φ w st v st':=by
 unfold yY at e
 split at e
 ·rename_i u hu
  split at e
  ·rename_i hp
   simp only[Option.some.injEq,Prod.mk.injEq] at e
   obtain⟨rfl,rfl⟩:=e
   exact Done.val h (qZ hu w) (bz.refl hp)
  ·cases e
 ·cases e
theorem un_ok{op:UnOp}{x:Operand}{v:Value}(e:oUn P op x st=some (v,st')):Done P (ik (Op.unary op (a.eval x))) w₀ W φ w st v st':=by
 unfold oUn at e
 split at e
 ·rename_i u hu
  split at e
  ·rename_i hp
   rw[bz.eq hp (cJ ht hu)]
   exact viaPure_ok h e
  ·cases e
 ·cases e
theorem convert_ok{s d:TypeId}{x:Operand}{v:Value}(e:Ew P s d x st=some (v,st')):Done P (ik (convert s d (a.eval x))) w₀ W φ w st v st':=by
 unfold Ew at e
 split at e
 ·rename_i u hu
  split at e
  ·rename_i hp
   rw[bz.eq hp (cJ ht hu)]
   exact viaPure_ok h e
  ·cases e
 ·cases e
theorem fieldAddr_ok{t:TypeId}{x:Operand}{f:Nat}{v:Value}(e:wX P t x f st=some (v,st')) :
  Done P (ik (Instr.fieldAt t (a.eval x) f)) w₀ W φ w st v st':=by
 unfold wX at e
 split at e
 ·rename_i u hu
  refine Done.keep h e fun v hv=>?_
  unfold ax at hv
  split at hv
  ·rename_i ad
   split at hv
   ·rename_i off ft hsp hf
    split at hv
    ·rename_i s hs
     split at hv
     ·cases hv
     ·rename_i hne
      cases hv
      have hvr:=cJ ht hu; simp only[VR] at hvr
      obtain⟨ad',e1,har⟩:=hvr
      unfold Bq at hf
      split at hf
      ·rename_i fs hund
       split at hf
       ·rename_i fl hfl
        simp only[Option.some.injEq,Prod.mk.injEq] at hf
        obtain⟨rfl,rfl⟩:=hf
        refine⟨.pointer (some (ad'.add fl.offset)),?_,by simp only[VR]; exact⟨_,rfl,har.add hsp _⟩⟩
        have hfl':fs[f]?=some fl:=by simpa using hfl
        simp [Instr.fieldAt,cx hund,hfl',e1,Instr.sureAddr,fieldPlace,fY hs,hne]
       ·cases hf
      ·cases hf
    ·cases hv
   ·cases hv
  ·cases hv
 ·cases e
theorem field_ok{t:TypeId}{x:Operand}{f:Nat}{v:Value}(e:Zy P t x f st=some (v,st')) :
  Done P (ik (Instr.field t (a.eval x) f)) w₀ W φ w st v st':=by
 unfold Zy at e
 split at e
 ·rename_i u hu
  refine Done.keep h e fun v hv=>?_
  unfold Qq at hv
  split at hv
  ·rename_i cs
   split at hv
   ·rename_i off ft hf
    have hvr:=cJ ht hu; simp only[VR] at hvr
    obtain⟨cs',e1,har⟩:=hvr
    unfold Bq at hf
    split at hf
    ·rename_i fs hund
     split at hf
     ·rename_i fl hfl
      simp only[Option.some.injEq,Prod.mk.injEq] at hf
      obtain⟨rfl,rfl⟩:=hf
      have hl:VRL φ cs.toList cs'.toList:=by cases cs; simpa only [VRA] using har
      obtain⟨v',h1,h2⟩:=part_ok (P:=P) hl hv w
      have hfl':fs[f]?=some fl:=by simpa using hfl
      refine⟨v',?_,h2⟩
      have h1':(part fl.type cs' fl.offset).run P w=.ok v' w:=h1
      simp [Instr.field,cx hund,hfl',e1,asAgg,h1']
     ·cases hf
    ·cases hf
   ·cases hv
  ·cases hv
 ·cases e
theorem indexAddr_ok{t:TypeId}{x i:Operand}{v:Value}(e:wY P t x i st=some (v,st')) :
  Done P (ik (Instr.indexAt t (a.eval x) (a.eval i))) w₀ W φ w st v st':=by
 unfold wY at e
 split at e
 ·rename_i u k hu hk
  refine Done.keep h e fun v hv=>?_
  unfold aJ at hv
  split at hv
  ·rename_i len el ad hund
   split at hv
   ·cases hv
   ·rename_i hsp
    split at hv
    ·rename_i j s hj hs
     cases hv
     obtain⟨q,rfl,hlt⟩:=Iq hj
     have hvr:=cJ ht hu; simp only[VR] at hvr
     obtain⟨ad',e1,har⟩:=hvr
     have hkr:=cJ ht hk; simp only[VR] at hkr
     refine⟨.pointer (some (ad'.add (j * s))),?_,by simp only[VR]; exact⟨_,rfl,har.add hsp _⟩⟩
     simp [Instr.indexAt,hkr,asIntOf,cx hund,e1,Instr.sureAddr,fY hs,hlt]
    ·cases hv
  ·rename_i el ad len cap hund
   split at hv
   ·cases hv
   ·rename_i hsp
    split at hv
    ·rename_i j s hj hs
     cases hv
     obtain⟨q,rfl,hlt⟩:=Iq hj
     have hvr:=cJ ht hu; simp only[VR] at hvr
     obtain⟨ad',c',e1,hq⟩:=hvr
     have har:=(hq.resolve_right (fun z=>by omega)).1
     have hkr:=cJ ht hk; simp only[VR] at hkr
     refine⟨.pointer (some (ad'.add (j * s))),?_,by simp only[VR]; exact⟨_,rfl,har.add hsp _⟩⟩
     simp [Instr.indexAt,hkr,asIntOf,cx hund,e1,fY hs,hlt]
    ·cases hv
  ·cases hv
 ·cases e
theorem index_ok{t:TypeId}{x i:Operand}{v:Value}(e:Zz P t x i st=some (v,st')) :
  Done P (ik (Instr.index t (a.eval x) (a.eval i))) w₀ W φ w st v st':=by
 unfold Zz at e
 split at e
 ·rename_i u k hu hk
  refine Done.keep h e fun v hv=>?_
  unfold uX at hv
  split at hv
  ·rename_i len el cs hund
   split at hv
   ·rename_i j s hj hs
    obtain⟨q,rfl,hlt⟩:=Iq hj
    have hvr:=cJ ht hu; simp only[VR] at hvr
    obtain⟨cs',e1,har⟩:=hvr
    have hkr:=cJ ht hk; simp only[VR] at hkr
    have hl:VRL φ cs.toList cs'.toList:=by cases cs; simpa only [VRA] using har
    obtain⟨v',h1,h2⟩:=part_ok (P:=P) hl hv w
    refine⟨v',?_,h2⟩
    have h1':(part el cs' (j * s)).run P w=.ok v' w:=h1
    simp [Instr.index,hkr,asIntOf,cx hund,e1,fY hs,hlt,h1']
   ·cases hv
  ·rename_i s hund
   split at hv
   ·rename_i j hj
    split at hv
    ·rename_i b hb
     cases hv
     obtain⟨q,rfl,hlt⟩:=Iq hj
     have hvr:=cJ ht hu; simp only[VR] at hvr
     have hkr:=cJ ht hk; simp only[VR] at hkr
     have hs:s[j]?=some b:=by
      cases s with
      | mk d=>
       have hlt':j<d.size:=hlt
       rw[Array.getElem?_toList,Array.getElem?_eq_getElem hlt'] at hb
       rw[getElem?_pos (⟨d⟩:ByteArray) j hlt]
       exact hb
     refine⟨.int .u8 b.toNat,?_,by simp only[VR]⟩
     simp [Instr.index,hkr,asIntOf,cx hund,hvr,hs]
    ·cases hv
   ·cases hv
  ·cases hv
 ·cases e
theorem extract_ok{x:Operand}{i:Nat}{v:Value}(e:Ez x i st=some (v,st')) :
  Done P (ik (Instr.extract (a.eval x) i)) w₀ W φ w st v st':=by
 unfold Ez at e
 split at e
 ·rename_i vs hx
  refine Done.keep h e fun v hv=>?_
  have hvr:=cJ ht hx; simp only[VR] at hvr
  obtain⟨cs',e1,har⟩:=hvr
  have hl:VRL φ vs.toList cs'.toList:=by cases vs; simpa only [VRA] using har
  obtain⟨v',h1,h2⟩:=hl.get hv
  have h1':cs'[i]?=some v':=by simpa using h1
  exact⟨v',by simp [Instr.extract,e1,h1'],h2⟩
 ·cases e
theorem makeFunc_ok{fn:Fn}{first cap:Array Operand}{v:Value}(e:zY fn first cap st=some (v,st')) :
  Done P (ik (Instr.makeFunc fn (first.map a.eval) (cap.map a.eval))) w₀ W φ w st v st':=by
 unfold zY at e
 split at e
 ·rename_i f
  split at e
  ·rename_i p q hp hq
   simp only[Option.some.injEq,Prod.mk.injEq] at e
   obtain⟨rfl,rfl⟩:=e
   refine Done.val h (v':=.func (.func f) (first.map a.eval) (cap.map a.eval)) rfl ?_
   simp only[VR]
   refine⟨_,_,_,rfl,rfl,?_,?_⟩
   ·simp only[VRA]; simpa using HK ht hp
   ·simp only[VRA]; simpa using HK ht hq
  ·cases e
 ·cases e
end
end Go.Ev
end
section
namespace Go.Ev
open Go
variable {P:Program} {w₀:World} {W:Sets} {φ:Phi} {st st':St} {w:World} {a:Act} {H:Hp} {n:Nat}
theorem EJ{z:Value}(h:bz z=true):ek (aQ z)=true:=by
 cases z <;> simp_all [aQ,ek,bz]
 rename_i cs; cases cs; simpa [lj] using h
theorem pureL_append:∀ {l m:List Value},ek l=true→ek m=true→ek (l++m)=true
 | [],m,_,h=>h
 | x::l,m,h,k=>by
  simp only[ek,List.cons_append,Bool.and_eq_true] at *
  exact⟨h.1,pureL_append h.2 k⟩
theorem Bz{z:List Value}(h:ek z=true):∀ n,ek (repl n z)=true
 | 0=>rfl
 | n+1=>pureL_append h (Bz h n)
theorem repl_length(z:List Value):∀ n,(repl n z).length=n * z.length
 | 0=>by simp [repl]
 | n+1=>by simp [repl,repl_length z n,Nat.succ_mul]; omega
theorem smallOk_inv{a b c:Nat}(h:yW a b c=true):a<1048576∧b<1048576∧c<1048576:=by
 simp [yW] at h; exact⟨h.1.1,h.1.2,h.2⟩
theorem OJ(n:Nat)(h:n<1048576):IntKind.i64.wrap (n:Int)=n:=by
 have e:(n:Int) % 18446744073709551616=n:=by omega
 simp [IntKind.wrap,IntKind.bits,IntKind.signed,e]
 omega
section
variable (h:I w₀ W φ st.H st.n w) (ht:TR φ st.T a.tmps)
include h ht
theorem makeSlice_ok{t:TypeId}{l c:Operand}{v:Value}(e:nJ P t l c st=some (v,st')) :
  Done P (ik (Instr.makeSlice t (a.eval l) (a.eval c))) w₀ W φ w st v st':=by
 unfold nJ at e
 split at e
 ·rename_i el l c hel hl hc
  split at e
  ·rename_i s b z hs hb hz
   split at e
   ·rename_i hcond
    simp only[Option.some.injEq,Prod.mk.injEq] at e
    obtain⟨rfl,rfl⟩:=e
    obtain⟨hlc,hbig,hzl⟩:=hcond
    obtain⟨hb1,hb2,hb3⟩:=smallOk_inv hbig
    obtain⟨hzr,hzp⟩:=jK hz w
    obtain⟨i,hir,rfl⟩:=By hb w
    have e1:=cJ ht hl; simp only[VR] at e1
    have e2:=cJ ht hc; simp only[VR] at e2
    refine Done.row (cp:=0) (c':=repl c (aQ z)) h (Pre.of (ek.refl (Bz (EJ hzp) c))) (fun s hs=>by cases hs) (v':=.slice (some ⟨w.heap.size,0,none⟩) l c) ?_ ?_
    ·have w1 := OJ l (by omega)
     have w2:=OJ c hb1
     have hz2:z.cells.size=s:=by rw[← hzl,fq]; simp
     have hmul:(i.bytes:Int) * (c:Int)≤2 ^ 48:=by
      have:i.bytes * c≤1048576 * 1048576:=Nat.mul_le_mul (by omega) (by omega)
      have:=Int.ofNat_le.2 this
      rw[Int.natCast_mul] at this
      omega
     have hno:((decide ((c:Int)<0) || decide ((i.bytes:Int) * (c:Int) > 2 ^ 48)) || decide ((l:Int)<0) || decide ((l:Int) > (c:Int)))=false:=by
      have q1:¬ ((c:Int)<0):=by omega
      have q2:¬ ((i.bytes:Int) * (c:Int) > 2 ^ 48):=by omega
      have q3:¬ ((l:Int)<0):=by omega
      have q4:¬ ((l:Int) > (c:Int)):=by omega
      simp only[decide_eq_false q1,decide_eq_false q2,decide_eq_false q3,decide_eq_false q4,Bool.or_false]
     simp only[Instr.makeSlice,Sem.run_bind,cx (iw hel),Result.andThen_ok,e1,e2,asInt,asIntOf,Sem.run_pure,hir,Int.ofNat_eq_natCast,w1,w2]
     rw[hno]
     simp only[Bool.false_eq_true,if_false,Sem.run_bind,run_askRoom,Result.andThen_ok,fY hs,Int.toNat_natCast]
     by_cases h0:c * s=0
     ·have : repl c (aQ z) = [] := by rw [Ij, hzl, h0]; rfl
      have e0:(Array.map (fun x=>(#[]:Array Value)[x % (#[]:Array Value).size]!) (Array.range 0))=⟨[]⟩:=by simp
      simp only[h0,if_true,pure_bind]
      rw[e0,this]
      simp [newRow]
     ·simp only [h0, if_false, Sem.run_bind, hzr, Result.andThen_ok, Sem.run_pure]
      have e0:=ry z.cells c
      rw[hz2] at e0
      rw[hz2,e0,← fq]
      simp [newRow]
    ·simp only [VR]
     exact⟨_,_,rfl,.inl ⟨⟨⟨0,cW _ _ _⟩,rfl,rfl⟩,.inl ⟨by unfold capV; omega,rfl⟩⟩⟩
   ·cases e
  ·cases e
 ·cases e
omit h in
theorem opdO_ok{x:Option Operand}{v:Option Value}(e:opdO x st.T=some v):(v=none∧x.map a.eval=none)∨∃ u u',v=some u∧x.map a.eval=some u'∧VR φ u u':=by
 cases x with
 | none=>simp [opdO] at e; exact .inl ⟨e.symm,rfl⟩
 | some x=>
  simp only[opdO] at e
  split at e
  ·rename_i u hu; cases e; exact .inr ⟨u,_,rfl,rfl,cJ ht hu⟩
  ·cases e
omit h ht in
theorem VR.slice_inv{x:Addr}{n c:Nat}{v':Value}(k:VR φ (.slice (some x) n c) v'):∃ x' c',v'=.slice (some x') n c'∧((AR φ x x'∧CR φ x n c c')∨(n=0∧c=capE)):=by
 simpa only [VR] using k
omit h ht in
theorem VR.slice_inv2{x:Addr}{n c:Nat}{v':Value}(k:VR φ (.slice (some x) n c) v')(hc:c≠capE):∃ x' c',v'=.slice (some x') n c'∧AR φ x x'∧CR φ x n c c':=by
 obtain⟨x',c',e,q⟩:=VR.slice_inv k
 rcases q with q | q
 ·exact⟨x',c',e,q⟩
 ·exact absurd q.2 hc
omit h ht in
theorem Aq{isS:Bool}{len m l r:Nat}{lo hi lo' hi':Option Value}(hlo:(lo=none∧lo'=none)∨∃ u u',lo=some u∧lo'=some u'∧VR φ u u')
  (hhi:(hi=none∧hi'=none)∨∃ u u',hi=some u∧hi'=some u'∧VR φ u u') {m':Nat} (hm:m≤m') (e:lY len m lo hi=some (l,r)) (hlen:len≤m) (w:World) :
  (Instr.sliceBounds isS len m' lo' hi' none).run P w=.ok (l,r,m') w∧l≤r∧r≤m:=by
 have one:∀ {v v':Value} {y y' k:Nat} {code:BoundsCode},VR φ v v'→Zw v y=some k→y≤y'→(Instr.sliceBound v' y' code).run P w=.ok k w∧k≤y:=by
  intro v v' y y' k code hv hk hy
  obtain⟨q,rfl,hle⟩:=bndIn_inv hk
  simp only[VR] at hv; subst hv
  refine⟨?_,hle⟩
  have:(k:Int)≤y':=by omega
  simp [Instr.sliceBound,asIntOf,this]
 unfold lY at e
 split at e
 ·cases e
 ·rename_i r' hr
  split at e
  ·cases e
  ·rename_i l' hl
   simp only[Option.some.injEq,Prod.mk.injEq] at e
   obtain⟨rfl,rfl⟩:=e
   rcases hhi with⟨rfl,rfl⟩ | ⟨u,u',rfl,rfl,hu⟩
   ·simp only [hiV, Option.some.injEq] at hr; subst hr
    rcases hlo with⟨rfl,rfl⟩ | ⟨x,x',rfl,rfl,hx⟩
    ·simp only [loV, Option.some.injEq] at hl; subst hl
     exact⟨by simp [Instr.sliceBounds],Nat.zero_le _,hlen⟩
    ·simp only [loV] at hl
     obtain⟨h1,h2⟩:=one (code:=.sliceB) hx hl (Nat.le_refl _)
     exact⟨by simp [Instr.sliceBounds,h1],h2,hlen⟩
   ·simp only [hiV] at hr
    obtain⟨g1,g2⟩:=one (code:=if isS then .sliceAcap else .sliceAlen) hu hr hm
    rcases hlo with⟨rfl,rfl⟩ | ⟨x,x',rfl,rfl,hx⟩
    ·simp only [loV, Option.some.injEq] at hl; subst hl
     exact⟨by simp [Instr.sliceBounds,g1],Nat.zero_le _,g2⟩
    ·simp only [loV] at hl
     obtain⟨h1,h2⟩:=one (code:=.sliceB) hx hl (Nat.le_refl _)
     exact⟨by simp [Instr.sliceBounds,g1,h1],h2,g2⟩
theorem slice_ok{t:TypeId}{x:Operand}{lo hi:Option Operand}{v:Value}(e:Zx P t x lo hi st=some (v,st')) :
  Done P (ik (Instr.sliceAt t (a.eval x) (lo.map a.eval) (hi.map a.eval) none)) w₀ W φ w st v st':=by
 unfold Zx at e
 split at e
 ·rename_i u l0 h0 hu hl0 hh0
  refine Done.keep h e fun v hv=>?_
  have hlo:=opdO_ok ht hl0
  have hhi:=opdO_ok ht hh0
  have hur:=cJ ht hu
  unfold lw at hv
  split at hv
  ·rename_i el ad len cap hund
   split at hv
   ·rename_i s hsp hs
    obtain⟨ad',c',e1,hq⟩:=VR.slice_inv hur
    have hrun:∀ {l r m:Nat},(Instr.sliceBounds true len c' (lo.map a.eval) (hi.map a.eval) none).run P w=.ok (l,r,m) w →
      (Instr.sliceAt t (a.eval x) (lo.map a.eval) (hi.map a.eval) none).run P w=.ok (.slice (some (if m=l then ad' else ad'.add (l * s))) (r-l) (m-l)) w:=by
     intro l r m hb
     have:(Instr.slice t (a.eval x) (lo.map a.eval) (hi.map a.eval) none).run P w=.ok (.slice (some (if m=l then ad' else ad'.add (l * s))) (r-l) (m-l)) w:=by
      simp only[Instr.slice,Sem.run_bind,cx hund,Result.andThen_ok,e1,hb,fY hs,Sem.run_pure]
      by_cases q:m=l <;> simp [q]
     simp only[Instr.sliceAt,Sem.run_bind,cx hund,Result.andThen_ok]
     exact this
    split at hv
    ·rename_i hcap
     obtain⟨har,hcr⟩:=hq.resolve_right (fun z=>by have:=z.2; unfold capE capV at *; omega)
     have hc':c'=cap:=by
      rcases hcr with⟨_,q⟩ | ⟨q,_⟩ | ⟨q,_⟩
      ·exact q
      ·unfold capV at *; omega
      ·unfold capV capR at *; omega
     subst hc'
     split at hv
     ·rename_i hlen
      split at hv
      ·rename_i l r hb
       cases hv
       obtain⟨b1,b2,b3⟩:=Aq (P:=P) (isS:=true) hlo hhi (Nat.le_refl c') hb hlen w
       refine⟨_,hrun b1,?_⟩
       simp only[VR]
       refine⟨_,_,rfl,.inl ⟨?_,.inl ⟨by omega,rfl⟩⟩⟩
       split
       ·exact har
       ·exact har.add hsp _
      ·cases hv
     ·cases hv
    ·rename_i hcap
     have hlc:len≤c':=by
      rcases hq with⟨_,⟨q,_⟩ | ⟨_,_,_,q,_⟩ | ⟨_,q⟩⟩ | ⟨q,_⟩
      ·exact absurd q hcap
      ·exact q
      ·exact q
      ·omega
     split at hv
     ·rename_i l r hb
      obtain⟨b1,b2,b3⟩:=Aq (P:=P) (isS:=true) hlo hhi hlc hb (Nat.le_refl _) w
      split at hv
      ·rename_i hl
       subst hl
       cases hv
       refine⟨_,hrun b1,?_⟩
       simp only[Qj,VR,Nat.sub_self]
       exact⟨_,_,rfl,.inr ⟨trivial,trivial⟩⟩
      ·rename_i hlr
       obtain⟨har,hcr⟩:=hq.resolve_right (fun z=>by omega)
       split at hv
       ·rename_i hl
        subst hl
        split at hv
        ·rename_i hcv
         cases hv
         refine⟨_,hrun b1,?_⟩
         have hne:¬ c'=0:=by omega
         simp only[VR,Nat.zero_mul,Nat.sub_zero,if_neg hne]
         refine⟨_,_,rfl,.inl ⟨?_,?_⟩⟩
         ·have := har.add hsp 0
          have e2:addA ad 0=ad:=by rw[iz hsp]; rfl
          rwa [e2] at this
         ·rcases hcr with ⟨q, _⟩ | ⟨q1, q2, q3, q4, q5⟩ | ⟨q, _⟩
          ·exact absurd q hcap
          ·exact .inr (.inl ⟨rfl,q2,q3,by omega,q5⟩)
          ·unfold capV capR at *; omega
        ·cases hv
         refine⟨_,hrun b1,?_⟩
         have hne:¬ c'=0:=by omega
         simp only[VR,Nat.zero_mul,Nat.sub_zero,if_neg hne]
         refine⟨_,_,rfl,.inl ⟨?_,.inr (.inr ⟨rfl,by omega⟩)⟩⟩
         have:=har.add hsp 0
         have e2:addA ad 0=ad:=by rw[iz hsp]; rfl
         rwa [e2] at this
       ·rename_i hl
        cases hv
        refine⟨_,hrun b1,?_⟩
        have hne:¬ c'=l:=by omega
        simp only[VR,if_neg hne]
        exact⟨_,_,rfl,.inl ⟨har.add hsp _,.inr (.inr ⟨rfl,by omega⟩)⟩⟩
     ·cases hv
   ·rename_i s0 s hsp hs
    obtain⟨ad',c',e1,hq⟩:=VR.slice_inv hur
    have hrun:∀ {l r m:Nat},(Instr.sliceBounds true len c' (lo.map a.eval) (hi.map a.eval) none).run P w=.ok (l,r,m) w →
      (Instr.sliceAt t (a.eval x) (lo.map a.eval) (hi.map a.eval) none).run P w=.ok (.slice (some (if m=l then ad' else ad'.add (l * s))) (r-l) (m-l)) w:=by
     intro l r m hb
     have:(Instr.slice t (a.eval x) (lo.map a.eval) (hi.map a.eval) none).run P w=.ok (.slice (some (if m=l then ad' else ad'.add (l * s))) (r-l) (m-l)) w:=by
      simp only[Instr.slice,Sem.run_bind,cx hund,Result.andThen_ok,e1,hb,fY hs,Sem.run_pure]
      by_cases q:m=l <;> simp [q]
     simp only[Instr.sliceAt,Sem.run_bind,cx hund,Result.andThen_ok]
     exact this
    split at hv
    ·rename_i hz
     subst hz
     split at hv
     ·rename_i lr hb
      cases hv
      obtain⟨l,r⟩:=lr
      obtain⟨b1,b2,b3⟩:=Aq (P:=P) (isS:=true) hlo hhi (Nat.zero_le c') hb (Nat.le_refl _) w
      have hl:l=0:=by omega
      have hr:r=0:=by omega
      subst hl hr
      refine⟨_,hrun b1,?_⟩
      simp only[Qj,VR,Nat.sub_self]
      exact⟨_,_,rfl,.inr ⟨trivial,trivial⟩⟩
     ·cases hv
    ·cases hv
   ·cases hv
  ·rename_i el hund
   split at hv
   ·rename_i lr s hb hs
    cases hv
    have e1:a.eval x=.slice none 0 0:=by simpa only [VR] using hur
    obtain⟨l,r⟩:=lr
    obtain⟨b1,b2,b3⟩:=Aq (P:=P) (isS:=true) hlo hhi (Nat.le_refl 0) hb (Nat.le_refl _) w
    have hl:l=0:=by omega
    have hr:r=0:=by omega
    subst hl hr
    refine⟨.slice none 0 0,?_,by simp only[VR]⟩
    simp only[Instr.sliceAt,Instr.slice,Sem.run_bind,cx hund,Result.andThen_ok,e1,b1,fY hs,Sem.run_pure,if_true]
   ·cases hv
  ·rename_i k el ad hund
   split at hv
   ·rename_i s hsp hs
    split at hv
    ·rename_i l r hb
     split at hv
     case isFalse=>cases hv
     rename_i hkc
     cases hv
     simp only[VR] at hur
     obtain⟨ad',e1,har⟩:=hur
     obtain⟨b1,b2,b3⟩:=Aq (P:=P) (isS:=false) hlo hhi (Nat.le_refl k) hb (Nat.le_refl _) w
     refine⟨.slice (some (if k=l then ad' else ad'.add (l * s))) (r-l) (k-l),?_,?_⟩
     ·simp only[Instr.sliceAt,Sem.run_bind,cx hund,Result.andThen_ok,e1,Instr.sureAddr,Sem.run_pure,b1,fY hs]
     ·simp only [VR]
      refine⟨_,_,rfl,.inl ⟨?_,.inl ⟨?_,rfl⟩⟩⟩
      ·split
       ·exact har
       ·exact har.add hsp _
      ·omega
    ·cases hv
   ·cases hv
  ·cases hv
 ·cases e
end
end Go.Ev
end
