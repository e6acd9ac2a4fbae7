/- Texts Ev1 to Ev18. -/
import Derived.Orders
import Derived.KernelRfl
import Derived.Laws.CopyRow
import Derived.Laws.Cells
import Derived.Laws.StructEq
import Derived.WideKeyRuns
namespace Go.Ev
noncomputable section
open Go
inductive Tr (α:Type) where
 | nil
 | node (v:Option α) (l r:Tr α)
def RV:Nat→Nat→List Bool
 | 0,_=>[]
 | k+1,n=>match n with
  | 0=>[]
  | m+1=>(m % 2 == 0)::RV k (m / 2)
def path(n:Nat):List Bool:=RV (n+1) n
noncomputable def getP{α:Type}(p:List Bool)(t:Tr α):Option α:=
 List.rec (motive:=fun _=>Tr α→Option α) (fun t=>Tr.rec (motive:=fun _=>Option α) none (fun v _ _ _ _=>v) t)
  (fun b _ ih t=>Tr.rec (motive:=fun _=>Option α) none (fun _ l r _ _=>Bool.rec (motive:=fun _=>Option α) (ih r) (ih l) b) t) p t
theorem getP_n_nil{α:Type}:getP [] (.nil:Tr α)=none:=rfl
theorem getP_n_node{α:Type}(v:Option α)(l r:Tr α):getP [] (.node v l r)=v:=rfl
theorem Mk{α:Type}(p:List Bool)(v:Option α)(l r:Tr α):getP (true::p) (.node v l r)=getP p l:=rfl
theorem MJ{α:Type}(p:List Bool)(v:Option α)(l r:Tr α):getP (false::p) (.node v l r)=getP p r:=rfl
noncomputable def setP{α:Type}(v:Option α)(p:List Bool)(t:Tr α):Tr α:=
 List.rec (motive:=fun _=>Tr α→Tr α) (fun t=>Tr.rec (motive:=fun _=>Tr α) (.node v .nil .nil) (fun _ l r _ _=>.node v l r) t)
  (fun b _ ih t=>Tr.rec (motive:=fun _=>Tr α) (Bool.rec (motive:=fun _=>Tr α) (.node none .nil (ih .nil)) (.node none (ih .nil) .nil) b)
   (fun u l r _ _=>Bool.rec (motive:=fun _=>Tr α) (.node u l (ih r)) (.node u (ih l) r) b) t) p t
theorem setP_n_nil{α:Type}(v:Option α):setP v [] .nil=.node v .nil .nil:=rfl
theorem setP_n_node{α:Type}(v u:Option α)(l r:Tr α):setP v [] (.node u l r)=.node v l r:=rfl
theorem setP_t_nil{α:Type}(v:Option α)(p:List Bool):setP v (true::p) .nil=.node none (setP v p .nil) .nil:=rfl
theorem setP_f_nil{α:Type}(v:Option α)(p:List Bool):setP v (false::p) .nil=.node none .nil (setP v p .nil):=rfl
theorem setP_t_node{α:Type}(v u:Option α)(p:List Bool)(l r:Tr α):setP v (true::p) (.node u l r)=.node u (setP v p l) r:=rfl
theorem setP_f_node{α:Type}(v u:Option α)(p:List Bool)(l r:Tr α):setP v (false::p) (.node u l r)=.node u l (setP v p r):=rfl
noncomputable def Tr.get{α:Type}(t:Tr α)(n:Nat):Option α:=getP (path n) t
noncomputable def Tr.set{α:Type}(t:Tr α)(n:Nat)(v:Option α):Tr α:=setP v (path n) t
theorem qgv{α:Type}(p:List Bool):getP p (.nil:Tr α)=none:=by cases p <;> rfl
theorem getP_setP{α:Type}(v:Option α):∀(p q:List Bool) (t:Tr α),getP q (setP v p t)=if q=p then v else getP q t
 | [],[],.nil=>rfl
 | [],[],.node _ _ _=>rfl
 | [],c::q,.nil=>by cases c <;> simp [setP_n_nil,Mk,MJ,qgv]
 | [],c::q,.node _ _ _=>by cases c <;> simp [setP_n_node,Mk,MJ]
 | b::p,[],t=>by cases t <;> cases b <;> simp [setP_t_nil,setP_f_nil,setP_t_node,setP_f_node,getP_n_node,getP_n_nil]
 | b::p,c::q,t=>by
  cases t <;> cases b <;> cases c <;> simp [setP_t_nil,setP_f_nil,setP_t_node,setP_f_node,Mk,MJ,getP_setP v p q,qgv]
theorem pathF_inj:∀(k m n:Nat),m<k→n<k→RV k m=RV k n→m=n
 | 0,_,_,h,_,_=>by omega
 | k+1,0,0,_,_,_=>rfl
 | k+1,0,n+1,_,_,h=>by simp [RV] at h
 | k+1,m+1,0,_,_,h=>by simp [RV] at h
 | k+1,m+1,n+1,hm,hn,h=>by
  simp only[RV,List.cons.injEq] at h
  have h2:=pathF_inj k (m / 2) (n / 2) (by omega) (by omega) h.2
  have h1:=h.1
  by_cases a:m % 2=0 <;> by_cases b:n % 2=0 <;> (try simp [a,b] at h1) <;> omega
theorem Sz:∀(k j m:Nat),m<k→m<j→RV k m=RV j m
 | 0,_,_,h,_=>by omega
 | _,0,_,_,h=>by omega
 | k+1,j+1,0,_,_=>rfl
 | k+1,j+1,m+1,hk,hj=>by
  simp only[RV]
  rw[Sz k j (m / 2) (by omega) (by omega)]
theorem path_inj{m n:Nat}(h:path m=path n):m=n:=by
 unfold path at h
 rw[Sz (m+1) (m+n+1) m (by omega) (by omega),Sz (n+1) (m+n+1) n (by omega) (by omega)] at h
 exact pathF_inj _ _ _ (by omega) (by omega) h
theorem Tr.get_set{α:Type}(t:Tr α)(n:Nat)(v:Option α)(m:Nat) :
  (t.set n v).get m=if m=n then v else t.get m:=by
 unfold Tr.get Tr.set
 rw[getP_setP]
 by_cases h:m=n
 ·subst h; simp
 ·have:¬ path m=path n:=fun e=>h (path_inj e)
  simp [h,this]
theorem Tr.get_nil{α:Type}(n:Nat):(Tr.nil:Tr α).get n=none:=qgv _
inductive Blk where
 | cells (c:List Value) (elem:TypeId) (ro:Bool) (vec:Option Nat)
 | loop (state:LoopState) (pending:Option Code) (fn:FuncId) (T:Tr Value) (N:Nat) (params:Array Tmp) (assign body:Code) (defers:Nat)
 | deferred
 | map (es:List MapEntry) (clock:Nat)
 | rows (c:List Value)
def capV:Nat:=4611686018427387904
def capR:Nat:=4611686018427387905
mutual
def bw:Value→Bool
 | .bool _ | .int _ _ | .string _ | .float _ _ | .complex _ _ _ | .nilFunc | .nilIface=>true
 | .pointer a=>a.isNone
 | .slice a _ _=>a.isNone
 | .map r=>r.isNone
 | .chan _=>false
 | .func fn f c=>(match fn with | .yield _=>false | _=>true) && ox f && ox c
 | .iface _ v=>bw v
 | .agg cs=>ox cs
 | .tuple cs=>ox cs
def ox:Array Value→Bool
 | ⟨l⟩=>ck l
def ck:List Value→Bool
 | []=>true
 | v::l=>bw v && ck l
end
def tj:Value→Bool
 | .agg _ | .tuple _=>false
 | _=>true
abbrev Tm:=Tr Value
abbrev Hp:=Tr Blk
structure St where
 T:Tm
 H:Hp
 n:Nat
 D:List Nat
def opd:Operand→Tm→Option Value
 | .tmp t,T=>T.get t
 | .const v,_=>match bw v with
  | true=>some v
  | false=>none
 | .func f,_=>some (.func (.func f) #[] #[])
 | .global _,_=>none
def opds(T:Tm):List Operand→Option (List Value)
 | []=>some []
 | x::l=>match opd x T with
  | none=>none
  | some v=>match opds T l with
   | none=>none
   | some vs=>some (v::vs)
def cY{α:Type}(P:Program):Sem α→Option α
 | .pure a=>some a
 | .program k=>cY P (k P)
 | .mark _ k=>cY P k
 | _=>none
def fJ(P:Program)(t:TypeId):Option Bool:=
 match P.underlying t with
 | some (.struct _) | some (.array _ _)=>some true
 | some _=>some false
 | none=>none
def szT(P:Program)(t:TypeId):Option Nat:=
 match P.info? t with
 | some i=>some i.size
 | none=>none
def yQ(P:Program)(t:TypeId):Option Nat:=
 match P.info? t with
 | some i=>some i.bytes
 | none=>none
def iJ(P:Program)(t:TypeId):Option Value:=
 match P.info? t with
 | some i=>match i.zero with
  | some v=>if bw v then some v else none
  | none=>none
 | none=>none
def cut(l:List Value)(off n:Nat):Option (List Value):=
 let s:=(l.drop off).take n
 if s.length=n then some s else none
def ij(l:List Value):Nat→List Value→Option (List Value)
 | 0,vs=>over l vs
 | k+1,vs=>match l with
  | []=>none
  | x::l=>match ij l k vs with
   | none=>none
   | some r=>some (x::r)
where
 over:List Value→List Value→Option (List Value)
  | l,[]=>some l
  | [],_::_=>none
  | _::l,v::vs=>match over l vs with
   | none=>none
   | some r=>some (v::r)
def Cy(P:Program)(t:TypeId)(c:List Value)(off:Nat):Option Value:=
 match fJ P t with
 | some true=>match szT P t with
  | some s=>match cut c off s with
   | some l=>some (.agg ⟨l⟩)
   | none=>none
  | none=>none
 | some false=>c[off]?
 | none=>none
def lJ:Value→Bool
 | .chan _=>false
 | _=>true
def vj:Value→Bool
 | .agg ⟨l⟩=>l.all lJ
 | v=>lJ v
def az(P:Program)(H:Hp)(t:TypeId)(a:Addr):Option Value:=
 match a.spot with
 | some _=>none
 | none=>match H.get a.block with
  | some (.cells c _ _ _)=>Cy P t c a.off
  | some (.rows c)=>match Cy P t c a.off with
   | some v=>match vj v with
    | true=>some v
    | false=>none
   | none=>none
  | _=>none
def qX(H:Hp)(a:Addr)(n:Nat):Option (List Value):=
 match a.spot with
 | some _=>none
 | none=>match H.get a.block with
  | some (.cells c _ _ _)=>cut c a.off n
  | some (.rows c)=>match cut c a.off n with
   | some l=>match l.all lJ with
    | true=>some l
    | false=>none
   | none=>none
  | _=>none
def storeN(H:Hp)(a:Addr)(vs:List Value):Option Hp:=
 match a.spot with
 | some _=>none
 | none=>match H.get a.block with
  | some (.cells c e false vec)=>if vs.all tj then match ij c a.off vs with
   | some c'=>some (H.set a.block (some (.cells c' e false vec)))
   | none=>none
   else none
  | _=>none
def aZ:Value→List Value
 | .agg cs=>cs.toList
 | v=>[v]
def RW(place:Nat→Option (Nat × Nat))(cells:List Value):List (Nat × Value)→Option (List Value)
 | []=>some cells
 | (i,v)::rest=>match place i with
  | none=>none
  | some (off,size)=>if(aZ v).length=size then match ij cells off (aZ v) with
   | some c=>RW place c rest
   | none=>none
   else none
def repl(n:Nat)(z:List Value):List Value:=
 match n with
 | 0=>[]
 | n+1=>z++repl n z
def Hy(T:Tm):List (Nat × Operand)→Option (List (Nat × Value))
 | []=>some []
 | (i,x)::l=>match opd x T with
  | none=>none
  | some v=>match Hy T l with
   | none=>none
   | some vs=>some ((i,v)::vs)
def Wx(P:Program):List Field→Option (List (Nat × Nat))
 | []=>some []
 | f::l=>match szT P f.type with
  | none=>none
  | some s=>match Wx P l with
   | none=>none
   | some r=>some ((f.offset,s)::r)
def buildV(P:Program)(T:Tm)(t:TypeId)(parts:List (Nat × Operand)):Option Value:=
 match iJ P t,Hy T parts with
 | some z,some ps=>match P.underlying t with
  | some (.struct fs)=>match Wx P fs.toList with
   | some pl=>match RW (pl[·]?) (aZ z) ps with
    | some c=>some (.agg ⟨c⟩)
    | none=>none
   | none=>none
  | some (.array _ e)=>match szT P e with
   | some s=>match RW (fun i=>some (i * s,s)) (aZ z) ps with
    | some c=>some (.agg ⟨c⟩)
    | none=>none
   | none=>none
  | _=>none
 | _,_=>none
def vy(st:St)(c:List Value)(e:TypeId)(vec:Option Nat):St:=
 { st with H:=st.H.set st.n (some (.cells c e false vec)),n:=st.n+1 }
def ptr(i:Nat):Value:=.pointer (some ⟨i,0,none⟩)
def qcz(P:Program)(t:TypeId)(f:Nat):Option (Nat × TypeId):=
 match P.underlying t with
 | some (.struct fs)=>match fs.toList[f]? with
  | some x=>some (x.offset,x.type)
  | none=>none
 | _=>none
def qY(v:Value)(len:Nat):Option Nat:=
 match v with
 | .int _ (.ofNat i)=>if i<len then some i else none
 | _=>none
def bndIn(v:Value)(y:Nat):Option Nat:=
 match v with
 | .int _ (.ofNat i)=>if i≤y then some i else none
 | _=>none
def addA(a:Addr)(k:Nat):Addr:=⟨a.block,a.off+k,none⟩
def aJ(P:Program)(t:TypeId)(x i:Value):Option Value:=
 match P.underlying t,x with
 | some (.array len e),.pointer (some a)=>match a.spot with
  | some _=>none
  | none=>match qY i len,szT P e with
   | some k,some s=>some (.pointer (some (addA a (k * s))))
   | _,_=>none
 | some (.slice e),.slice (some a) len _=>match a.spot with
  | some _=>none
  | none=>match qY i len,szT P e with
   | some k,some s=>some (.pointer (some (addA a (k * s))))
   | _,_=>none
 | _,_=>none
def EJ(P:Program)(t:TypeId)(x i:Value):Option Value:=
 match P.underlying t,x with
 | some (.array len e),.agg cs=>match qY i len,szT P e with
  | some k,some s=>Cy P e cs.toList (k * s)
  | _,_=>none
 | some .string,.string s=>match qY i s.size with
  | some k=>match s.data.toList[k]? with
   | some b=>some (.int .u8 b.toNat)
   | none=>none
  | none=>none
 | _,_=>none
def aw(P:Program)(t:TypeId)(x:Value)(f:Nat):Option Value:=
 match x with
 | .pointer (some a)=>match a.spot,qcz P t f with
  | none,some (off,ft)=>match szT P ft with
   | some s=>if s=0 then none else some (.pointer (some (addA a off)))
   | none=>none
  | _,_=>none
 | _=>none
def fieldV(P:Program)(t:TypeId)(x:Value)(f:Nat):Option Value:=
 match x with
 | .agg cs=>match qcz P t f with
  | some (off,ft)=>Cy P ft cs.toList off
  | none=>none
 | _=>none
def hiV(len m:Nat)(hi:Option Value):Option Nat:=match hi with | none=>some len | some v=>bndIn v m
def loV(r:Nat)(lo:Option Value):Option Nat:=match lo with | none=>some 0 | some v=>bndIn v r
def Pw(len:Nat)(m:Nat)(lo hi:Option Value):Option (Nat × Nat):=
 match hiV len m hi with
 | none=>none
 | some h=>match loV h lo with
  | none=>none
  | some l=>some (l,h)
def Kj(P:Program)(t:TypeId)(x:Value)(lo hi:Option Value):Option Value:=
 match P.underlying t,x with
 | some (.slice e),.slice (some a) len cap=>match a.spot,szT P e with
  | none,some s=>
   if cap<capV then
    if len≤cap then
     match Pw len cap lo hi with
     | some (l,h)=>some (.slice (some (if cap=l then a else addA a (l * s))) (h-l) (cap-l))
     | none=>none
    else none
   else
    match Pw len len lo hi with
    | some (l,h)=>
     if l=0 then(if cap=capV then(if h=0 then none else some (.slice (some a) h capV)) else if h=0 then none else some (.slice (some a) h capR))
     else if l<h then some (.slice (some (addA a (l * s))) (h-l) capR) else none
    | none=>none
  | _,_=>none
 | some (.array n e),.pointer (some a)=>match a.spot,szT P e with
  | none,some s=>match Pw n n lo hi with
   | some (l,h)=>if n<capV then some (.slice (some (if n=l then a else addA a (l * s))) (h-l) (n-l)) else none
   | none=>none
  | _,_=>none
 | _,_=>none
def lenV(P:Program)(t:TypeId)(x:Value):Option Value:=
 match P.underlying t,x with
 | some (.array n _),_=>some (goInt n)
 | some (.slice _),.slice _ n _=>some (goInt n)
 | some .string,.string s=>some (goInt s.size)
 | _,_=>none
def pX(H:Hp)(s:Nat):Value→Option (List Value × Nat)
 | .slice none n _=>if n=0 then some ([],0) else none
 | .slice (some a) n _=>match qX H a (n * s) with
  | some l=>some (l,n)
  | none=>match Nat.beq n 0 with
   | true=>some ([],0)
   | false=>none
 | _=>none
def jv(P:Program)(t:TypeId):Option TypeId:=
 match P.underlying t with
 | some (.slice e)=>some e
 | _=>none
def yV(need s b:Nat):Bool:=(need<1048576 || (1≤b && need * b≤140737488355328)) && s<1048576 && b<1048576
def Kq(need s b:Nat):Bool:=need<1048576 && s<1048576 && b<1048576
def TW(st:St)(H:Hp)(len s:Nat)(c:List Value)(e:TypeId):Value × St:=
 (.slice (some ⟨st.n,0,none⟩) len capV,vy { st with H:=H } c e (some s))
def tY(st:St)(e:TypeId)(s:Nat)(a:Addr)(len cap:Nat)(old new:List Value)(n:Nat):Option (Value × St):=
 match Nat.blt cap capV with
 | true=>match Nat.ble (len+n) cap with
  | true=>match storeN st.H (addA a (len * s)) new with
   | some H=>some (.slice (some a) (len+n) cap,{ st with H })
   | none=>none
  | false=>some (TW st st.H (len+n) s (old++new) e)
 | false=>match Nat.beq cap capV,st.H.get a.block with
  | true,some (.cells _ e' false (some s'))=>match Nat.beq e' e && Nat.beq s' s && new.all tj with
   | true=>some (TW st (st.H.set a.block none) (len+n) s (old++new) e)
   | false=>none
  | _,_=>none
def iz(P:Program)(st:St)(t t2:TypeId)(x y:Value):Option (Value × St):=
 match jv P t,jv P t2 with
 | some e,some _=>match szT P e,yQ P e,iJ P e with
  | some s,some b,some z=>match pX st.H s y,Nat.beq (aZ z).length s with
   | some (new,n),true=>match x with
    | .slice none 0 0=>match n with
     | 0=>some (.slice none 0 0,st)
     | n+1=>match yV (n+1) s b with
      | true=>some (TW st st.H (n+1) s new e)
      | false=>none
    | .slice (some a) len cap=>match qX st.H a (len * s),a.spot,yV (len+n) s b with
     | some old,none,true=>tY st e s a len cap old new n
     | _,_,_=>none
    | _=>none
   | _,_=>none
  | _,_,_=>none
 | _,_=>none
def TX(P:Program)(st:St)(t:TypeId)(x y:Value):Option (Value × St):=
 match jv P t with
 | some e=>match szT P e with
  | some s=>match x,y with
   | .slice (some a) dl _,.slice (some b) sl _=>match qX st.H b (Nat.min sl dl * s) with
    | some l=>match storeN st.H a l with
     | some H=>some (goInt (Nat.min sl dl),{ st with H })
     | none=>none
    | none=>none
   | _,_=>none
  | none=>none
 | none=>none
def Az(P:Program):List Field→Nat→Bool
 | [],_=>true
 | f :: l, i => match f.name != "_" && Nat.beq f.offset i, P.underlying f.type, fJ P f.type with
  | true,some (.int _),some false=>Az P l (i+1)
  | _,_,_=>false
def Iv(P:Program)(k:TypeId):Option Nat:=match P.underlying k with
 | some (.struct fs)=>match !P.stoodInHeld k && Az P fs.toList 0 with
  | true=>some fs.toList.length
  | false=>none
 | _=>none
def nW:List Value→List Value→Option Bool
 | [],[]=>some true
 | .int k a::l,.int k' b::l'=>match decide (k=k'),decide (a=b) with
  | true,true=>nW l l'
  | true,false=>some false
  | _,_=>none
 | _,_=>none
def aggEq(P:Program)(t:TypeId)(a b:Value):Option Bool:=match a,b with
 | .agg ⟨l⟩,.agg ⟨l'⟩=>match Iv P t with
  | some n=>match Nat.beq l.length n && !P.eqGuardType P.depth t with
   | true=>nW l l'
   | false=>none
  | none=>none
 | _,_=>none
def EQ(P:Program)(op:BinOp)(t:TypeId)(a b:Value):Option Value:=match op with
 | .eql=>match aggEq P t a b with
  | some r=>some (.bool r)
  | none=>none
 | .neq=>match aggEq P t a b with
  | some r=>some (.bool (!r))
  | none=>none
 | _=>none
def nilEq(P:Program)(t:TypeId)(x y:Value):Option Bool:=
 match P.underlying t,x,y with
 | some (.slice _),.slice none _ _,.slice b _ _=>some b.isNone
 | some (.slice _),.slice (some _) _ _,.slice none _ _=>some false
 | some (.pointer _),.pointer none,.pointer b=>some b.isNone
 | some (.pointer _),.pointer (some _),.pointer none=>some false
 | some (.func _ _ _),.nilFunc,.nilFunc=>some true
 | some (.func _ _ _),.nilFunc,.func _ _ _=>some false
 | some (.func _ _ _),.func _ _ _,.nilFunc=>some false
 | _,_,_=>none
def mQ(op:BinOp)(t:TypeId)(x y:Operand)(a b:Value):Sem Value:=do eqGuard op t x y a b; binOp op t a b
def mk64(n:Nat):Option Value:=match Nat.blt n 9223372036854775808 with
 | true=>some (.int .i64 (.ofNat n))
 | false=>none
def Sk(op:BinOp)(m n:Nat):Option Value:=match op with
 | .add=>mk64 (m+n)
 | .mul=>mk64 (m * n)
 | .sub=>match Nat.ble n m with
  | true=>mk64 (m-n)
  | false=>none
 | .eql=>some (.bool (Nat.beq m n))
 | .neq=>some (.bool (!Nat.beq m n))
 | .lss=>some (.bool (Nat.blt m n))
 | .leq=>some (.bool (Nat.ble m n))
 | .gtr=>some (.bool (Nat.blt n m))
 | .geq=>some (.bool (Nat.ble n m))
 | _=>none
def yW(op:BinOp)(a b:Value):Option Value:=match a with
 | .int .i64 (.ofNat m)=>match b with
  | .int .i64 (.ofNat n)=>Sk op m n
  | _=>none
 | _=>none
def Gy(P:Program)(op:BinOp)(t:TypeId)(x y:Operand)(a b:Value):Option Value:=
 match bw a && bw b with
 | true=>match EQ P op t a b with
  | some v=>some v
  | none=>match cY P (mQ op t x y a b) with
   | some v=>match bw v with
    | true=>some v
    | false=>none
   | none=>none
 | false=>match op with
  | .eql=>match nilEq P t a b with
   | some r=>some (.bool r)
   | none=>none
  | .neq=>match nilEq P t a b with
   | some r=>some (.bool (!r))
   | none=>none
  | _=>none
def binV(P:Program)(op:BinOp)(t:TypeId)(x y:Operand)(a b:Value):Option Value:=
 match yW op a b with
 | some v=>some v
 | none=>Gy P op t x y a b
def keep(v:Option Value)(st:St):Option (Value × St):=match v with | some v=>some (v,st) | none=>none
def oPick(c a b:Operand)(st:St):Option (Value × St):=match opd c st.T with
 | some (.bool true)=>keep (opd a st.T) st
 | some (.bool false)=>keep (opd b st.T) st
 | _=>none
def SJ(P:Program)(e:TypeId)(st:St):Option (Value × St):=match iJ P e with
 | some z=>some (ptr st.n,vy st (aZ z) e none)
 | none=>none
def oBox(e:TypeId)(x:Operand)(st:St):Option (Value × St):=match opd x st.T with
 | some v=>some (ptr st.n,vy st (aZ v) e none)
 | none=>none
def tZ(P:Program)(t:TypeId)(len:Nat)(parts:Array (Nat × Operand))(st:St):Option (Value × St):=
 match jv P t,Hy st.T parts.toList with
 | some e,some ps=>match szT P e,iJ P e with
  | some s,some z=>if len * s≤16777216∧(aZ z).length=s∧len<capV then
    match RW (fun i=>some (i * s,s)) (repl len (aZ z)) ps with
    | some c=>some (.slice (some ⟨st.n,0,none⟩) len len,vy st c e none)
    | none=>none
   else none
  | _,_=>none
 | _,_=>none
def oLoad(P:Program)(t:TypeId)(a:Operand)(st:St):Option (Value × St):=match opd a st.T with
 | some (.pointer (some a))=>keep (az P st.H t a) st
 | _=>none
def oStore(P:Program)(t:TypeId)(a x:Operand)(st:St):Option (Value × St):=match opd a st.T,opd x st.T with
 | some (.pointer (some a)),some v=>match szT P t with
  | some s=>if(aZ v).length=s then match storeN st.H a (aZ v) with
    | some H=>some (undef,{ st with H })
    | none=>none
   else none
  | none=>none
 | _,_=>none
def Iw(x:Operand)(st:St):Option (Value × St):=match opd x st.T with
 | some (.pointer (some a))=>some (.pointer (some a),st)
 | some (.func (.func f) a b)=>some (.func (.func f) a b,st)
 | _=>none
def oBin(P:Program)(op:BinOp)(t:TypeId)(x y:Operand)(st:St):Option (Value × St):=match opd x st.T,opd y st.T with
 | some a,some b=>keep (binV P op t x y a b) st
 | _,_=>none
def Gz(P:Program)(m:Sem Value)(st:St):Option (Value × St):=match cY P m with
 | some u=>match bw u with
  | true=>some (u,st)
  | false=>none
 | none=>none
def oUn(P:Program)(op:UnOp)(x:Operand)(st:St):Option (Value × St):=match opd x st.T with
 | some v=>match bw v with
  | true=>Gz P (Op.unary op v) st
  | false=>none
 | none=>none
def MQ(P:Program)(s d:TypeId)(x:Operand)(st:St):Option (Value × St):=match opd x st.T with
 | some v=>match bw v with
  | true=>Gz P (convert s d v) st
  | false=>none
 | none=>none
def Ix(fn:Fn)(first cap:Array Operand)(st:St):Option (Value × St):=match fn with
 | .func f=>match opds st.T first.toList,opds st.T cap.toList with
  | some a,some b=>some (.func (.func f) ⟨a⟩ ⟨b⟩,st)
  | _,_=>none
 | _=>none
def xj(P:Program)(t:TypeId)(l c:Operand)(st:St):Option (Value × St):=match jv P t,opd l st.T,opd c st.T with
 | some e,some (.int .i64 (.ofNat l)),some (.int .i64 (.ofNat c))=>match szT P e,yQ P e,iJ P e with
  | some s,some b,some z=>if l≤c∧Kq c s b∧(aZ z).length=s then
    some (.slice (some ⟨st.n,0,none⟩) l c,vy st (repl c (aZ z)) e none)
   else none
  | _,_,_=>none
 | _,_,_=>none
def opdO:Option Operand→Tm→Option (Option Value)
 | none,_=>some none
 | some x,T=>match opd x T with
  | some v=>some (some v)
  | none=>none
def ZK(H:Hp):Value→Option (List MapEntry)
 | .map none=>some []
 | .map (some r)=>match H.get r with
  | some (.map es _)=>some es
  | _=>none
 | _=>none
def TY(P:Program)(t:TypeId):Option (TypeId × TypeId):=match P.underlying t with
 | some (.map k e)=>some (k,e)
 | _=>none
def lookS(key elem:TypeId)(es:List MapEntry)(x:Value)(ok:Bool):Sem Value:=do
 Instr.checkKey (Array.isEmpty ⟨es⟩) 10000 key x
 match ← Instr.findKey key x es with
 | some (_,v)=>pure (if ok=true then .tuple #[v,.bool true] else v)
 | none=>do
  let z ← zeroValue elem
  pure (if ok=true then .tuple #[z,.bool false] else z)
def pureO(P:Program)(m:Sem Value):Option Value:=match cY P m with
 | some u=>match bw u with
  | true=>some u
  | false=>none
 | none=>none
def oq(x:List Value):List MapEntry→Nat→Option (Option (Nat × Value))
 | [],_=>some none
 | e::es,i=>match e.key with
  | .agg ⟨l⟩=>match nW x l with
   | some true=>some (some (i,e.val))
   | some false=>oq x es (i+1)
   | none=>none
  | _=>none
def Px(P:Program)(key:TypeId)(es:List MapEntry)(x:Value):Option (Option (Nat × Value)):=
 match x with
 | .agg ⟨l⟩=>match Iv P key with
  | some n=>match Nat.beq l.length n with
   | true=>oq l es 0
   | false=>none
  | none=>none
 | _=>none
def TZ(P:Program)(elem:TypeId)(ok:Bool):Option (Nat × Value)→Option Value
 | some (_,v)=>match bw v with
  | true=>some (if ok=true then .tuple #[v,.bool true] else v)
  | false=>none
 | none=>match iJ P elem with
  | some z=>some (if ok=true then .tuple #[z,.bool false] else z)
  | none=>none
def qcx(P:Program)(key elem:TypeId)(es:List MapEntry)(x:Value)(ok:Bool):Option Value:=
 match Px P key es x with
 | some r=>TZ P elem ok r
 | none=>pureO P (lookS key elem es x ok)
def lk(P:Program)(H:Hp)(t:TypeId)(m x:Value)(ok:Bool):Option Value:=
 match TY P t with
 | some (key,elem)=>match ZK H m,bw x with
  | some es,true=>qcx P key elem es x ok
  | _,_=>none
 | none=>none
def modE(es:List MapEntry)(i:Nat)(key val:Value):List MapEntry:=es.modify i fun e=>{ key:=key,val:=val,born:=e.born }
def updS(keyType:TypeId)(es:List MapEntry)(clock:Nat)(key value:Value):Sem (List MapEntry × Nat):=do
 Instr.checkKey false 10000 keyType key
 match ← Instr.findKey keyType key es with
 | some (i,_)=>do
  let key ← Instr.keyThatStays ((Option.map (fun x=>x.key) es[i]?).getD key) key
  pure (modE es i key value,clock)
 | none=>pure (es++[{ key:=key,val:=value,born:=clock }],clock+1)
def BZ(P:Program)(t:TypeId)(m x v:Value)(H:Hp):Option Hp:=
 match TY P t,m with
 | some (key,_),.map (some r)=>match H.get r with
  | some (.map es clock)=>match bw x && bw v with
   | true=>match cY P (updS key es clock x v) with
    | some (es',c')=>some (H.set r (some (.map es' c')))
    | none=>none
   | false=>none
  | _=>none
 | _,_=>none
def entS(keyType elem:TypeId)(es:List MapEntry)(clock:Nat)(key:Value):Sem (Value × List MapEntry × Nat):=do
 Instr.checkKey false 10000 keyType key
 match ← Instr.findKey keyType key es with
 | some (i,v)=>do
  let key ← Instr.keyThatStays ((Option.map (fun x=>x.key) es[i]?).getD key) key
  pure (.tuple #[v,goInt ((Option.map (fun x=>(x.born:Int)) es[i]?).getD 0)],es.modify i fun e=>{ key:=key,val:=e.val,born:=e.born },clock)
 | none=>do
  let z ← zeroValue elem
  pure (.tuple #[z,goInt clock],es++[{ key:=key,val:=z,born:=clock }],clock+1)
def Dk(P:Program)(t:TypeId)(m x:Value)(H:Hp):Option (Value × Hp):=
 match TY P t,m with
 | some (key,elem),.map (some r)=>match H.get r with
  | some (.map es clock)=>match bw x with
   | true=>match cY P (entS key elem es clock x) with
    | some (v,es',c')=>match bw v with
     | true=>some (v,H.set r (some (.map es' c')))
     | false=>none
    | none=>none
   | false=>none
  | _=>none
 | _,_=>none
def MV(m s v:Value)(H:Hp):Option Hp:=
 match m,s with
 | .map (some r),.int _ b=>match H.get r with
  | some (.map es clock)=>match bw v with
   | true=>match es.findIdx? (fun e=>(e.born:Int) == b) with
    | some i=>some (H.set r (some (.map (es.modify i fun e=>{ key:=e.key,val:=v,born:=e.born }) clock)))
    | none=>none
   | false=>none
  | _=>none
 | _,_=>none
def qhq(st:St):Option (Value × St):=some (.map (some st.n),{ st with H:=st.H.set st.n (some (.map [] 0)),n:=st.n+1 })
def qcj(P:Program)(t:TypeId)(m x:Operand)(ok:Bool)(st:St):Option (Value × St):=match opd m st.T,opd x st.T with
 | some m,some x=>keep (lk P st.H t m x ok) st
 | _,_=>none
def withH(o:Option Hp)(st:St):Option (Value × St):=match o with
 | some H=>some (undef,{ st with H })
 | none=>none
def qck(P:Program)(t:TypeId)(m x v:Operand)(st:St):Option (Value × St):=match opd m st.T,opd x st.T,opd v st.T with
 | some m,some x,some v=>withH (BZ P t m x v st.H) st
 | _,_,_=>none
def qcv(P:Program)(t:TypeId)(m x:Operand)(st:St):Option (Value × St):=match opd m st.T,opd x st.T with
 | some m,some x=>match Dk P t m x st.H with
  | some (v,H)=>some (v,{ st with H })
  | none=>none
 | _,_=>none
def oEntSt(m s v:Operand)(st:St):Option (Value × St):=match opd m st.T,opd s st.T,opd v st.T with
 | some m,some s,some v=>withH (MV m s v st.H) st
 | _,_,_=>none
def oSlice(P:Program)(t:TypeId)(x:Operand)(lo hi:Option Operand)(st:St):Option (Value × St):=match opd x st.T,opdO lo st.T,opdO hi st.T with
 | some v,some l,some h=>keep (Kj P t v l h) st
 | _,_,_=>none
def EV(P:Program)(t:TypeId)(x:Operand)(f:Nat)(st:St):Option (Value × St):=match opd x st.T with
 | some v=>keep (aw P t v f) st
 | none=>none
def oField(P:Program)(t:TypeId)(x:Operand)(f:Nat)(st:St):Option (Value × St):=match opd x st.T with
 | some v=>keep (fieldV P t v f) st
 | none=>none
def EW(P:Program)(t:TypeId)(x i:Operand)(st:St):Option (Value × St):=match opd x st.T,opd i st.T with
 | some v,some k=>keep (aJ P t v k) st
 | _,_=>none
def oIndex(P:Program)(t:TypeId)(x i:Operand)(st:St):Option (Value × St):=match opd x st.T,opd i st.T with
 | some v,some k=>keep (EJ P t v k) st
 | _,_=>none
def MW(t:Operand)(i:Nat)(st:St):Option (Value × St):=match opd t st.T with
 | some (.tuple vs)=>keep (vs.toList[i]?) st
 | _=>none
def oLen(P:Program)(c:Call)(st:St):Option (Value × St):=match c.args.toList,c.argTypes.toList with
 | [x],t::_=>match opd x st.T with
  | some v=>keep (lenV P t v) st
  | none=>none
 | _,_=>none
def qcw(P:Program)(c:Call)(st:St):Option (Value × St):=match c.args.toList,c.argTypes.toList with
 | [x,y],[t,t2]=>match opd x st.T,opd y st.T with
  | some v,some u=>iz P st t t2 v u
  | _,_=>none
 | _,_=>none
def oCopy(P:Program)(c:Call)(st:St):Option (Value × St):=match c.args.toList,c.argTypes.toList with
 | [x,y],t::_=>match opd x st.T,opd y st.T with
  | some v,some u=>TX P st t v u
  | _,_=>none
 | _,_=>none
def Py(P:Program)(b:Builtin)(c:Call)(type:TypeId)(st:St):Option (Value × St):=match opds st.T c.args.toList with
 | some vs=>match ck vs with
  | true=>match cY P (builtin b c.argTypes type (c.args.map fun | .const _=>true | _=>false) ⟨vs⟩) with
   | some (.value u)=>match bw u with
    | true=>some (u,st)
    | false=>none
   | _=>none
  | false=>none
 | none=>none
def vK(P:Program)(b:Builtin)(c:Call)(type:TypeId)(st:St):Option (Value × St):=match b with
 | .len=>oLen P c st
 | .append=>qcw P c st
 | .copy=>oCopy P c st
 | .min | .max=>Py P b c type st
 | _=>none
def oCall(P:Program)(c:Call)(type:TypeId)(st:St):Option (Value × St):=match c.callee with
 | .builtin b=>vK P b c type st
 | _=>none
def aOp(P:Program)(op:Op)(type:TypeId)(st:St):Option (Value × St):=
 match op with
 | .move x | .assign x=>keep (opd x st.T) st
 | .pick c a b=>oPick c a b st
 | .alloc e=>SJ P e st
 | .box e x=>oBox e x st
 | .build t parts=>keep (buildV P st.T t parts.toList) st
 | .buildSlice t len parts=>tZ P t len parts st
 | .load t a=>oLoad P t a st
 | .store t a x=>oStore P t a x st
 | .nilCheck x=>Iw x st
 | .binOp op t x y _=>oBin P op t x y st
 | .unOp op _ x=>oUn P op x st
 | .convert s d x=>MQ P s d x st
 | .makeFunc fn first cap=>Ix fn first cap st
 | .makeSlice t l c=>xj P t l c st
 | .slice t x lo hi none=>oSlice P t x lo hi st
 | .fieldAddr t x f=>EV P t x f st
 | .field t x f=>oField P t x f st
 | .indexAddr t x i=>EW P t x i st
 | .index t x i=>oIndex P t x i st
 | .extract t i=>MW t i st
 | .call c=>oCall P c type st
 | .makeMap _ none=>qhq st
 | .lookup t m x ok=>qcj P t m x ok st
 | .mapUpdate t m x v=>qck P t m x v st
 | .mapEntry t m x=>qcv P t m x st
 | .entryStore _ m s v=>oEntSt m s v st
 | _=>none
inductive Ex where
 | norm
 | exit (id:Nat)
 | ret
def putT(T:Tm)(dst:Option Tmp)(v:Value):Tm:=
 match dst with
 | some d=>T.set d (some v)
 | none=>T
def wQ(ops:List Oper)(g:Option (Nat × Bool))(T:Tm):Option Bool:=
 match g with
 | none=>some true
 | some (j,want)=>match ops[j]? with
  | some oj=>match oj.dst with
   | some d=>match T.get d with
    | some (.bool b)=>some (b == want)
    | some (.tuple ⟨[]⟩)=>some false
    | _=>none
   | none=>none
  | none=>none
def resV(P:Program)(T:Tm)(H:Hp):List ResultVar→Option (List Value)
 | []=>some []
 | r::l=>match (match r with
   | .tmp t=>T.get t
   | .cell a t=>match T.get a with
    | some (.pointer (some a))=>az P H t a
    | _=>none) with
  | none=>none
  | some v=>match resV P T H l with
   | none=>none
   | some vs=>some (v::vs)
def oneV:List Value→Value
 | [v]=>v
 | l=>.tuple ⟨l⟩
def Iy:Tm→Nat→List Value→Tm
 | T,_,[]=>T
 | T,i,v::l=>Iy (T.set i (some v)) (i+1) l
def wj(H:Hp):List Nat→Option Hp
 | []=>some H
 | i::l=>match H.get i with
  | some .deferred=>wj (H.set i none) l
  | _=>none
abbrev Rec:=Option Nat→FuncId→Code→St→Option (Ex × St)
def callB(P:Program)(rec:Rec)(f:FuncId)(args:List Value)(st:St):Option (Value × St):=
 match P.funcs[f]? with
 | none=>none
 | some fn=>match fn.body with
  | none=>none
  | some c => if fn.name == "runtime.NumGoroutine" || fn.ntmps < args.length then none else
   match rec none f c { T:=Iy .nil 0 args,H:=st.H,n:=st.n,D:=[] } with
   | some (.exit _,_)=>none
   | some (_,s)=>match wj s.H s.D with
    | none=>none
    | some H=>match resV P s.T H fn.results.toList with
     | none=>none
     | some vs=>some (oneV vs,{ st with H:=H,n:=s.n })
   | none=>none
def flatV:Value→Bool
 | .bool _ | .int _ _ | .string _=>true
 | .agg ⟨l⟩=>l.all fun | .bool _ | .int _ _ | .string _=>true | _=>false
 | _=>false
def flatTs(P:Program):List TypeId→Bool
 | []=>true
 | t::l=>match iJ P t with
  | some z=>match flatV z with
   | true=>flatTs P l
   | false=>false
  | none=>false
def iY(P:Program)(f:FuncId):Bool:=match P.funcs[f]? with
 | some fn=>flatTs P fn.resultTypes.toList
 | none=>false
def callF(P:Program)(rec:Rec)(f:FuncId)(args:List Value)(st:St):Option (Value × St):=
 match iY P f && ck args with
 | false=>callB P rec f args st
 | true=>match callB P rec f args { T:=.nil,H:=.nil,n:=0,D:=[] } with
  | some (v,_)=>match bw v with
   | true=>some (v,st)
   | false=>none
  | none=>none
def ntm(P:Program)(f:FuncId):Nat:=match P.funcs[f]? with | some fn=>fn.ntmps | none=>0
def Wy:Ex→Option (Option Code)
 | .norm=>some none
 | .exit id=>some (some (.exit id))
 | .ret=>some (some .ret)
def yX:Tm→Nat→List Tmp→List Value→Option Tm
 | T,_,[],[]=>some T
 | T,N,t::ts,v::vs=>if t<N then yX (T.set t (some v)) N ts vs else none
 | _,_,_,_=>none
def wV(H:Hp)(l:Nat)(s:LoopState)(pe:Option Code):Option Hp:=
 match H.get l with
 | some (.loop _ _ fn T N ps as bd d)=>some (H.set l (some (.loop s pe fn T N ps as bd d)))
 | _=>none
def Kv(H:Hp)(l:Nat):Bool:=
 match H.get l with
 | some (.loop .ready ..)=>true
 | _=>false
def yw(H:Hp)(l:Nat):Option Code:=
 match H.get l with
 | some (.loop _ pe ..)=>pe
 | _=>none
def Ak(rec:Rec)(P:Program)(l:Nat)(args:List Value)(st:St):Option (Value × St):=
 match st.H.get l with
 | some (.loop _ _ fn T N params assign body _)=>match Nat.beq N (ntm P fn),yX T N params.toList args with
  | true,some T'=>match rec (some l) fn assign { T:=T',H:=st.H,n:=st.n,D:=[] } with
   | some (.norm,s)=>match Kv s.H l,wV s.H l .busy (yw s.H l) with
    | true,some H1=>match rec (some l) fn body { s with H:=H1 } with
     | some (ex,s2)=>match Wy ex with
      | none=>none
      | some j=>match wV s2.H l (if j.isNone then .ready else .done) j with
       | some H2=>some (.bool j.isNone,{ st with H:=H2,n:=s2.n })
       | none=>none
     | none=>none
    | _,_=>none
   | _=>none
  | _,_=>none
 | _=>none
def callV(P:Program)(rec:Rec)(f:Value)(args:List Value)(st:St):Option (Value × St):=
 match f with
 | .func (.func g) first cap=>callF P rec g (first.toList++args++cap.toList) st
 | .func (.yield l) ⟨[]⟩ ⟨[]⟩=>Ak rec P l args st
 | _=>none
def cCall(P:Program)(rec:Rec)(c:Call)(type:TypeId)(st:St):Option (Value × St):=
 match c.callee with
 | .value f=>match opd f st.T,opds st.T c.args.toList with
  | some v,some args=>callV P rec v args st
  | _,_=>none
 | _=>oCall P c type st
def cOp(P:Program)(rec:Rec)(op:Op)(type:TypeId)(st:St):Option (Value × St):=
 match op with
 | .call c=>cCall P rec c type st
 | op=>aOp P op type st
def inN(N:Nat):Option Tmp→Bool
 | none=>true
 | some d=>Nat.blt d N
def evOp1(P:Program)(rec:Rec)(dst:Option Tmp)(op:Op)(type:TypeId)(st:St):Option St:=
 match cOp P rec op type st with
 | none=>none
 | some (v,s)=>some { s with T:=putT s.T dst v }
def evOp(P:Program)(rec:Rec)(N:Nat)(ops:List Oper)(o:Oper)(st:St):Option St:=
 match inN N o.dst with
 | false=>none
 | true=>match wQ ops o.guard st.T with
  | none=>none
  | some false=>some { st with T:=putT st.T o.dst undef }
  | some true=>evOp1 P rec o.dst o.op o.type st
def evOps(P:Program)(rec:Rec)(N:Nat)(ops:List Oper):List Oper→St→Option St
 | [],st=>some st
 | o::l,st=>match evOp P rec N ops o st with
  | none=>none
  | some s=>evOps P rec N ops l s
def seqE(r:Option (Ex × St))(k:St→Option (Ex × St)):Option (Ex × St):=
 match r with
 | some (.norm,s)=>k s
 | r=>r
def blockE(id:Nat)(r:Option (Ex × St)):Option (Ex × St):=
 match r with
 | some (.exit j,s)=>match Nat.beq j id with
  | true=>some (.norm,s)
  | false=>some (.exit j,s)
 | r=>r
def normE(r:Option St):Option (Ex × St):=
 match r with
 | some s=>some (.norm,s)
 | none=>none
def TK(ro:Option Nat)(st:St):Option (Nat × St):=
 match ro with
 | none=>some (st.n,{ st with H:=st.H.set st.n (some .deferred),n:=st.n+1,D:=st.n::st.D })
 | some l=>match st.H.get l with
  | some (.loop _ _ _ _ _ _ _ _ d)=>some (d,st)
  | _=>none
def yY(l:Nat)(s:St):Option (Ex × St):=
 match s.H.get l with
 | some (.loop .busy ..)=>none
 | some (.loop _ pe fn T N ps as bd d)=>
  let s:St:={ s with H:=s.H.set l (some (.loop .exhausted pe fn T N ps as bd d)) }
  match pe with
  | none=>some (.norm,s)
  | some (.exit id)=>some (.exit id,s)
  | some .ret=>some (.ret,s)
  | _=>none
 | _=>none
def rangeE(P:Program)(rec:Rec)(ro:Option Nat)(f:FuncId)(x:Operand)(params:Array Tmp)(assign body:Code)(st:St):Option (Ex × St):=
 match opd x st.T with
 | some (.func (.func g) first cap)=>match TK ro st with
  | none=>none
  | some (d,st)=>match callF P rec g (first.toList++(.func (.yield st.n) #[] #[])::cap.toList) { st with H:=st.H.set st.n (some (.loop .ready none f st.T (ntm P f) params assign body d)),n:=st.n+1 } with
   | none=>none
   | some (_,s)=>yY st.n s
 | _=>none
abbrev Draw:=FuncId→Nat→List Oper→St→Option St
end
end Go.Ev
section
namespace Go.Ev
open Go
abbrev Phi:=Nat→Option (Nat × Nat)
def Phi.le(φ ψ:Phi):Prop:=∀ i p,φ i=some p→ψ i=some p
theorem Phi.le_refl(φ:Phi):φ.le φ:=fun _ _ h=>h
theorem Phi.le_trans{φ ψ χ:Phi}(h:φ.le ψ)(k:ψ.le χ):φ.le χ:=fun i p e=>k i p (h i p e)
def AR(φ:Phi)(a a':Addr):Prop:=(∃ c,φ a.block=some (a'.block,c))∧a'.off=a.off∧a'.spot=a.spot
theorem AR.mono{φ ψ:Phi}(h:φ.le ψ){a a':Addr}:AR φ a a'→AR ψ a a':=fun⟨⟨c,e⟩,r⟩=>⟨⟨c,h _ _ e⟩,r⟩
def CR(φ:Phi)(a:Addr)(n c c':Nat):Prop:=
 (c<capV∧c'=c)∨(c=capV∧a.off=0∧a.spot=none∧n≤c'∧∃ b,φ a.block=some (b,c'))∨(c=capR∧n≤c')
theorem CR.mono{φ ψ:Phi}(h:φ.le ψ){a:Addr}{n c c':Nat}:CR φ a n c c'→CR ψ a n c c':=by
 rintro(e | ⟨e,f,g,i,b,j⟩ | e)
 ·exact .inl e
 ·exact .inr (.inl ⟨e,f,g,i,b,h _ _ j⟩)
 ·exact .inr (.inr e)
def FR(φ:Phi):Fn→Fn→Prop
 | .yield l,g=>∃ l' c,g=.yield l'∧φ l=some (l',c)
 | f,g=>g=f
theorem FR.mono{φ ψ:Phi}(h:φ.le ψ){f g:Fn}(k:FR φ f g):FR ψ f g:=by
 cases f <;> try exact k
 obtain⟨l',c,e,f⟩:=k
 exact⟨l',c,e,h _ _ f⟩
mutual
def VR(φ:Phi):Value→Value→Prop
 | .bool b,v'=>v'=.bool b
 | .int k n,v'=>v'=.int k n
 | .float k n,v'=>v'=.float k n
 | .complex k n m,v'=>v'=.complex k n m
 | .string s,v'=>v'=.string s
 | .pointer none,v'=>v'=.pointer none
 | .pointer (some a),v'=>∃ a',v'=.pointer (some a')∧AR φ a a'
 | .slice none n c,v'=>v'=.slice none n c
 | .slice (some a) n c,v'=>∃ a' c',v'=.slice (some a') n c'∧AR φ a a'∧CR φ a n c c'
 | .map none,v'=>v'=.map none
 | .map (some r),v'=>∃ r' c,v'=.map (some r')∧φ r=some (r',c)
 | .chan _,_=>False
 | .func f a b,v'=>∃ f' a' b',v'=.func f' a' b'∧FR φ f f'∧VRA φ a a'∧VRA φ b b'
 | .nilFunc,v'=>v'=.nilFunc
 | .iface t v,v'=>∃ u,v'=.iface t u∧VR φ v u
 | .nilIface,v'=>v'=.nilIface
 | .agg c,v'=>∃ c',v'=.agg c'∧VRA φ c c'
 | .tuple c,v'=>∃ c',v'=.tuple c'∧VRA φ c c'
def VRA(φ:Phi):Array Value→Array Value→Prop
 | ⟨l⟩,a=>VRL φ l a.toList
def VRL(φ:Phi):List Value→List Value→Prop
 | [],l'=>l'=[]
 | v::l,l'=>∃ v' r',l'=v'::r'∧VR φ v v'∧VRL φ l r'
end
mutual
theorem VR.mono{φ ψ:Phi}(h:φ.le ψ):∀ {v v':Value},VR φ v v'→VR ψ v v'
 | .bool _,_,k | .int _ _,_,k | .float _ _,_,k | .complex _ _ _,_,k | .string _,_,k | .pointer none,_,k
 | .slice none _ _,_,k | .map none,_,k | .nilFunc,_,k | .nilIface,_,k=>by simpa only [VR] using k
 | .chan _,_,k=>by simp only[VR] at k
 | .pointer (some a),v',k=>by
  simp only[VR] at *
  obtain⟨a',e,r⟩:=k
  exact⟨a',e,r.mono h⟩
 | .slice (some a) n c,v',k=>by
  simp only[VR] at *
  obtain⟨a',c',e,r,s⟩:=k
  exact⟨a',c',e,r.mono h,s.mono h⟩
 | .map (some r),v',k=>by
  simp only[VR] at *
  obtain⟨r',c,e,f⟩:=k
  exact⟨r',c,e,h _ _ f⟩
 | .func f a b,v',k=>by
  simp only[VR] at *
  obtain⟨f',a',b',e,x,y,z⟩:=k
  exact⟨f',a',b',e,x.mono h,VRA.mono h y,VRA.mono h z⟩
 | .iface t v,v',k=>by
  simp only[VR] at *
  obtain⟨u,e,x⟩:=k
  exact⟨u,e,VR.mono h x⟩
 | .agg c,v',k=>by
  simp only[VR] at *
  obtain⟨u,e,x⟩:=k
  exact⟨u,e,VRA.mono h x⟩
 | .tuple c,v',k=>by
  simp only[VR] at *
  obtain⟨u,e,x⟩:=k
  exact⟨u,e,VRA.mono h x⟩
theorem VRA.mono{φ ψ:Phi}(h:φ.le ψ):∀ {a a':Array Value},VRA φ a a'→VRA ψ a a'
 | ⟨l⟩,a',k=>by
  simp only[VRA] at *
  exact VRL.mono h k
theorem VRL.mono{φ ψ:Phi}(h:φ.le ψ):∀ {l l':List Value},VRL φ l l'→VRL ψ l l'
 | [],_,k=>by simpa only [VRL] using k
 | v::l,l',k=>by
  simp only[VRL] at *
  obtain⟨v',r',e,x,y⟩:=k
  exact⟨v',r',e,VR.mono h x,VRL.mono h y⟩
end
mutual
theorem bw.eq{φ:Phi}:∀ {v v':Value},bw v=true→VR φ v v'→v'=v
 | .bool _,_,_,k | .int _ _,_,_,k | .float _ _,_,_,k | .complex _ _ _,_,_,k | .string _,_,_,k | .pointer none,_,_,k
 | .slice none _ _,_,_,k | .map none,_,_,k | .nilFunc,_,_,k | .nilIface,_,_,k=>by simpa only [VR] using k
 | .chan _,_,_,k=>by simp only[VR] at k
 | .pointer (some a),v',p,k=>by simp [bw] at p
 | .slice (some a) n c,v',p,k=>by simp [bw] at p
 | .map (some r),v',p,k=>by simp [bw] at p
 | .func f a b,v',p,k=>by
  simp only[VR] at k
  obtain⟨f',a',b',rfl,x,y,z⟩:=k
  simp only[bw,Bool.and_eq_true] at p
  rw[ox.eq p.1.2 y,ox.eq p.2 z]
  cases f <;> simp_all [FR]
 | .iface t v,v',p,k=>by
  simp only[VR] at k
  obtain⟨u,rfl,x⟩:=k
  rw[bw.eq (by simpa only [bw] using p) x]
 | .agg c,v',p,k=>by
  simp only[VR] at k
  obtain⟨u,rfl,x⟩:=k
  rw[ox.eq (by simpa only [bw] using p) x]
 | .tuple c,v',p,k=>by
  simp only[VR] at k
  obtain⟨u,rfl,x⟩:=k
  rw[ox.eq (by simpa only [bw] using p) x]
theorem ox.eq{φ:Phi}:∀ {v v':Array Value},ox v=true→VRA φ v v'→v'=v
 | ⟨l⟩,⟨l'⟩,p,k=>by
  simp only[VRA] at k
  rw[show l'=l from ck.eq (by simpa only [ox] using p) k]
theorem ck.eq{φ:Phi}:∀ {v v':List Value},ck v=true→VRL φ v v'→v'=v
 | [],_,_,k=>by simpa only [VRL] using k
 | v::l,l',p,k=>by
  simp only[VRL] at k
  obtain⟨v',r',rfl,x,y⟩:=k
  simp only[ck,Bool.and_eq_true] at p
  rw[bw.eq p.1 x,ck.eq p.2 y]
end
mutual
theorem bw.refl{φ:Phi}:∀ {v:Value},bw v=true→VR φ v v
 | .bool _,_ | .int _ _,_ | .float _ _,_ | .complex _ _ _,_ | .string _,_ | .pointer none,_
 | .slice none _ _,_ | .map none,_ | .nilFunc,_ | .nilIface,_=>by simp only[VR]
 | .chan _,p=>by simp [bw] at p
 | .pointer (some a),p=>by simp [bw] at p
 | .slice (some a) n c,p=>by simp [bw] at p
 | .map (some r),p=>by simp [bw] at p
 | .func f a b,p=>by
  simp only[bw,Bool.and_eq_true] at p
  simp only[VR]
  refine⟨f,a,b,rfl,?_,ox.refl p.1.2,ox.refl p.2⟩
  cases f <;> simp_all [FR]
 | .iface t v,p=>by
  simp only[VR]
  exact⟨v,rfl,bw.refl (by simpa only [bw] using p)⟩
 | .agg c,p=>by
  simp only[VR]
  exact⟨c,rfl,ox.refl (by simpa only [bw] using p)⟩
 | .tuple c,p=>by
  simp only[VR]
  exact⟨c,rfl,ox.refl (by simpa only [bw] using p)⟩
theorem ox.refl{φ:Phi}:∀ {v:Array Value},ox v=true→VRA φ v v
 | ⟨l⟩,p=>by
  simp only[VRA]
  exact ck.refl (by simpa only [ox] using p)
theorem ck.refl{φ:Phi}:∀ {v:List Value},ck v=true→VRL φ v v
 | [],_=>by simp only[VRL]
 | v::l,p=>by
  simp only[ck,Bool.and_eq_true] at p
  simp only[VRL]
  exact⟨v,l,rfl,bw.refl p.1,ck.refl p.2⟩
end
theorem VRL.length{φ:Phi}:∀ {l l':List Value},VRL φ l l'→l'.length=l.length
 | [],_,k=>by simp only[VRL] at k; simp [k]
 | v::l,l',k=>by
  simp only[VRL] at k
  obtain⟨v',r',rfl,x,y⟩:=k
  simp [VRL.length y]
theorem VRL.get{φ:Phi}:∀ {l l':List Value},VRL φ l l'→∀ {i:Nat} {v:Value},l[i]?=some v→∃ v',l'[i]?=some v'∧VR φ v v'
 | [],_,k,i,v,h=>by simp at h
 | v::l,l',k,i,u,h=>by
  simp only[VRL] at k
  obtain⟨v',r',rfl,x,y⟩:=k
  cases i with
  | zero=>simp at h; subst h; exact⟨v',by simp,x⟩
  | succ i=>simp at h; simpa using y.get h
theorem VRL.append{φ:Phi}:∀ {l l' m m':List Value},VRL φ l l'→VRL φ m m'→VRL φ (l++m) (l'++m')
 | [],_,m,m',k,j=>by simp only[VRL] at k; simpa [k] using j
 | v::l,l',m,m',k,j=>by
  simp only[VRL] at k
  obtain⟨v',r',rfl,x,y⟩:=k
  simp only[List.cons_append,VRL]
  exact⟨v',r'++m',rfl,x,y.append j⟩
theorem VRL.drop{φ:Phi}:∀(n:Nat) {l l':List Value},VRL φ l l'→VRL φ (l.drop n) (l'.drop n)
 | 0,_,_,k=>by simpa using k
 | n+1,[],_,k=>by simp only[VRL] at k; simp [k,VRL]
 | n+1,v::l,l',k=>by
  simp only[VRL] at k
  obtain⟨v',r',rfl,x,y⟩:=k
  simpa using y.drop n
theorem VRL.take{φ:Phi}:∀(n:Nat) {l l':List Value},VRL φ l l'→VRL φ (l.take n) (l'.take n)
 | 0,_,_,_=>by simp [VRL]
 | n+1,[],_,k=>by simp only[VRL] at k; simp [k,VRL]
 | n+1,v::l,l',k=>by
  simp only[VRL] at k
  obtain⟨v',r',rfl,x,y⟩:=k
  simp only[List.take_succ_cons,VRL]
  exact⟨v',_,rfl,x,y.take n⟩
theorem VRL.nil{φ:Phi}:VRL φ [] []:=by simp only[VRL]
theorem VRL.cons{φ:Phi}{v v':Value}{l l':List Value}(h:VR φ v v')(k:VRL φ l l'):VRL φ (v::l) (v'::l'):=by
 simp only[VRL]; exact⟨v',l',rfl,h,k⟩
theorem VRL.of_get{φ:Phi}:∀ {l l':List Value},l'.length=l.length→(∀(j:Nat) v,l[j]?=some v→∃ v',l'[j]?=some v'∧VR φ v v')→VRL φ l l'
 | [],[],_,_=>VRL.nil
 | [],_::_,h,_=>by simp at h
 | _::_,[],h,_=>by simp at h
 | v::l,v'::l',h,k=>by
  obtain⟨u,a,b⟩:=k 0 v (by simp)
  simp at a; subst a
  exact VRL.cons b (VRL.of_get (by simpa using h) fun j w e=>by simpa using k (j+1) w (by simpa using e))
def Pre(φ:Phi)(l l':List Value):Prop:=VRL φ l (l'.take l.length)
theorem Pre.mono{φ ψ:Phi}(h:φ.le ψ){l l':List Value}(k:Pre φ l l'):Pre ψ l l':=VRL.mono h k
theorem Pre.le{φ:Phi}{l l':List Value}(k:Pre φ l l'):l.length≤l'.length:=by
 have:=VRL.length k; simp at this; omega
theorem Pre.of{φ:Phi}{l l':List Value}(k:VRL φ l l'):Pre φ l l':=by
 unfold Pre; rw[List.take_of_length_le (by rw[k.length]; exact Nat.le_refl _)]; exact k
end Go.Ev
end
section
namespace Go.Ev
open Go
def spl(l:List Value)(k:Nat)(vs:List Value):List Value:=l.take k++vs++l.drop (k+vs.length)
theorem over_eq:∀(l vs r:List Value),ij.over l vs=some r→r=vs++l.drop vs.length∧vs.length≤l.length
 | l,[],r,h=>by simp [ij.over] at h; simp [h]
 | [],v::vs,r,h=>by simp [ij.over] at h
 | x::l,v::vs,r,h=>by
  simp only[ij.over] at h
  split at h
  ·simp at h
  ·rename_i q hq
   simp at h; subst h
   obtain⟨e,f⟩:=over_eq l vs q hq
   simp [e]; exact f
theorem Wz:∀(k:Nat) (l vs r:List Value),ij l k vs=some r→r=spl l k vs∧k+vs.length≤l.length
 | 0,l,vs,r,h=>by
  simp only[ij] at h
  obtain⟨e,f⟩:=over_eq l vs r h
  simp [spl,e]; exact f
 | k+1,[],vs,r,h=>by simp [ij] at h
 | k+1,x::l,vs,r,h=>by
  simp only[ij] at h
  split at h
  ·simp at h
  ·rename_i q hq
   simp at h; subst h
   obtain⟨e,f⟩:=Wz k l vs q hq
   subst e
   constructor
   ·simp [spl,Nat.add_right_comm k 1]
   ·simp; omega
theorem spl_length(l:List Value)(k:Nat)(vs:List Value)(h:k+vs.length≤l.length):(spl l k vs).length=l.length:=by
 simp [spl]; omega
theorem Pre.spl{φ:Phi}{l l' vs vs':List Value}{k:Nat}(h:Pre φ l l')(g:VRL φ vs vs')(hk:k+vs.length≤l.length) :
  Pre φ (spl l k vs) (spl l' k vs'):=by
 have hl:=g.length
 have hle:=h.le
 unfold Pre at *
 rw[spl_length _ _ _ hk]
 have e:(Ev.spl l' k vs').take l.length=Ev.spl (l'.take l.length) k vs':=by
  have m1:min l.length k=k:=by omega
  have m2:min k l'.length=k:=by omega
  have m3:min k l.length=k:=by omega
  have t:vs'.take (l.length-k)=vs':=List.take_of_length_le (by omega)
  simp only[Ev.spl,List.take_append,List.take_take,List.drop_take,List.length_append,List.length_take,hl,m1,m2,m3,t]
 rw[e]
 unfold Ev.spl
 have h1:=(h.take k).append g
 have h2:=h1.append (h.drop (k+vs.length))
 rw[← hl] at h2
 simpa [hl] using h2
def TR(φ:Phi)(T:Tm)(t:Array Value):Prop:=∀ i v,T.get i=some v→∃ v',t[i]?=some v'∧VR φ v v'
theorem TR.mono{φ ψ:Phi}(h:φ.le ψ){T:Tm}{t:Array Value}(k:TR φ T t):TR ψ T t:=
 fun i v e=>let ⟨v',a,b⟩:=k i v e; ⟨v',a,b.mono h⟩
def BR(φ:Phi):Blk→Obj→Nat→Prop
 | .cells c e ro vec,o,cp=>∃ arr fr,o=.cells arr e fr∧(ro=false→fr=(0,0))∧Pre φ c arr.toList∧(∀ s,vec=some s→arr.size=cp * s)
 | .loop st pe fn T N ps as bd d,o,_=>∃ r,o=.loop r∧r.state=st∧r.pending=pe∧r.fn=fn∧r.tmps.size=N∧TR φ T r.tmps∧r.params=ps∧r.assign=as∧r.body=bd∧∃ c,φ d=some (r.defers,c)
 | .deferred,o,_=>o=.deferred (some [])
 | .map es c,o,_=>o=.map ⟨es⟩ c
 | .rows c,o,_=>∃ arr e fr,o=.cells arr e fr∧∀(j:Nat) v,c[j]?=some v→lJ v=true→∃ v',arr[j]?=some v'∧VR φ v v'
theorem BR.mono{φ ψ:Phi}(h:φ.le ψ){b:Blk}{o:Obj}{c:Nat}(k:BR φ b o c):BR ψ b o c:=by
 cases b with
 | cells c e ro vec=>
  obtain⟨arr,fr,a,b,c,d⟩:=k
  exact⟨arr,fr,a,b,c.mono h,d⟩
 | loop st pe fn T N ps as bd d=>
  obtain⟨r,a,b,c,d,e,f,g,i,j,u,v⟩:=k
  exact⟨r,a,b,c,d,e,f.mono h,g,i,j,u,h _ _ v⟩
 | deferred=>exact k
 | map es c=>exact k
 | rows c=>
  obtain⟨arr,e,fr,x,y⟩:=k
  exact⟨arr,e,fr,x,fun j v a b=>let ⟨v',p,q⟩:=y j v a b; ⟨v',p,q.mono h⟩⟩
def Blk.ro:Blk→Bool
 | .cells _ _ r _=>r
 | .rows _=>true
 | _=>false
structure Sets where
 w:Nat→Prop
 r:Nat→Prop
def frOb:Option Obj→Nat × Nat
 | some (.cells _ _ fr)=>fr
 | _=>(0,0)
theorem BR.fr{φ:Phi}{b:Blk}{o:Obj}{c:Nat}(h:BR φ b o c)(hr:b.ro=false):frOb (some o)=(0,0):=by
 cases b with
 | cells l e ro vec=>
  obtain⟨arr,fr,rfl,g,_⟩:=h
  exact g hr
 | loop st pe fn T N ps as bd d=>
  obtain⟨r,rfl,_⟩:=h
  rfl
 | deferred=>simp only[BR] at h; subst h; rfl
 | map es c=>simp only[BR] at h; subst h; rfl
 | rows c=>cases hr
structure I (w₀:World) (W:Sets) (φ:Phi) (H:Hp) (n:Nat) (w:World):Prop where
 dom:∀ i p,φ i=some p→i<n
 rel:∀ i b,H.get i=some b→∃ p o,φ i=some p∧w.heap[p.1]?=some o∧BR φ b o p.2
 inj:∀ i j b c p q,H.get i=some b→H.get j=some c→φ i=some p→φ j=some q→p.1=q.1→i=j
 keep:∀ b,b<w₀.heap.size→¬ W.w b→w.heap[b]?=w₀.heap[b]?
 size:w₀.heap.size≤w.heap.size
 wr:∀ i b p,H.get i=some b→b.ro=false→φ i=some p→W.w p.1∨w₀.heap.size≤p.1
 src:∀ i b p,H.get i=some b→φ i=some p→W.r p.1∨w₀.heap.size≤p.1
 os:w.os=w₀.os
 tape:w.tape=w₀.tape
 output:w.output=w₀.output
 fz:∀ b:Nat,frOb w.heap[b]?=frOb w₀.heap[b]?
variable {w₀:World} {W:Sets} {φ:Phi} {H:Hp} {n:Nat} {w:World}
theorem I.lt(h:I w₀ W φ H n w){i:Nat}{b:Blk}{p:Nat × Nat}(hi:H.get i=some b)(hp:φ i=some p):p.1<w.heap.size:=by
 obtain⟨q,o,f,g,_⟩:=h.rel i b hi
 rw[hp] at f; cases f
 exact(Array.getElem?_eq_some_iff.1 g).1
theorem I.drew(h:I w₀ W φ H n w)(k:Nat):I w₀ W φ H n { w with drawn:=k }:=
 ⟨h.dom,h.rel,h.inj,h.keep,h.size,h.wr,h.src,h.os,h.tape,h.output,h.fz⟩
structure Ext (φ:Phi) (n:Nat) (ψ:Phi) (m:Nat):Prop where
 le:φ.le ψ
 new:∀ i p,ψ i=some p→φ i=some p∨n≤i
 n:n≤m
theorem Ext.refl(φ:Phi)(n:Nat):Ext φ n φ n:=⟨Phi.le_refl _,fun _ _ h=>.inl h,Nat.le_refl _⟩
theorem Ext.trans{φ ψ χ:Phi}{n m k:Nat}(h:Ext φ n ψ m)(g:Ext ψ m χ k):Ext φ n χ k:=
 ⟨Phi.le_trans h.le g.le,fun i p e=>by
  rcases g.new i p e with x | x
  ·exact h.new i p x
  ·exact .inr (Nat.le_trans h.n x),Nat.le_trans h.n g.n⟩
def ext(φ:Phi)(n:Nat)(p:Nat × Nat):Phi:=fun i=>if i=n then some p else φ i
theorem SQ{p:Nat × Nat}(h:φ n=none):φ.le (ext φ n p):=by
 intro i q e
 unfold ext
 split
 ·rename_i x; subst x; rw[h] at e; cases e
 ·exact e
theorem gj(φ:Phi)(n:Nat)(p:Nat × Nat):ext φ n p n=some p:=by simp [ext]
theorem I.free(h:I w₀ W φ H n w):φ n=none:=by
 cases e:φ n with
 | none=>rfl
 | some p=>have:=h.dom n p e; omega
theorem I.ext_push(h:I w₀ W φ H n w)(p:Nat × Nat):Ext φ n (ext φ n p) (n+1):=
 ⟨SQ h.free,fun i q e=>by
  unfold ext at e
  split at e
  ·exact .inr (by omega)
  ·exact .inl e,Nat.le_succ n⟩
theorem I.kill(h:I w₀ W φ H n w)(k:Nat):I w₀ W φ (H.set k none) n w:=by
 have g:∀ i b,(H.set k none).get i=some b→H.get i=some b:=by
  intro i b e
  rw[Tr.get_set] at e
  split at e
  ·cases e
  ·exact e
 exact⟨h.dom,fun i b e=>h.rel i b (g i b e),fun i j b c p q e f=>h.inj i j b c p q (g i b e) (g j c f),h.keep,h.size,fun i b p e=>h.wr i b p (g i b e),fun i b p e=>h.src i b p (g i b e),h.os,h.tape,h.output,h.fz⟩
theorem frOb_push(h:I w₀ W φ H n w){o:Obj}(ho:frOb (some o)=(0,0))(b:Nat):frOb (w.heap.push o)[b]?=frOb w₀.heap[b]?:=by
 rw[← h.fz b,Array.getElem?_push]
 split
 ·rename_i q; rw[q,ho,Array.getElem?_eq_none (Nat.le_refl _)]; rfl
 ·rfl
theorem frOb_set(h:I w₀ W φ H n w){o o':Obj}{i:Nat}(hi:w.heap[i]?=some o)(ho:frOb (some o)=(0,0))(ho':frOb (some o')=(0,0))(b:Nat) :
  frOb (w.heap.setIfInBounds i o')[b]?=frOb w₀.heap[b]?:=by
 rw[← h.fz b,Array.getElem?_setIfInBounds]
 split
 ·rename_i q
  subst q
  rw[hi,ho]
  split
  ·exact ho'
  ·rfl
 ·rfl
theorem I.push(h:I w₀ W φ H n w){b:Blk}{o:Obj}{cp:Nat}(hb:BR φ b o cp)(hro:b.ro=false:=by rfl) :
  I w₀ W (ext φ n (w.heap.size,cp)) (H.set n (some b)) (n+1) { w with heap:=w.heap.push o }:=by
 have hle:=SQ (p:=(w.heap.size,cp)) h.free
 refine⟨?_,?_,?_,?_,?_,?_,?_,h.os,h.tape,h.output,frOb_push h (hb.fr hro)⟩
 ·intro i p e
  unfold ext at e
  split at e
  ·rename_i x; subst x; cases e; omega
  ·have:=h.dom i p e; omega
 ·intro i c e
  rw[Tr.get_set] at e
  split at e
  ·rename_i x; subst x; cases e
   exact⟨_,o,gj _ _ _,by simp,hb.mono hle⟩
  ·obtain⟨p,o',f,g,k⟩:=h.rel i c e
   refine⟨p,o',hle _ _ f,?_,k.mono hle⟩
   have:=h.lt e f
   show(w.heap.push o)[p.1]?=_
   rw[Array.getElem?_push,if_neg (by omega)]; exact g
 ·intro i j c d p q e f g k x
  rw[Tr.get_set] at e f
  have new:∀ i c p,H.get i=some c→ext φ n (w.heap.size,cp) i=some p→i≠n→p.1<w.heap.size:=by
   intro i c p e g ne
   unfold ext at g; rw[if_neg ne] at g; exact h.lt e g
  split at e <;> split at f
  ·rename_i a b; rw[a,b]
  ·rename_i a b
   subst a; rw[gj] at g; cases g
   have:=new j d q f k b; simp at x; omega
  ·rename_i a b
   subst b; rw[gj] at k; cases k
   have:=new i c p e g a; simp at x; omega
  ·rename_i a b
   unfold ext at g k
   rw[if_neg a] at g; rw[if_neg b] at k
   exact h.inj i j c d p q e f g k x
 ·intro b hb nb
  show(w.heap.push o)[b]?=_
  rw[Array.getElem?_push,if_neg (by have:=h.size; omega)]; exact h.keep b hb nb
 ·have:=h.size; simp; omega
 ·intro i c p e r g
  rw[Tr.get_set] at e
  split at e
  ·rename_i x; subst x; rw[gj] at g; cases g
   exact .inr h.size
  ·rename_i x
   unfold ext at g; rw[if_neg x] at g
   exact h.wr i c p e r g
 ·intro i c p e g
  rw[Tr.get_set] at e
  split at e
  ·rename_i x; subst x; rw[gj] at g; cases g
   exact .inr h.size
  ·rename_i x
   unfold ext at g; rw[if_neg x] at g
   exact h.src i c p e g
theorem I.put(h:I w₀ W φ H n w){i:Nat}{b b':Blk}{o':Obj}{p:Nat × Nat}(hi:H.get i=some b)(hp:φ i=some p)(hr:b.ro=false)
  (hb:BR φ b' o' p.2) (hro:b'.ro=false:=by rfl):I w₀ W φ (H.set i (some b')) n { w with heap:=w.heap.setIfInBounds p.1 o' }:=by
 have hlt:=h.lt hi hp
 have hold:∃ o,w.heap[p.1]?=some o∧frOb (some o)=(0,0):=by
  obtain⟨q,o,f,g,k⟩:=h.rel i b hi
  rw[hp] at f; cases f
  exact⟨o,g,k.fr hr⟩
 obtain⟨o0,hold1,hold2⟩:=hold
 refine⟨?_,?_,?_,?_,?_,?_,?_,h.os,h.tape,h.output,frOb_set h hold1 hold2 (hb.fr hro)⟩
 ·intro j q e; exact h.dom j q e
 ·intro j c e
  rw[Tr.get_set] at e
  split at e
  ·rename_i x; subst x; cases e
   exact⟨p,o',hp,by simp [hlt],hb⟩
  ·rename_i x
   obtain⟨q,o,f,g,k⟩:=h.rel j c e
   refine⟨q,o,f,?_,k⟩
   have ne:p.1≠q.1:=fun y=>x (h.inj i j b c p q hi e hp f y).symm
   show(w.heap.setIfInBounds p.1 o')[q.1]?=_
   rw[Array.getElem?_setIfInBounds_ne ne]; exact g
 ·intro j k c d q r e f
  have g:∀ j c,(H.set i (some b')).get j=some c→∃ c,H.get j=some c:=by
   intro j c e
   rw[Tr.get_set] at e
   split at e
   ·rename_i x; subst x; exact⟨b,hi⟩
   ·exact⟨c,e⟩
  obtain⟨c',e'⟩:=g j c e
  obtain⟨d',f'⟩:=g k d f
  exact h.inj j k c' d' q r e' f'
 ·intro c hc nc
  have ne:p.1≠c:=by
   intro y; subst y
   rcases h.wr i b p hi hr hp with a | a
   ·exact nc a
   ·omega
  show(w.heap.setIfInBounds p.1 o')[c]?=_
  rw[Array.getElem?_setIfInBounds_ne ne]; exact h.keep c hc nc
 ·simpa using h.size
 ·intro j c q e r g
  rw[Tr.get_set] at e
  split at e
  ·rename_i x; subst x; exact h.wr j b q hi hr g
  ·exact h.wr j c q e r g
 ·intro j c q e g
  rw[Tr.get_set] at e
  split at e
  ·rename_i x; subst x; exact h.src j b q hi g
  ·exact h.src j c q e g
end Go.Ev
end
section
namespace Go.Ev
open Go
variable {P:Program} {w₀:World} {W:Sets} {φ:Phi} {st st':St} {w:World} {a:Act}
theorem dz{x:Operand}{T:Tm}{v:Value}(ht:TR φ T a.tmps)(e:opd x T=some v):VR φ v (a.eval x):=by
 cases x with
 | tmp t=>
  obtain⟨v',f,g⟩:=ht t v e
  simp only[Act.eval,Array.getD_eq_getD_getElem?,f]; exact g
 | const c=>
  simp only[opd] at e
  split at e
  ·rename_i p; cases e; exact bw.refl p
  ·cases e
 | func f=>simp only[opd] at e; cases e; simp only[VR,Act.eval]; exact⟨_,_,_,rfl,rfl,VRL.nil (φ:=φ),VRL.nil (φ:=φ)⟩
 | global g=>simp [opd] at e
theorem Pz{T:Tm}(ht:TR φ T a.tmps):∀ {l:List Operand} {vs:List Value},opds T l=some vs→VRL φ vs (l.map a.eval)
 | [],vs,e=>by simp [opds] at e; subst e; exact VRL.nil
 | x::l,vs,e=>by
  simp only[opds] at e
  split at e
  ·cases e
  ·rename_i v hv
   split at e
   ·cases e
   ·rename_i us hu
    cases e
    exact VRL.cons (dz ht hv) (Pz ht hu)
def Done(P:Program)(m:Sem Next)(w₀:World)(W:Sets)(φ:Phi)(w:World)(st:St)(v:Value)(st':St):Prop:=
 ∃ φ' v' w',(m.run P w=.ok (.value v') w'∨(m.run P w=.ok .skip w'∧v'=undef))∧Ext φ st.n φ' st'.n∧I w₀ W φ' st'.H st'.n w'∧VR φ' v v'∧st'.T=st.T∧st'.D=st.D
theorem Done.same{m:Sem Next}{v v':Value}(h:I w₀ W φ st.H st.n w)(hm:m.run P w=.ok (.value v') w)(hv:VR φ v v'):Done P m w₀ W φ w st v st:=
 ⟨φ,v',w,.inl hm,Ext.refl _ _,h,hv,rfl,rfl⟩
theorem Iz{o:Option Value}{v:Value}(e:keep o st=some (v,st')):o=some v∧st'=st:=by
 cases o with
 | none=>simp [keep] at e
 | some u=>simp [keep] at e; exact⟨by rw[e.1],e.2.symm⟩
theorem jQ(v:Value):aZ v=v.cells.toList:=by cases v <;> rfl
theorem VR.cells{v v':Value}(h:VR φ v v'):VRL φ (aZ v) (aZ v'):=by
 have one:∀ {v v':Value},VR φ v v'→VRL φ [v] [v']:=fun h=>VRL.cons h VRL.nil
 cases v with
 | agg c=>simp only[VR] at h; obtain⟨c',rfl,r⟩:=h; cases c; simpa only [VRA,aZ] using r
 | pointer a=>cases a <;> (have k:=h; simp only[VR] at k) <;> first | (subst k; exact one h) | (obtain⟨a',rfl,r⟩:=k; exact one h)
 | slice a n c=>cases a <;> (have k:=h; simp only[VR] at k) <;> first | (subst k; exact one h) | (obtain⟨a',c',rfl,r⟩:=k; exact one h)
 | map a=>cases a <;> (have k:=h; simp only[VR] at k) <;> first | (subst k; exact one h) | (obtain⟨a',c',rfl,r⟩:=k; exact one h)
 | func f b c=>have k:=h; simp only[VR] at k; obtain⟨f',b',c',rfl,r⟩:=k; exact one h
 | iface t u=>have k:=h; simp only[VR] at k; obtain⟨u',rfl,r⟩:=k; exact one h
 | tuple c=>have k:=h; simp only[VR] at k; obtain⟨c',rfl,r⟩:=k; exact one h
 | chan c=>simp only[VR] at h
 | _=>(have k:=h; simp only[VR] at k; subst k; exact one h)
theorem VR.leaf{v v':Value}(h:VR φ v v')(l:tj v=true):v'.oneCell'=true:=by
 cases v with
 | agg c=>simp [tj] at l
 | tuple c=>simp [tj] at l
 | pointer a=>cases a <;> simp only[VR] at h <;> first | (subst h; rfl) | (obtain⟨a',rfl,r⟩:=h; rfl)
 | slice a n c=>cases a <;> simp only[VR] at h <;> first | (subst h; rfl) | (obtain⟨a',c',rfl,r⟩:=h; rfl)
 | map a=>cases a <;> simp only[VR] at h <;> first | (subst h; rfl) | (obtain⟨a',c',rfl,r⟩:=h; rfl)
 | func f b c=>simp only[VR] at h; obtain⟨f',b',c',rfl,r⟩:=h; rfl
 | iface t u=>simp only[VR] at h; obtain⟨u',rfl,r⟩:=h; rfl
 | chan c=>simp only[VR] at h
 | _=>(simp only[VR] at h; subst h; rfl)
theorem VRL.leaf:∀ {l l':List Value},VRL φ l l'→l.all tj=true→∀ v ∈ l',v.oneCell'=true
 | [],l',h,_=>by simp only[VRL] at h; subst h; simp
 | v::l,l',h,a=>by
  simp only[VRL] at h
  obtain⟨v',r',rfl,x,y⟩:=h
  simp only[List.all_cons,Bool.and_eq_true] at a
  intro u hu
  rcases List.mem_cons.1 hu with rfl | hu
  ·exact x.leaf a.1
  ·exact y.leaf a.2 u hu
theorem pJ{t:TypeId}{z:Value}(e:iJ P t=some z)(w:World):(zeroValue t).run P w=.ok z w∧bw z=true:=by
 unfold iJ at e
 split at e
 ·rename_i i hi
  split at e
  ·rename_i v hv
   split at e
   ·rename_i p; cases e
    refine⟨?_,p⟩
    simp [zeroValue,typeInfo,hi,hv]
   ·cases e
  ·cases e
 ·cases e
theorem mK{t:TypeId}{s:Nat}(e:szT P t=some s)(w:World):(sizeOf t).run P w=.ok s w:=by
 unfold szT at e
 split at e
 ·rename_i i hi; cases e; simp [sizeOf,typeInfo,hi]
 ·cases e
theorem Kw{t:TypeId}{s:Nat}(e:yQ P t=some s)(w:World):∃ i,(typeInfo t).run P w=.ok i w∧i.bytes=s:=by
 unfold yQ at e
 split at e
 ·rename_i i hi; cases e; exact⟨i,by simp [typeInfo,hi],rfl⟩
 ·cases e
theorem dV{t:TypeId}{d:TypeDesc}(e:P.underlying t=some d)(w:World):(underlying t).run P w=.ok d w:=by
 simp [underlying,e]
theorem rk{t:TypeId}{b:Bool}(e:fJ P t=some b)(w:World):(isAgg t).run P w=.ok b w:=by
 unfold fJ at e
 split at e
 ·rename_i fs h; cases e; simp [isAgg,dV h]
 ·rename_i x y h; cases e; simp [isAgg,dV h]
 ·rename_i d h1 h2 h; cases e
  simp only[isAgg,Sem.run_bind,dV h,Result.andThen_ok]
  rfl
 ·cases e
theorem qk{t e:TypeId}(h:jv P t=some e):P.underlying t=some (.slice e):=by
 unfold jv at h
 split at h
 ·rename_i x hx; cases h; exact hx
 ·cases h
theorem Dj{l r:List Value}{o n:Nat}(e:cut l o n=some r):r=(l.drop o).take n∧r.length=n:=by
 unfold cut at e
 simp only at e
 split at e
 ·rename_i h; cases e; exact⟨rfl,h⟩
 ·cases e
theorem part_ok{t:TypeId}{c c':List Value}{o:Nat}{v:Value}(hc:VRL φ c c')(e:Cy P t c o=some v)(w:World) :
  ∃ v',(part t ⟨c'⟩ o).run P w=.ok v' w∧VR φ v v':=by
 unfold Cy at e
 split at e
 ·rename_i h
  split at e
  ·rename_i s hs
   split at e
   ·rename_i l hl
    cases e
    obtain⟨rfl,hlen⟩:=Dj hl
    refine⟨.agg ⟨(c'.drop o).take s⟩,?_,?_⟩
    ·simp only[part,Sem.run_bind,rk h,Result.andThen_ok,if_true,mK hs,Sem.run_pure]
     congr 2
     apply Array.ext'
     simp [List.extract_eq_take_drop]
    ·simp only[VR]
     exact⟨_,rfl,by simpa only [VRA] using (hc.drop o).take s⟩
   ·cases e
  ·cases e
 ·rename_i h
  obtain⟨v',f,g⟩:=hc.get e
  refine⟨v',?_,g⟩
  simp [part,rk h,f]
 ·cases e
end Go.Ev
end
section
namespace Go.Ev
open Go
variable {P:Program} {w₀:World} {W:Sets} {φ:Phi} {st st':St} {w:World} {a:Act} {H:Hp} {n:Nat}
theorem Cz(b o i:Nat):(⟨b,o,none⟩:Addr).add i=⟨b,o+i,none⟩:=by unfold Addr.add; split <;> simp_all
theorem row_of(h:I w₀ W φ H n w){i:Nat}{c:List Value}{e:TypeId}{ro:Bool}{vec:Option Nat}(hi:H.get i=some (.cells c e ro vec)) :
  ∃ p arr fr,φ i=some p∧w.heap[p.1]?=some (.cells arr e fr)∧(ro=false→fr=(0,0))∧Pre φ c arr.toList∧(∀ s,vec=some s→arr.size=p.2 * s):=by
 obtain⟨p,o,f,g,k⟩:=h.rel i _ hi
 obtain⟨arr,fr,rfl,x,y,z⟩:=k
 exact⟨p,arr,fr,f,g,x,y,z⟩
theorem cut_row{c l:List Value}{o m b:Nat}{arr:Array Value}{e:TypeId}{fr:Nat × Nat}(hp:Pre φ c arr.toList)(hb:w.heap[b]?=some (.cells arr e fr))(hc:cut c o m=some l) :
  ∃ l',VRL φ l l'∧(loadCells ⟨b,o,none⟩ m).run P w=.ok ⟨l'⟩ w:=by
 obtain⟨rfl,hl⟩:=Dj hc
 refine⟨((arr.toList.take c.length).drop o).take m,(hp.drop o).take m,?_⟩
 have hlen:=((hp.drop o).take m).length
 rw[hl] at hlen
 have:=run_loadCells_list (P:=P) w ⟨b,o,none⟩ (((arr.toList.take c.length).drop o).take m) ?_
 ·rw[hlen] at this; exact this
 ·intro j v hj
  rw[Cz]
  rw[List.getElem?_take] at hj
  split at hj
  ·rw[List.getElem?_drop,List.getElem?_take] at hj
   split at hj
   ·simp only[World.cell?,hb]
    simpa using hj
   ·cases hj
  ·cases hj
theorem cut_rows{c l:List Value}{o m b:Nat}{arr:Array Value}{e:TypeId}{fr:Nat × Nat}(hp:∀(j:Nat) v,c[j]?=some v→lJ v=true→∃ v',arr[j]?=some v'∧VR φ v v')
  (hb:w.heap[b]?=some (.cells arr e fr)) (hc:cut c o m=some l) (hh:l.all lJ=true) :
  ∃ l',VRL φ l l'∧(loadCells ⟨b,o,none⟩ m).run P w=.ok ⟨l'⟩ w:=by
 obtain⟨rfl,hl⟩:=Dj hc
 have each:∀(j:Nat) v,((c.drop o).take m)[j]?=some v→∃ v',((arr.toList.drop o).take m)[j]?=some v'∧VR φ v v':=by
  intro j v hj
  have hmem:=List.all_eq_true.1 hh v (List.mem_of_getElem? hj)
  rw[List.getElem?_take] at hj ⊢
  split at hj
  ·rename_i hlt
   rw[List.getElem?_drop] at hj
   obtain⟨v',a,b⟩:=hp _ _ hj hmem
   exact⟨v',by rw[if_pos hlt,List.getElem?_drop]; simpa using a,b⟩
  ·cases hj
 have hlen:((arr.toList.drop o).take m).length=m:=by
  rcases Nat.eq_zero_or_pos m with h0 | h0
  ·subst h0; simp
  ·have hj:m-1<((c.drop o).take m).length:=by omega
   obtain⟨v',a,_⟩:=each (m-1) _ (List.getElem?_eq_getElem hj)
   have:=(List.getElem?_eq_some_iff.1 a).1
   have:=List.length_take_le m (arr.toList.drop o)
   omega
 refine⟨(arr.toList.drop o).take m,VRL.of_get (by rw[hlen,hl]) each,?_⟩
 have:=run_loadCells_list (P:=P) w ⟨b,o,none⟩ ((arr.toList.drop o).take m) ?_
 ·rw[hlen] at this; exact this
 ·intro j v hj
  rw[Cz]
  rw[List.getElem?_take] at hj
  split at hj
  ·rw[List.getElem?_drop] at hj
   simp only[World.cell?,hb]
   simpa using hj
  ·cases hj
theorem ov{x:Addr}(h:x.spot=none):x=⟨x.block,x.off,none⟩:=by cases x; simp at h; subst h; rfl
theorem Uj(h:I w₀ W φ H n w){x x':Addr}{m:Nat}{l:List Value}(hx:AR φ x x')(e:qX H x m=some l) :
  ∃ l',VRL φ l l'∧(loadCells x' m).run P w=.ok ⟨l'⟩ w:=by
 unfold qX at e
 split at e
 ·cases e
 ·rename_i hs
  split at e
  ·rename_i c el ro vec hb
   obtain⟨p,arr,fr,f,g,_,k,_⟩:=row_of h hb
   obtain⟨⟨cc,hx1⟩,hx2,hx3⟩:=hx
   rw[f] at hx1; cases hx1
   rw[ov (hx3.trans hs),hx2]
   exact cut_row k g e
  ·rename_i c hb
   obtain⟨p,o,f,g,arr,el,fr,rfl,k⟩:=h.rel _ _ hb
   obtain⟨⟨cc,hx1⟩,hx2,hx3⟩:=hx
   rw[f] at hx1; cases hx1
   rw[ov (hx3.trans hs),hx2]
   split at e
   ·rename_i l0 hl0
    split at e
    ·rename_i hall
     cases e
     exact cut_rows k g hl0 hall
    ·cases e
   ·cases e
  ·cases e
theorem qhw(h:I w₀ W φ H n w){x x':Addr}{t:TypeId}{v:Value}(hx:AR φ x x')(e:az P H t x=some v) :
  ∃ v',VR φ v v'∧(loadVar t x').run P w=.ok v' w:=by
 unfold az at e
 split at e
 ·cases e
 ·rename_i hs
  split at e
  ·rename_i c el ro vec hb
   obtain⟨p,arr,fr,f,g,_,k,_⟩:=row_of h hb
   obtain⟨⟨cc,hx1⟩,hx2,hx3⟩:=hx
   rw[f] at hx1; cases hx1
   rw[ov (hx3.trans hs),hx2]
   unfold Cy at e
   split at e
   ·rename_i ha
    split at e
    ·rename_i s hsz
     split at e
     ·rename_i l hl
      cases e
      obtain⟨l',hl',hr⟩:=cut_row (P:=P) k g hl
      refine⟨.agg ⟨l'⟩,?_,?_⟩
      ·simp only[VR]; exact⟨_,rfl,by simpa only [VRA] using hl'⟩
      ·simp [loadVar,rk ha,mK hsz,hr]
     ·cases e
    ·cases e
   ·rename_i ha
    obtain⟨v',e1,e2⟩:=k.get e
    refine⟨v',e2,?_⟩
    rw[List.getElem?_take] at e1
    split at e1
    ·have:w.cell? ⟨x'.block,x.off,none⟩=some v':=by simp only[World.cell?,g]; simpa using e1
     simp [loadVar,rk ha,this]
    ·cases e1
   ·cases e
  ·rename_i c hb
   obtain⟨p,o,f,g,arr,el,fr,rfl,k⟩:=h.rel _ _ hb
   obtain⟨⟨cc,hx1⟩,hx2,hx3⟩:=hx
   rw[f] at hx1; cases hx1
   rw[ov (hx3.trans hs),hx2]
   split at e
   case h_2=>cases e
   rename_i v0 hv0
   split at e
   case h_2=>cases e
   rename_i hno
   cases e
   unfold Cy at hv0
   split at hv0
   ·rename_i ha
    split at hv0
    ·rename_i s hsz
     split at hv0
     ·rename_i l hl
      cases hv0
      obtain⟨l',hl',hr⟩:=cut_rows (P:=P) k g hl (by simpa [vj] using hno)
      refine⟨.agg ⟨l'⟩,?_,?_⟩
      ·simp only[VR]; exact⟨_,rfl,by simpa only [VRA] using hl'⟩
      ·simp [loadVar,rk ha,mK hsz,hr]
     ·cases hv0
    ·cases hv0
   ·rename_i ha
    have hno':lJ v=true:=by
     cases v <;> first | rfl | simpa [vj] using hno
    obtain⟨v',e1,e2⟩:=k _ _ hv0 hno'
    refine⟨v',e2,?_⟩
    have:w.cell? ⟨x'.block,x.off,none⟩=some v':=by simp only[World.cell?,g]; simpa using e1
    simp [loadVar,rk ha,this]
   ·cases hv0
  ·cases e
theorem setRow_eq(w:World)(g:Nat)(cur cs:Array Value)(t:TypeId)(fr:Nat × Nat)(hg:w.heap[g]?=some (.cells cur t fr)) :
  w.setRow g cs={ w with heap:=w.heap.setIfInBounds g (.cells cs t fr) }:=by
 obtain⟨hlt,hh⟩:=Array.getElem?_eq_some_iff.1 hg
 unfold World.setRow
 congr 1
 apply Array.ext_getElem?
 intro i
 rw[Array.getElem?_modify,Array.getElem?_setIfInBounds]
 by_cases e:g=i
 ·subst e; simp [hlt,hh]
 ·simp [e]
theorem Wk(h:I w₀ W φ H n w){x x':Addr}{vs vs':List Value}{H':Hp}(hx:AR φ x x')(hv:VRL φ vs vs')(e:storeN H x vs=some H') :
  ∃ w',(storeCells x' vs').run P w=.ok () w'∧I w₀ W φ H' n w':=by
 unfold storeN at e
 split at e
 ·cases e
 ·rename_i hs
  split at e
  ·rename_i c el vec hb
   split at e
   ·rename_i hall
    split at e
    ·rename_i c' hc
     cases e
     obtain⟨p,arr,fr,f,g,fr0,k,sz⟩:=row_of h hb
     obtain⟨⟨cc,hx1⟩,hx2,hx3⟩:=hx
     rw[f] at hx1; cases hx1
     rw[ov (hx3.trans hs),hx2]
     obtain⟨rfl,hle⟩:=Wz _ _ _ _ hc
     rw[fr0 rfl] at g
     have hl:=hv.length
     have hle':=k.le
     have hrun:=run_storeCells_at (P:=P) x'.block x.off el vs' 0 arr w g (by simp at hle'; omega) (hv.leaf hall)
     refine⟨_,hrun,?_⟩
     rw[setRow_eq w _ _ _ _ _ g]
     refine h.put hb f rfl (b':=.cells (spl c x.off vs) el false vec) ⟨_,(0,0),rfl,fun _=>rfl,?_,?_⟩
     ·have:=k.spl hv hle
      simpa [Ev.spl] using this
     ·intro s hs'
      have:=sz s hs'
      rw[← this]
      simp only[List.size_toArray,List.length_append,List.length_take,List.length_drop,Array.length_toList]
      simp at hle'
      omega
    ·cases e
   ·cases e
  ·cases e
theorem fold_spl(off:Nat):∀(vs:List Value) (k:Nat) (l:List Value),off+k+vs.length≤l.length →
  (vs.zipIdx k).foldl (fun(cs:Array Value) (x:Value × Nat)=>cs.setIfInBounds (off+x.2) x.1) ⟨l⟩=⟨spl l (off+k) vs⟩
 | [],k,l,_=>by simp [spl]
 | v::vs,k,l,h=>by
  simp only[List.zipIdx_cons,List.foldl_cons]
  have e:(⟨l⟩:Array Value).setIfInBounds (off+k) v=⟨l.set (off+k) v⟩:=by
   apply Array.ext'; simp
  rw[e,fold_spl off vs (k+1) _ (by simp at h ⊢; omega)]
  congr 1
  have:=list_seg_step l (off+k) v vs (by simp at h; omega)
  simpa [spl,Nat.add_assoc,Nat.add_comm 1] using this
theorem qdq:∀ {pl:Nat→Option (Nat × Nat)} {c c' r:List Value} {ps:List (Nat × Value)} {ps':List (Nat × Value)},
  VRL φ c c'→ps'.map (·.1)=ps.map (·.1)→VRL φ (ps.map (·.2)) (ps'.map (·.2))→RW pl c ps=some r→∃ r',Instr.fill pl ⟨c'⟩ ps'=some ⟨r'⟩∧VRL φ r r':=by
 intro pl c c' r ps
 induction ps generalizing c c' with
 | nil=>
  intro ps' hc hi hv e
  simp [RW] at e; subst e
  cases ps' with
  | nil=>exact⟨c',rfl,hc⟩
  | cons x xs=>simp at hi
 | cons p ps ih=>
  intro ps' hc hi hv e
  cases ps' with
  | nil=>simp at hi
  | cons q qs=>
   obtain⟨i,v⟩:=p
   obtain⟨j,v'⟩:=q
   simp only[List.map_cons,List.cons.injEq] at hi
   obtain⟨rfl,hi⟩:=hi
   simp only[List.map_cons,VRL] at hv
   obtain⟨u,us,hu,hv1,hv2⟩:=hv
   simp only[List.cons.injEq] at hu
   obtain⟨rfl,rfl⟩:=hu
   simp only[RW] at e
   split at e
   ·cases e
   ·rename_i off size hpl
    split at e
    ·rename_i hsz
     split at e
     ·rename_i c1 hc1
      obtain⟨rfl,hle⟩:=Wz _ _ _ _ hc1
      have hvc:=hv1.cells
      have hl:=hvc.length
      have hcl:=hc.length
      have hsz':v'.cells.size=size:=by rw[← hsz,← hl,jQ]; simp
      have hfold:v'.cells.zipIdx.foldl (fun cs (x:Value × Nat)=>cs.setIfInBounds (off+x.2) x.1) (⟨c'⟩:Array Value)=⟨spl c' off (aZ v')⟩:=by
       have e1:v'.cells=(aZ v').toArray:=by rw[jQ]
       rw[e1]
       have:=fold_spl off (aZ v') 0 c' (by omega)
       simpa using this
      have hpre:VRL φ (spl c off (aZ v)) (spl c' off (aZ v')):=by
       have h1:=(hc.take off).append hvc
       have h2:=h1.append (hc.drop (off+(aZ v).length))
       unfold spl
       rw[hl]; exact h2
      obtain⟨r',hr,hr2⟩:=ih hpre hi hv2 e
      refine⟨r',?_,hr2⟩
      simp only[Instr.fill,hpl]
      rw[if_neg]
      ·rw[hfold]; exact hr
      ·simp [hsz']; omega
     ·cases e
    ·cases e
end Go.Ev
end
section
namespace Go.Ev
open Go
variable {P:Program} {w₀:World} {W:Sets} {φ:Phi} {st st':St} {w:World} {a:Act} {H:Hp} {n:Nat}
theorem yx{α:Type}:∀ {m:Sem α} {v:α},cY P m=some v→∀ w:World,m.run P w=.ok v w:=by
 intro m
 induction m with
 | pure x=>intro v e w; simp [cY] at e; subst e; rfl
 | program k ih=>intro v e w; simp only[cY] at e; simp only[Sem.run]; exact ih _ e w
 | mark m k ih=>intro v e w; simp only[cY] at e; simp only[Sem.run]; exact ih e w
 | _=>intro v e w; simp [cY] at e
def nY(m:Sem Value):Sem Next:=do pure (.value (← m))
def unitOf(m:Sem Unit):Sem Next:=do m; pure .skip
theorem ow{m:Sem Value}{v:Value}{w w':World}(h:m.run P w=.ok v w'):(nY m).run P w=.ok (.value v) w':=by
 simp [nY,h]
theorem SV{m:Sem Unit}{w w':World}(h:m.run P w=.ok () w'):(unitOf m).run P w=.ok .skip w':=by
 simp [unitOf,h]
theorem Done.val{m:Sem Value}{v v':Value}(h:I w₀ W φ st.H st.n w)(hm:m.run P w=.ok v' w)(hv:VR φ v v'):Done P (nY m) w₀ W φ w st v st:=
 Done.same h (ow hm) hv
theorem Done.keep{m:Sem Value}{o:Option Value}{v:Value}(h:I w₀ W φ st.H st.n w)(e:keep o st=some (v,st'))
  (k:∀ v,o=some v→∃ v',m.run P w=.ok v' w∧VR φ v v'):Done P (nY m) w₀ W φ w st v st':=by
 obtain⟨rfl,rfl⟩:=Iz e
 obtain⟨v',h1,h2⟩:=k v rfl
 exact Done.val h h1 h2
theorem Done.row{m:Sem Value}{c c':List Value}{e:TypeId}{vec:Option Nat}{cp:Nat}{v v':Value}{w1:World}(h:I w₀ W φ st.H st.n w1)
  (hc:Pre φ c c') (hvec:∀ s,vec=some s→c'.length=cp * s)
  (hm:m.run P w=.ok v' { w1 with heap:=w1.heap.push (.cells ⟨c'⟩ e) })
  (hv:VR (ext φ st.n (w1.heap.size,cp)) v v'):Done P (nY m) w₀ W φ w st v (vy st c e vec):=by
 have hb:BR φ (.cells c e false vec) (.cells ⟨c'⟩ e) cp:=⟨⟨c'⟩,(0,0),rfl,fun _=>rfl,hc,fun s hs=>by simpa using hvec s hs⟩
 exact⟨_,v',_,.inl (ow hm),h.ext_push _,h.push hb,hv,rfl,rfl⟩
theorem VR.ptr_new{φ:Phi}{n b c:Nat}:VR (ext φ n (b,c)) (ptr n) (.pointer (some ⟨b,0,none⟩)):=by
 simp only[ptr,VR]
 exact⟨_,rfl,⟨c,gj _ _ _⟩,rfl,rfl⟩
section
variable (h:I w₀ W φ st.H st.n w) (ht:TR φ st.T a.tmps)
include h ht
theorem pick_ok{c x y:Operand}{v:Value}(e:oPick c x y st=some (v,st')) :
  Done P (do pure (Next.value (if ← asBool (a.eval c) then a.eval x else a.eval y))) w₀ W φ w st v st':=by
 unfold oPick at e
 split at e
 ·rename_i hc
  have:=dz ht hc; simp only[VR] at this
  obtain⟨hx,rfl⟩:=Iz e
  exact Done.same h (by simp [this,asBool]) (dz ht hx)
 ·rename_i hc
  have:=dz ht hc; simp only[VR] at this
  obtain⟨hx,rfl⟩:=Iz e
  exact Done.same h (by simp [this,asBool]) (dz ht hx)
 ·cases e
omit ht in
theorem alloc_ok{t:TypeId}{v:Value}(e:SJ P t st=some (v,st')) :
  Done P (nY (Instr.alloc t true (.tuple #[]))) w₀ W φ w st v st':=by
 unfold SJ at e
 split at e
 ·rename_i z hz
  simp only[Option.some.injEq,Prod.mk.injEq] at e
  obtain⟨rfl,rfl⟩:=e
  obtain⟨hr,hp⟩:=pJ hz w
  refine Done.row (cp:=0) (c':=aZ z) h (Pre.of (bw.refl hp).cells) (fun s hs=>by cases hs) ?_ VR.ptr_new
  simp [Instr.alloc,hr,newVar,newRow,jQ]
 ·cases e
theorem box_ok{t:TypeId}{x:Operand}{v:Value}(e:oBox t x st=some (v,st')) :
  Done P (nY (Instr.box t (a.eval x))) w₀ W φ w st v st':=by
 unfold oBox at e
 split at e
 ·rename_i u hu
  simp only[Option.some.injEq,Prod.mk.injEq] at e
  obtain⟨rfl,rfl⟩:=e
  refine Done.row (cp:=0) (c':=aZ (a.eval x)) h (Pre.of (dz ht hu).cells) (fun s hs=>by cases hs) ?_ VR.ptr_new
  simp [Instr.box,newVar,newRow,jQ]
 ·cases e
omit h in
theorem Uq:∀ {l:List (Nat × Operand)} {ps:List (Nat × Value)},Hy st.T l=some ps →
  (l.map fun(i,x)=>(i,a.eval x)).map (·.1)=ps.map (·.1)∧VRL φ (ps.map (·.2)) ((l.map fun(i,x)=>(i,a.eval x)).map (·.2))
 | [],ps,e=>by simp [Hy] at e; subst e; exact⟨rfl,VRL.nil⟩
 | (i,x)::l,ps,e=>by
  simp only[Hy] at e
  split at e
  ·cases e
  ·rename_i v hv
   split at e
   ·cases e
   ·rename_i vs hvs
    cases e
    obtain⟨h1,h2⟩:=Uq hvs
    exact⟨by simp only[List.map_cons,h1],VRL.cons (dz ht hv) h2⟩
omit h ht in
theorem places_run(w:World):∀ {l:List Field} {pl:List (Nat × Nat)},Wx P l=some pl →
  (l.mapM (m:=Sem) fun f=>do pure (f.offset,← sizeOf f.type)).run P w=.ok pl w
 | [],pl,e=>by simp [Wx] at e; subst e; simp
 | f::l,pl,e=>by
  simp only[Wx] at e
  split at e
  ·cases e
  ·rename_i s hs
   split at e
   ·cases e
   ·rename_i r hr
    cases e
    have ih:=places_run w hr
    simp only[List.mapM_cons,Sem.run_bind,mK hs,Result.andThen_ok,Sem.run_pure]
    rw[show(List.mapM (m:=Sem) (fun f=>do pure (f.offset,← sizeOf f.type)) l).run P w=.ok r w from ih]
    rfl
theorem build_ok{t:TypeId}{parts:Array (Nat × Operand)}{v:Value}(e:keep (buildV P st.T t parts.toList) st=some (v,st')) :
  Done P (nY (Instr.build t (parts.map fun(i,x)=>(i,a.eval x)))) w₀ W φ w st v st':=by
 refine Done.keep h e fun v hv=>?_
 unfold buildV at hv
 split at hv
 ·rename_i z ps hz hps
  obtain⟨hzr,hzp⟩:=pJ hz w
  obtain⟨h1,h2⟩:=Uq ht hps
  have hz2:=(bw.refl (φ:=φ) hzp).cells
  have hpl:(parts.map fun(i,x)=>(i,a.eval x)).toList=parts.toList.map fun(i,x)=>(i,a.eval x):=by simp
  split at hv
  ·rename_i fs hu
   split at hv
   ·rename_i pl hpl'
    split at hv
    ·rename_i c hc
     cases hv
     obtain⟨r',hr,hr2⟩:=qdq hz2 h1 h2 hc
     refine⟨.agg ⟨r'⟩,?_,by simp only[VR]; exact⟨_,rfl,by simpa only [VRA] using hr2⟩⟩
     have hm:(fs.mapM (m:=Sem) fun f=>do pure (f.offset,← sizeOf f.type)).run P w=.ok pl.toArray w:=by
      rw[Array.mapM_eq_mapM_toList]
      simp only[Sem.run_map,places_run w hpl',Result.andThen_ok]
     simp only[Instr.build,Sem.run_bind,hzr,Result.andThen_ok,dV hu,hm,hpl]
     have e0:z.cells=⟨aZ z⟩:=by rw[jQ]
     have e1:(fun x:Nat=>pl.toArray[x]?)=(fun x:Nat=>pl[x]?):=by funext x; simp
     rw[e0,e1,hr]
     rfl
    ·cases hv
   ·cases hv
  ·rename_i k el hu
   split at hv
   ·rename_i s hs
    split at hv
    ·rename_i c hc
     cases hv
     obtain⟨r',hr,hr2⟩:=qdq hz2 h1 h2 hc
     refine⟨.agg ⟨r'⟩,?_,by simp only[VR]; exact⟨_,rfl,by simpa only [VRA] using hr2⟩⟩
     simp only[Instr.build,Sem.run_bind,hzr,Result.andThen_ok,dV hu,mK hs,hpl]
     have e0:z.cells=⟨aZ z⟩:=by rw[jQ]
     rw[e0,hr]
     rfl
    ·cases hv
   ·cases hv
  ·cases hv
 ·cases hv
theorem load_ok{t:TypeId}{x:Operand}{v:Value}(e:oLoad P t x st=some (v,st')) :
  Done P (nY (Instr.loadAt t (a.eval x))) w₀ W φ w st v st':=by
 unfold oLoad at e
 split at e
 ·rename_i ad hx
  have hv:=dz ht hx; simp only[VR] at hv
  obtain⟨ad',hv,har⟩:=hv
  refine Done.keep h e fun v hv'=>?_
  obtain⟨v',h1,h2⟩:=qhw h har hv'
  exact⟨v',by simp [Instr.loadAt,Instr.sureAddr,hv,h2],h1⟩
 ·cases e
theorem store_ok{t:TypeId}{x y:Operand}{v:Value}(e:oStore P t x y st=some (v,st')) :
  Done P (unitOf (Instr.storeAt t (a.eval x) (a.eval y))) w₀ W φ w st v st':=by
 unfold oStore at e
 split at e
 ·rename_i ad u hx hy
  have hv:=dz ht hx; simp only[VR] at hv
  obtain⟨ad',hv,har⟩:=hv
  have hu:=(dz ht hy).cells
  split at e
  ·rename_i s hs
   split at e
   ·rename_i hl
    split at e
    ·rename_i H hH
     simp only[Option.some.injEq,Prod.mk.injEq] at e
     obtain⟨rfl,rfl⟩:=e
     obtain⟨w',h1,h2⟩:=Wk (P:=P) h har hu hH
     have hl':=hu.length
     refine⟨φ,undef,w',.inr ⟨SV ?_,rfl⟩,Ext.refl _ _,h2,bw.refl rfl,rfl,rfl⟩
     rw[jQ] at h1 hl'
     simp at hl'
     simp [Instr.storeAt,Instr.sureAddr,hv,storeVar,mK hs,hl',hl,h1]
    ·cases e
   ·cases e
  ·cases e
 ·cases e
end
end Go.Ev
end
section
namespace Go.Ev
open Go
variable {P:Program} {w₀:World} {W:Sets} {φ:Phi} {st st':St} {w:World} {a:Act} {H:Hp} {n:Nat}
theorem Pk(z:List Value):∀ n,repl n z=(List.range (n * z.length)).map fun i=>z[i % z.length]!
 | 0=>by simp [repl]
 | n+1=>by
  simp only[repl,Pk z n]
  apply List.ext_getElem?
  intro i
  by_cases h:i<z.length
  ·have h2:i<(n+1) * z.length:=by rw[Nat.succ_mul]; omega
   rw[List.getElem?_append_left h]
   simp [h,h2,Nat.mod_eq_of_lt h]
  ·have hz:z.length≤i:=by omega
   rw[List.getElem?_append_right hz]
   by_cases h2:i<(n+1) * z.length
   ·have h3:i-z.length<n * z.length:=by rw[Nat.succ_mul] at h2; omega
    have hm:(i-z.length) % z.length=i % z.length:=by
     rw[← Nat.mod_eq_sub_mod hz]
    simp [h2,h3,hm]
   ·have h3:¬ i-z.length<n * z.length:=by rw[Nat.succ_mul] at h2; omega
    simp [h2,h3]
theorem yZ(z:Array Value)(n:Nat):((Array.range (n * z.size)).map fun i=>z[i % z.size]!)=⟨repl n z.toList⟩:=by
 rw[Pk]
 apply Array.ext'
 simp only[Array.toList_map,Array.toList_range,Array.length_toList]
 apply List.map_congr_left
 intro i _
 rw[getElem!_def,getElem!_def]
 simp
theorem PJ{v:Value}{len k:Nat}(e:qY v len=some k):∃ q,v=.int q (k:Int)∧k<len:=by
 unfold qY at e
 split at e
 ·rename_i q i
  split at e
  ·cases e; rename_i h; exact⟨q,rfl,h⟩
  ·cases e
 ·cases e
theorem bndIn_inv{v:Value}{len k:Nat}(e:bndIn v len=some k):∃ q,v=.int q (k:Int)∧k≤len:=by
 unfold bndIn at e
 split at e
 ·rename_i q i
  split at e
  ·cases e; rename_i h; exact⟨q,rfl,h⟩
  ·cases e
 ·cases e
theorem AR.add{x x':Addr}(h:AR φ x x')(hs:x.spot=none)(k:Nat):AR φ (addA x k) (x'.add k):=by
 obtain⟨⟨c,h1⟩,h2,h3⟩:=h
 rw[ov (h3.trans hs),Cz]
 exact⟨⟨c,h1⟩,by simp [addA,h2],rfl⟩
section
variable (h:I w₀ W φ st.H st.n w) (ht:TR φ st.T a.tmps)
include h ht
theorem buildSlice_ok{t:TypeId}{len:Nat}{parts:Array (Nat × Operand)}{v:Value}(e:tZ P t len parts st=some (v,st')) :
  Done P (nY (Instr.buildSlice t len (parts.map fun(i,x)=>(i,a.eval x)))) w₀ W φ w st v st':=by
 unfold tZ at e
 split at e
 ·rename_i el ps hel hps
  split at e
  ·rename_i s z hs hz
   split at e
   ·rename_i hc
    split at e
    ·rename_i c hfill
     simp only[Option.some.injEq,Prod.mk.injEq] at e
     obtain⟨rfl,rfl⟩:=e
     obtain⟨hzr,hzp⟩:=pJ hz w
     obtain⟨h1,h2⟩:=Uq ht hps
     have hpl:(parts.map fun(i,x)=>(i,a.eval x)).toList=parts.toList.map fun(i,x)=>(i,a.eval x):=by simp
     have hrp:ck (repl len (aZ z))=true:=by
      have hcp:ck (aZ z)=true:=by
       cases z <;> simp_all [aZ,ck,bw]
       rename_i cs; cases cs; simpa [ox] using hzp
      have app:∀ l m,ck l=true→ck m=true→ck (l++m)=true:=by
       intro l m hl hm
       induction l with
       | nil=>exact hm
       | cons x l ih=>simp only[ck,List.cons_append,Bool.and_eq_true] at *; exact⟨hl.1,ih hl.2⟩
      clear hfill hc
      induction len with
      | zero=>rfl
      | succ k ih=>exact app _ _ hcp ih
     obtain⟨c',hr,hr2⟩:=qdq (φ:=φ) (ck.refl hrp) h1 h2 hfill
     refine Done.row (cp:=0) (c':=c') h (Pre.of hr2) (fun s hs=>by cases hs) (v':=.slice (some ⟨w.heap.size,0,none⟩) len len) ?_ ?_
     ·have hz2:z.cells.size=s:=by rw[← hc.2.1,jQ]; simp
      have hbig:¬ len * s > 2 ^ 24:=by have:=hc.1; omega
      simp only[Instr.buildSlice,Sem.run_bind,dV (qk hel),Result.andThen_ok,mK hs,if_neg hbig,hpl]
      by_cases h0:len * s=0
      ·simp only[h0,if_true,pure_bind]
       have:repl len (aZ z)=[]:=by
        rw[Pk]; rw[hc.2.1,h0]; rfl
       rw[this] at hr
       have e0:(Array.map (fun x=>(#[]:Array Value)[x % (#[]:Array Value).size]!) (Array.range 0))=⟨[]⟩:=by simp
       rw[e0,hr]
       simp [newRow]
      ·simp only[h0,if_false,Sem.run_bind,hzr,Result.andThen_ok,Sem.run_pure]
       have e0:=yZ z.cells len
       rw[hz2] at e0
       rw[hz2,e0,← jQ,hr]
       simp [newRow]
     ·simp only[VR]
      exact⟨_,_,rfl,⟨⟨0,gj _ _ _⟩,rfl,rfl⟩,.inl ⟨hc.2.2,rfl⟩⟩
    ·cases e
   ·cases e
  ·cases e
 ·cases e
theorem nilCheck_ok{x:Operand}{v:Value}(o:Oper)(ho:o.op=.nilCheck x)(e:Iw x st=some (v,st')) :
  Done P (execOp a.eval o) w₀ W φ w st v st':=by
 unfold Iw at e
 split at e
 ·rename_i ad hx
  simp only[Option.some.injEq,Prod.mk.injEq] at e
  obtain⟨rfl,rfl⟩:=e
  have hv:=dz ht hx
  have hv2:=hv; simp only[VR] at hv2
  obtain⟨ad',e2,_⟩:=hv2
  rw[e2] at hv
  exact Done.same h (by simp [execOp,ho,e2]) hv
 ·rename_i f p q hx
  simp only[Option.some.injEq,Prod.mk.injEq] at e
  obtain⟨rfl,rfl⟩:=e
  have hv:=dz ht hx
  have hv2:=hv; simp only[VR] at hv2
  obtain⟨f',p',q',e2,e3,_⟩:=hv2
  simp only[FR] at e3; subst e3
  rw[e2] at hv
  exact Done.same h (by simp [execOp,ho,e2]) hv
 ·cases e
omit h ht in
theorem nilEq_ok{x y:Operand}{t:TypeId}{u v u' v':Value}{r:Bool}(hu:VR φ u u')(hv:VR φ v v')(e:nilEq P t u v=some r)(w:World) :
  (mQ .eql t x y u' v').run P w=.ok (.bool r) w∧(mQ .neq t x y u' v').run P w=.ok (.bool (!r)) w:=by
 have key:∀(op:BinOp),eqGuard op t x y u' v'=pure ()→(∀ d,(Op.equalIn (d+1) t u' v').run P w=.ok r w) →
   binOp .eql t u' v'=(do pure (.bool (← Op.equal t u' v')))→binOp .neq t u' v'=(do pure (.bool (!(← Op.equal t u' v')))) →
   (op=.eql→(mQ op t x y u' v').run P w=.ok (.bool r) w)∧(op=.neq→(mQ op t x y u' v').run P w=.ok (.bool (!r)) w):=by
  intro op h1 h2 h3 h4
  have h2':(Op.equal t u' v').run P w=.ok r w:=by unfold Op.equal Op.maxDepth; exact h2 9999
  constructor
  ·rintro rfl; simp [mQ,h1,h3,h2']
  ·rintro rfl; simp [mQ,h1,h4,h2']
 have fin:(eqGuard .eql t x y u' v'=pure ())→(eqGuard .neq t x y u' v'=pure ())→(∀ d,(Op.equalIn (d+1) t u' v').run P w=.ok r w) →
   binOp .eql t u' v'=(do pure (.bool (← Op.equal t u' v')))→binOp .neq t u' v'=(do pure (.bool (!(← Op.equal t u' v')))) →
   (mQ .eql t x y u' v').run P w=.ok (.bool r) w∧(mQ .neq t x y u' v').run P w=.ok (.bool (!r)) w:=
  fun g1 g2 h2 h3 h4=>⟨(key .eql g1 h2 h3 h4).1 rfl,(key .neq g2 h2 h3 h4).2 rfl⟩
 unfold nilEq at e
 split at e
 ·rename_i el n1 c1 b n2 c2 hund
  cases e
  simp only[VR] at hu; subst hu
  cases b with
  | none=>simp only[VR] at hv; subst hv; exact fin rfl rfl (fun d=>by simp [Op.equalIn,dV hund]) rfl rfl
  | some b=>simp only[VR] at hv; obtain⟨b',c',rfl,_⟩:=hv; exact fin rfl rfl (fun d=>by simp [Op.equalIn,dV hund]) rfl rfl
 ·rename_i el b n1 c1 n2 c2 hund
  cases e
  simp only[VR] at hu hv; subst hv
  obtain⟨b',c',rfl,_⟩:=hu
  exact fin rfl rfl (fun d=>by simp [Op.equalIn,dV hund]) rfl rfl
 ·rename_i el b hund
  cases e
  simp only[VR] at hu; subst hu
  cases b with
  | none=>simp only[VR] at hv; subst hv; exact fin rfl rfl (fun d=>by simp [Op.equalIn,dV hund]) rfl rfl
  | some b=>simp only[VR] at hv; obtain⟨b',rfl,_⟩:=hv; exact fin rfl rfl (fun d=>by simp [Op.equalIn,dV hund]) rfl rfl
 ·rename_i el b hund
  cases e
  simp only[VR] at hu hv; subst hv
  obtain⟨b',rfl,_⟩:=hu
  exact fin rfl rfl (fun d=>by simp [Op.equalIn,dV hund]) rfl rfl
 ·rename_i p q s hund
  cases e
  simp only[VR] at hu hv; subst hu; subst hv
  exact fin rfl rfl (fun d=>by simp [Op.equalIn,dV hund]) rfl rfl
 ·rename_i p q s f x1 x2 hund
  cases e
  simp only[VR] at hu hv; subst hu
  obtain⟨f',a',b',rfl,_⟩:=hv
  exact fin rfl rfl (fun d=>by simp [Op.equalIn,dV hund]) rfl rfl
 ·rename_i p q s f x1 x2 hund
  cases e
  simp only[VR] at hu hv; subst hv
  obtain⟨f',a',b',rfl,_⟩:=hu
  exact fin rfl rfl (fun d=>by simp [Op.equalIn,dV hund]) rfl rfl
 ·cases e
omit h ht in
theorem Uv{n:Nat}{v:Value}(e:mk64 n=some v):v=.int .i64 (n:Int)∧IntKind.i64.wrap (n:Int)=n:=by
 unfold mk64 at e
 split at e
 ·rename_i hb
  cases e
  have hlt:n<9223372036854775808:=by simpa using hb
  refine⟨rfl,?_⟩
  have e1:(n:Int) % 18446744073709551616=n:=by omega
  simp [IntKind.wrap,IntKind.bits,IntKind.signed,e1]
  omega
 ·cases e
omit h ht in
theorem Ik{op:BinOp}{x y:Operand}{t:TypeId}{a b v:Value}(e:yW op a b=some v)(w:World) :
  (mQ op t x y a b).run P w=.ok v w∧bw v=true∧bw a=true∧bw b=true:=by
 unfold yW at e
 split at e
 ·rename_i m
  split at e
  ·rename_i n
   refine⟨?_,?_,rfl,rfl⟩
   ·have hg:∀ op',eqGuard op' t x y (.int .i64 (.ofNat m)) (.int .i64 (.ofNat n))=pure ():=by
     intro op'; unfold eqGuard; split <;> rfl
    unfold mQ
    rw[hg]
    unfold Sk at e
    cases op <;> simp only at e
    case add=>obtain⟨rfl,hw⟩:=Uv e; simpa [binOp,Op.intArith] using hw
    case mul=>obtain⟨rfl,hw⟩:=Uv e; simpa [binOp,Op.intArith] using hw
    case sub=>
     split at e
     ·rename_i hle
      have hle:=Nat.le_of_ble_eq_true hle
      obtain⟨rfl,hw⟩:=Uv e
      have e3:((m-n:Nat):Int)=(m:Int)-n:=by omega
      rw[e3] at hw
      simp [binOp,Op.intArith,e3,hw]
     ·cases e
    case eql=>cases e; have:((m:Int) == (n:Int))=Nat.beq m n:=(by rw[Bool.eq_iff_iff]; simp; omega); simp [binOp,Op.intCmp,this]
    case neq=>cases e; have:((m:Int) == (n:Int))=Nat.beq m n:=(by rw[Bool.eq_iff_iff]; simp; omega); simp [binOp,Op.intCmp,bne,this]
    case lss=>cases e; have:decide ((m:Int)<(n:Int))=Nat.blt m n:=(by rw[Bool.eq_iff_iff]; simp); simp [binOp,Op.intCmp,← this]
    case gtr=>cases e; have:decide ((n:Int)<(m:Int))=Nat.blt n m:=(by rw[Bool.eq_iff_iff]; simp); simp [binOp,Op.intCmp,← this]
    case leq=>cases e; have:decide ((m:Int)≤(n:Int))=Nat.ble m n:=(by rw[Bool.eq_iff_iff]; simp); simp [binOp,Op.intCmp,← this]
    case geq=>cases e; have:decide ((n:Int)≤(m:Int))=Nat.ble n m:=(by rw[Bool.eq_iff_iff]; simp); simp [binOp,Op.intCmp,← this]
    all_goals cases e
   ·unfold Sk at e
    cases op <;> simp only at e <;> first | cases e | (obtain⟨rfl,_⟩:=Uv e; rfl) | (split at e <;> first | cases e | (obtain⟨rfl,_⟩:=Uv e; rfl))
    all_goals rfl
  ·cases e
 ·cases e
omit h ht in
theorem WJ{xs ys:List Value}(d:Nat):∀ {fs:List Field} {i:Nat} {l l':List Value} {r:Bool},Az P fs i=true→xs.drop i=l→ys.drop i=l'→fs.length=l.length→nW l l'=some r →
  (Op.eqFields (d+1) ⟨xs⟩ ⟨ys⟩ fs).run P w=.ok r w
 | [],i,l,l',r,_,_,_,hl,he=>by
  cases l with
  | cons z zs=>simp at hl
  | nil=>cases l' with
   | nil=>simp [nW] at he; simp [Op.eqFields,he]
   | cons z zs=>simp [nW] at he
 | f::fs,i,l,l',r,hf,hx,hy,hlen,he=>by
  simp only[Az] at hf
  split at hf
  ·rename_i k hn hu ha
   simp only[Bool.and_eq_true,bne_iff_ne,ne_eq,Nat.beq_eq] at hn
   obtain⟨hn,rfl⟩:=hn
   match l,l',he with
   | [],_,_=>simp at hlen
   | .int k1 a::l,.int k2 b::l',he=>
    have gx:xs[f.offset]?=some (.int k1 a):=by
     have:=congrArg (fun z=>z[0]?) hx; simpa using this
    have gy:ys[f.offset]?=some (.int k2 b):=by
     have:=congrArg (fun z=>z[0]?) hy; simpa using this
    have px:(part f.type ⟨xs⟩ f.offset).run P w=.ok (.int k1 a) w:=by simp [part,rk ha,gx]
    have py:(part f.type ⟨ys⟩ f.offset).run P w=.ok (.int k2 b) w:=by simp [part,rk ha,gy]
    have dx:xs.drop (f.offset+1)=l:=by rw[← List.drop_drop,hx]; rfl
    have dy:ys.drop (f.offset+1)=l':=by rw[← List.drop_drop,hy]; rfl
    simp only[nW] at he
    split at he
    ·rename_i h1 h2
     have h1:=of_decide_eq_true h1
     have h2:=of_decide_eq_true h2
     subst h1; subst h2
     have ih:=WJ d hf dx dy (by simpa using hlen) he
     simp only[Op.eqFields,hn,ne_eq,not_false_eq_true,if_true,Sem.run_bind,px,py,Result.andThen_ok,run_equalIn_int w d f.type k1 k a a hu,beq_self_eq_true,Bool.not_true,Bool.false_eq_true,if_false,ih]
    ·rename_i h1 h2
     have h1:=of_decide_eq_true h1
     have h2:=of_decide_eq_false h2
     cases he
     subst h1
     simp only[Op.eqFields,hn,ne_eq,not_false_eq_true,if_true,Sem.run_bind,px,py,Result.andThen_ok,run_equalIn_int w d f.type k1 k a b hu,beq_eq_false_iff_ne.2 h2,Bool.not_false,Sem.run_pure]
    ·cases he
  ·cases hf
omit h ht in
theorem Uw{k:TypeId}{n:Nat}(e:Iv P k=some n):∃ fs:Array Field,P.underlying k=some (.struct fs)∧P.stoodInHeld k=false∧Az P fs.toList 0=true∧fs.toList.length=n:=by
 unfold Iv at e
 split at e
 ·rename_i fs hu
  split at e
  ·rename_i hb
   simp only[Bool.and_eq_true,Bool.not_eq_true'] at hb
   cases e
   exact⟨fs,hu,hb.1,hb.2,rfl⟩
  ·cases e
 ·cases e
omit h ht in
theorem aggEq_ok{t:TypeId}{a b:Value}{r:Bool}(e:aggEq P t a b=some r)(x y:Operand)(w:World) :
  (mQ .eql t x y a b).run P w=.ok (.bool r) w∧(mQ .neq t x y a b).run P w=.ok (.bool (!r)) w:=by
 unfold aggEq at e
 split at e
 ·rename_i l l'
  split at e
  ·rename_i n hn
   obtain⟨fs,hu,hp,hf,hl⟩:=Uw hn
   split at e
   ·rename_i hb
    simp only[Bool.and_eq_true,Bool.not_eq_true',Nat.beq_eq] at hb
    have hfo:P.fieldsOf t=fs:=by simp [Program.fieldsOf,hu]
    have he:(Op.equalIn 10000 t (.agg ⟨l⟩) (.agg ⟨l'⟩)).run P w=.ok r w:=by
     rw[show(10000:Nat)=9998+1+1 from rfl,run_equalIn_struct w (9998+1) t _ _ (by rw[hfo]; exact hu) hp,hfo]
     exact WJ 9998 hf (List.drop_zero) (List.drop_zero) (by omega) e
    unfold mQ
    constructor
    ·simp only[Sem.run_bind,run_eqGuard_agg w .eql t x y _ _ hb.2,Result.andThen_ok,run_eql_struct,he]
    ·simp only[Sem.run_bind,run_eqGuard_agg w .neq t x y _ _ hb.2,Result.andThen_ok,run_neq_struct,he]
   ·cases e
  ·cases e
 ·cases e
omit h ht in
theorem aggBin_ok{op:BinOp}{t:TypeId}{a b v:Value}(e:EQ P op t a b=some v)(x y:Operand)(w:World) :
  (mQ op t x y a b).run P w=.ok v w∧bw v=true:=by
 unfold EQ at e
 split at e
 ·split at e
  ·rename_i r hr; cases e; exact⟨(aggEq_ok hr x y w).1,rfl⟩
  ·cases e
 ·split at e
  ·rename_i r hr; cases e; exact⟨(aggEq_ok hr x y w).2,rfl⟩
  ·cases e
 ·cases e
theorem bin_ok{op:BinOp}{t:TypeId}{x y:Operand}{v:Value}(e:oBin P op t x y st=some (v,st')) :
  Done P (nY (mQ op t x y (a.eval x) (a.eval y))) w₀ W φ w st v st':=by
 unfold oBin at e
 split at e
 ·rename_i p q hp hq
  have hp':=dz ht hp
  have hq':=dz ht hq
  refine Done.keep h e fun v hv=>?_
  unfold binV at hv
  split at hv
  ·rename_i u hu
   cases hv
   obtain⟨k1,k2,k3,k4⟩:=Ik (P:=P) (x:=x) (y:=y) (t:=t) hu w
   rw[bw.eq k3 hp',bw.eq k4 hq']
   exact⟨_,k1,bw.refl k2⟩
  ·unfold Gy at hv
   split at hv
   ·rename_i hpure
    simp only[Bool.and_eq_true] at hpure
    rw[bw.eq hpure.1 hp',bw.eq hpure.2 hq']
    split at hv
    ·rename_i u hu
     cases hv
     obtain⟨k1,k2⟩:=aggBin_ok hu x y w
     exact⟨_,k1,bw.refl k2⟩
    split at hv
    ·rename_i u hu
     split at hv
     ·rename_i hpu
      cases hv
      exact⟨_,yx hu w,bw.refl hpu⟩
     ·cases hv
    ·cases hv
   ·split at hv
    ·split at hv
     ·rename_i r hr
      cases hv
      exact⟨.bool r,(nilEq_ok hp' hq' hr w).1,bw.refl rfl⟩
     ·cases hv
    ·split at hv
     ·rename_i r hr
      cases hv
      exact⟨.bool (!r),(nilEq_ok hp' hq' hr w).2,bw.refl rfl⟩
     ·cases hv
    ·cases hv
 ·cases e
omit ht in
theorem viaPure_ok{m:Sem Value}{v:Value}(e:Gz P m st=some (v,st')):Done P (nY m) w₀ W φ w st v st':=by
 unfold Gz at e
 split at e
 ·rename_i u hu
  split at e
  ·rename_i hp
   simp only[Option.some.injEq,Prod.mk.injEq] at e
   obtain⟨rfl,rfl⟩:=e
   exact Done.val h (yx hu w) (bw.refl hp)
  ·cases e
 ·cases e
theorem un_ok{op:UnOp}{x:Operand}{v:Value}(e:oUn P op x st=some (v,st')):Done P (nY (Op.unary op (a.eval x))) w₀ W φ w st v st':=by
 unfold oUn at e
 split at e
 ·rename_i u hu
  split at e
  ·rename_i hp
   rw[bw.eq hp (dz ht hu)]
   exact viaPure_ok h e
  ·cases e
 ·cases e
theorem convert_ok{s d:TypeId}{x:Operand}{v:Value}(e:MQ P s d x st=some (v,st')):Done P (nY (convert s d (a.eval x))) w₀ W φ w st v st':=by
 unfold MQ at e
 split at e
 ·rename_i u hu
  split at e
  ·rename_i hp
   rw[bw.eq hp (dz ht hu)]
   exact viaPure_ok h e
  ·cases e
 ·cases e
theorem fieldAddr_ok{t:TypeId}{x:Operand}{f:Nat}{v:Value}(e:EV P t x f st=some (v,st')) :
  Done P (nY (Instr.fieldAt t (a.eval x) f)) w₀ W φ w st v st':=by
 unfold EV at e
 split at e
 ·rename_i u hu
  refine Done.keep h e fun v hv=>?_
  unfold aw at hv
  split at hv
  ·rename_i ad
   split at hv
   ·rename_i off ft hsp hf
    split at hv
    ·rename_i s hs
     split at hv
     ·cases hv
     ·rename_i hne
      cases hv
      have hvr:=dz ht hu; simp only[VR] at hvr
      obtain⟨ad',e1,har⟩:=hvr
      unfold qcz at hf
      split at hf
      ·rename_i fs hund
       split at hf
       ·rename_i fl hfl
        simp only[Option.some.injEq,Prod.mk.injEq] at hf
        obtain⟨rfl,rfl⟩:=hf
        refine⟨.pointer (some (ad'.add fl.offset)),?_,by simp only[VR]; exact⟨_,rfl,har.add hsp _⟩⟩
        have hfl':fs[f]?=some fl:=by simpa using hfl
        simp [Instr.fieldAt,dV hund,hfl',e1,Instr.sureAddr,fieldPlace,mK hs,hne]
       ·cases hf
      ·cases hf
    ·cases hv
   ·cases hv
  ·cases hv
 ·cases e
theorem field_ok{t:TypeId}{x:Operand}{f:Nat}{v:Value}(e:oField P t x f st=some (v,st')) :
  Done P (nY (Instr.field t (a.eval x) f)) w₀ W φ w st v st':=by
 unfold oField at e
 split at e
 ·rename_i u hu
  refine Done.keep h e fun v hv=>?_
  unfold fieldV at hv
  split at hv
  ·rename_i cs
   split at hv
   ·rename_i off ft hf
    have hvr:=dz ht hu; simp only[VR] at hvr
    obtain⟨cs',e1,har⟩:=hvr
    unfold qcz at hf
    split at hf
    ·rename_i fs hund
     split at hf
     ·rename_i fl hfl
      simp only[Option.some.injEq,Prod.mk.injEq] at hf
      obtain⟨rfl,rfl⟩:=hf
      have hl:VRL φ cs.toList cs'.toList:=by cases cs; simpa only [VRA] using har
      obtain⟨v',h1,h2⟩:=part_ok (P:=P) hl hv w
      have hfl':fs[f]?=some fl:=by simpa using hfl
      refine⟨v',?_,h2⟩
      have h1':(part fl.type cs' fl.offset).run P w=.ok v' w:=h1
      simp [Instr.field,dV hund,hfl',e1,asAgg,h1']
     ·cases hf
    ·cases hf
   ·cases hv
  ·cases hv
 ·cases e
theorem indexAddr_ok{t:TypeId}{x i:Operand}{v:Value}(e:EW P t x i st=some (v,st')) :
  Done P (nY (Instr.indexAt t (a.eval x) (a.eval i))) w₀ W φ w st v st':=by
 unfold EW at e
 split at e
 ·rename_i u k hu hk
  refine Done.keep h e fun v hv=>?_
  unfold aJ at hv
  split at hv
  ·rename_i len el ad hund
   split at hv
   ·cases hv
   ·rename_i hsp
    split at hv
    ·rename_i j s hj hs
     cases hv
     obtain⟨q,rfl,hlt⟩:=PJ hj
     have hvr:=dz ht hu; simp only[VR] at hvr
     obtain⟨ad',e1,har⟩:=hvr
     have hkr:=dz ht hk; simp only[VR] at hkr
     refine⟨.pointer (some (ad'.add (j * s))),?_,by simp only[VR]; exact⟨_,rfl,har.add hsp _⟩⟩
     simp [Instr.indexAt,hkr,asIntOf,dV hund,e1,Instr.sureAddr,mK hs,hlt]
    ·cases hv
  ·rename_i el ad len cap hund
   split at hv
   ·cases hv
   ·rename_i hsp
    split at hv
    ·rename_i j s hj hs
     cases hv
     obtain⟨q,rfl,hlt⟩:=PJ hj
     have hvr:=dz ht hu; simp only[VR] at hvr
     obtain⟨ad',c',e1,har,_⟩:=hvr
     have hkr:=dz ht hk; simp only[VR] at hkr
     refine⟨.pointer (some (ad'.add (j * s))),?_,by simp only[VR]; exact⟨_,rfl,har.add hsp _⟩⟩
     simp [Instr.indexAt,hkr,asIntOf,dV hund,e1,mK hs,hlt]
    ·cases hv
  ·cases hv
 ·cases e
theorem index_ok{t:TypeId}{x i:Operand}{v:Value}(e:oIndex P t x i st=some (v,st')) :
  Done P (nY (Instr.index t (a.eval x) (a.eval i))) w₀ W φ w st v st':=by
 unfold oIndex at e
 split at e
 ·rename_i u k hu hk
  refine Done.keep h e fun v hv=>?_
  unfold EJ at hv
  split at hv
  ·rename_i len el cs hund
   split at hv
   ·rename_i j s hj hs
    obtain⟨q,rfl,hlt⟩:=PJ hj
    have hvr:=dz ht hu; simp only[VR] at hvr
    obtain⟨cs',e1,har⟩:=hvr
    have hkr:=dz ht hk; simp only[VR] at hkr
    have hl:VRL φ cs.toList cs'.toList:=by cases cs; simpa only [VRA] using har
    obtain⟨v',h1,h2⟩:=part_ok (P:=P) hl hv w
    refine⟨v',?_,h2⟩
    have h1':(part el cs' (j * s)).run P w=.ok v' w:=h1
    simp [Instr.index,hkr,asIntOf,dV hund,e1,mK hs,hlt,h1']
   ·cases hv
  ·rename_i s hund
   split at hv
   ·rename_i j hj
    split at hv
    ·rename_i b hb
     cases hv
     obtain⟨q,rfl,hlt⟩:=PJ hj
     have hvr:=dz ht hu; simp only[VR] at hvr
     have hkr:=dz ht hk; simp only[VR] at hkr
     have hs:s[j]?=some b:=by
      cases s with
      | mk d=>
       have hlt':j<d.size:=hlt
       rw[Array.getElem?_toList,Array.getElem?_eq_getElem hlt'] at hb
       rw[getElem?_pos (⟨d⟩:ByteArray) j hlt]
       exact hb
     refine⟨.int .u8 b.toNat,?_,by simp only[VR]⟩
     simp [Instr.index,hkr,asIntOf,dV hund,hvr,hs]
    ·cases hv
   ·cases hv
  ·cases hv
 ·cases e
theorem extract_ok{x:Operand}{i:Nat}{v:Value}(e:MW x i st=some (v,st')) :
  Done P (nY (Instr.extract (a.eval x) i)) w₀ W φ w st v st':=by
 unfold MW at e
 split at e
 ·rename_i vs hx
  refine Done.keep h e fun v hv=>?_
  have hvr:=dz ht hx; simp only[VR] at hvr
  obtain⟨cs',e1,har⟩:=hvr
  have hl:VRL φ vs.toList cs'.toList:=by cases vs; simpa only [VRA] using har
  obtain⟨v',h1,h2⟩:=hl.get hv
  have h1':cs'[i]?=some v':=by simpa using h1
  exact⟨v',by simp [Instr.extract,e1,h1'],h2⟩
 ·cases e
theorem makeFunc_ok{fn:Fn}{first cap:Array Operand}{v:Value}(e:Ix fn first cap st=some (v,st')) :
  Done P (nY (Instr.makeFunc fn (first.map a.eval) (cap.map a.eval))) w₀ W φ w st v st':=by
 unfold Ix at e
 split at e
 ·rename_i f
  split at e
  ·rename_i p q hp hq
   simp only[Option.some.injEq,Prod.mk.injEq] at e
   obtain⟨rfl,rfl⟩:=e
   refine Done.val h (v':=.func (.func f) (first.map a.eval) (cap.map a.eval)) rfl ?_
   simp only[VR]
   refine⟨_,_,_,rfl,rfl,?_,?_⟩
   ·simp only[VRA]; simpa using Pz ht hp
   ·simp only[VRA]; simpa using Pz ht hq
  ·cases e
 ·cases e
end
end Go.Ev
end
section
namespace Go.Ev
open Go
variable {P:Program} {w₀:World} {W:Sets} {φ:Phi} {st st':St} {w:World} {a:Act} {H:Hp} {n:Nat}
theorem MX{z:Value}(h:bw z=true):ck (aZ z)=true:=by
 cases z <;> simp_all [aZ,ck,bw]
 rename_i cs; cases cs; simpa [ox] using h
theorem pureL_append:∀ {l m:List Value},ck l=true→ck m=true→ck (l++m)=true
 | [],m,_,h=>h
 | x::l,m,h,k=>by
  simp only[ck,List.cons_append,Bool.and_eq_true] at *
  exact⟨h.1,pureL_append h.2 k⟩
theorem Kx{z:List Value}(h:ck z=true):∀ n,ck (repl n z)=true
 | 0=>rfl
 | n+1=>pureL_append h (Kx h n)
theorem repl_length(z:List Value):∀ n,(repl n z).length=n * z.length
 | 0=>by simp [repl]
 | n+1=>by simp [repl,repl_length z n,Nat.succ_mul]; omega
theorem smallOk_inv{a b c:Nat}(h:Kq a b c=true):a<1048576∧b<1048576∧c<1048576:=by
 simp [Kq] at h; exact⟨h.1.1,h.1.2,h.2⟩
theorem Ux(n:Nat)(h:n<1048576):IntKind.i64.wrap (n:Int)=n:=by
 have e:(n:Int) % 18446744073709551616=n:=by omega
 simp [IntKind.wrap,IntKind.bits,IntKind.signed,e]
 omega
section
variable (h:I w₀ W φ st.H st.n w) (ht:TR φ st.T a.tmps)
include h ht
theorem makeSlice_ok{t:TypeId}{l c:Operand}{v:Value}(e:xj P t l c st=some (v,st')) :
  Done P (nY (Instr.makeSlice t (a.eval l) (a.eval c))) w₀ W φ w st v st':=by
 unfold xj at e
 split at e
 ·rename_i el l c hel hl hc
  split at e
  ·rename_i s b z hs hb hz
   split at e
   ·rename_i hcond
    simp only[Option.some.injEq,Prod.mk.injEq] at e
    obtain⟨rfl,rfl⟩:=e
    obtain⟨hlc,hbig,hzl⟩:=hcond
    obtain⟨hb1,hb2,hb3⟩:=smallOk_inv hbig
    obtain⟨hzr,hzp⟩:=pJ hz w
    obtain⟨i,hir,rfl⟩:=Kw hb w
    have e1:=dz ht hl; simp only[VR] at e1
    have e2:=dz ht hc; simp only[VR] at e2
    refine Done.row (cp:=0) (c':=repl c (aZ z)) h (Pre.of (ck.refl (Kx (MX hzp) c))) (fun s hs=>by cases hs) (v':=.slice (some ⟨w.heap.size,0,none⟩) l c) ?_ ?_
    ·have w1:=Ux l (by omega)
     have w2:=Ux c hb1
     have hz2:z.cells.size=s:=by rw[← hzl,jQ]; simp
     have hmul:(i.bytes:Int) * (c:Int)≤2 ^ 48:=by
      have:i.bytes * c≤1048576 * 1048576:=Nat.mul_le_mul (by omega) (by omega)
      have:=Int.ofNat_le.2 this
      rw[Int.natCast_mul] at this
      omega
     have hno:((decide ((c:Int)<0) || decide ((i.bytes:Int) * (c:Int) > 2 ^ 48)) || decide ((l:Int)<0) || decide ((l:Int) > (c:Int)))=false:=by
      have q1:¬ ((c:Int)<0):=by omega
      have q2:¬ ((i.bytes:Int) * (c:Int) > 2 ^ 48):=by omega
      have q3:¬ ((l:Int)<0):=by omega
      have q4:¬ ((l:Int) > (c:Int)):=by omega
      simp only[decide_eq_false q1,decide_eq_false q2,decide_eq_false q3,decide_eq_false q4,Bool.or_false]
     simp only[Instr.makeSlice,Sem.run_bind,dV (qk hel),Result.andThen_ok,e1,e2,asInt,asIntOf,Sem.run_pure,hir,Int.ofNat_eq_natCast,w1,w2]
     rw[hno]
     simp only[Bool.false_eq_true,if_false,Sem.run_bind,run_askRoom,Result.andThen_ok,mK hs,Int.toNat_natCast]
     by_cases h0:c * s=0
     ·have:repl c (aZ z)=[]:=by rw[Pk,hzl,h0]; rfl
      have e0:(Array.map (fun x=>(#[]:Array Value)[x % (#[]:Array Value).size]!) (Array.range 0))=⟨[]⟩:=by simp
      simp only[h0,if_true,pure_bind]
      rw[e0,this]
      simp [newRow]
     ·simp only[h0,if_false,Sem.run_bind,hzr,Result.andThen_ok,Sem.run_pure]
      have e0:=yZ z.cells c
      rw[hz2] at e0
      rw[hz2,e0,← jQ]
      simp [newRow]
    ·simp only[VR]
     exact⟨_,_,rfl,⟨⟨0,gj _ _ _⟩,rfl,rfl⟩,.inl ⟨by unfold capV; omega,rfl⟩⟩
   ·cases e
  ·cases e
 ·cases e
omit h in
theorem opdO_ok{x:Option Operand}{v:Option Value}(e:opdO x st.T=some v):(v=none∧x.map a.eval=none)∨∃ u u',v=some u∧x.map a.eval=some u'∧VR φ u u':=by
 cases x with
 | none=>simp [opdO] at e; exact .inl ⟨e.symm,rfl⟩
 | some x=>
  simp only[opdO] at e
  split at e
  ·rename_i u hu; cases e; exact .inr ⟨u,_,rfl,rfl,dz ht hu⟩
  ·cases e
omit h ht in
theorem VR.slice_inv{x:Addr}{n c:Nat}{v':Value}(k:VR φ (.slice (some x) n c) v'):∃ x' c',v'=.slice (some x') n c'∧AR φ x x'∧CR φ x n c c':=by
 simpa only [VR] using k
omit h ht in
theorem WQ{isS:Bool}{len m l r:Nat}{lo hi lo' hi':Option Value}(hlo:(lo=none∧lo'=none)∨∃ u u',lo=some u∧lo'=some u'∧VR φ u u')
  (hhi:(hi=none∧hi'=none)∨∃ u u',hi=some u∧hi'=some u'∧VR φ u u') {m':Nat} (hm:m≤m') (e:Pw len m lo hi=some (l,r)) (hlen:len≤m) (w:World) :
  (Instr.sliceBounds isS len m' lo' hi' none).run P w=.ok (l,r,m') w∧l≤r∧r≤m:=by
 have one:∀ {v v':Value} {y y' k:Nat} {code:BoundsCode},VR φ v v'→bndIn v y=some k→y≤y'→(Instr.sliceBound v' y' code).run P w=.ok k w∧k≤y:=by
  intro v v' y y' k code hv hk hy
  obtain⟨q,rfl,hle⟩:=bndIn_inv hk
  simp only[VR] at hv; subst hv
  refine⟨?_,hle⟩
  have:(k:Int)≤y':=by omega
  simp [Instr.sliceBound,asIntOf,this]
 unfold Pw at e
 split at e
 ·cases e
 ·rename_i r' hr
  split at e
  ·cases e
  ·rename_i l' hl
   simp only[Option.some.injEq,Prod.mk.injEq] at e
   obtain⟨rfl,rfl⟩:=e
   rcases hhi with⟨rfl,rfl⟩ | ⟨u,u',rfl,rfl,hu⟩
   ·simp only[hiV,Option.some.injEq] at hr; subst hr
    rcases hlo with⟨rfl,rfl⟩ | ⟨x,x',rfl,rfl,hx⟩
    ·simp only[loV,Option.some.injEq] at hl; subst hl
     exact⟨by simp [Instr.sliceBounds],Nat.zero_le _,hlen⟩
    ·simp only[loV] at hl
     obtain⟨h1,h2⟩:=one (code:=.sliceB) hx hl (Nat.le_refl _)
     exact⟨by simp [Instr.sliceBounds,h1],h2,hlen⟩
   ·simp only[hiV] at hr
    obtain⟨g1,g2⟩:=one (code:=if isS then .sliceAcap else .sliceAlen) hu hr hm
    rcases hlo with⟨rfl,rfl⟩ | ⟨x,x',rfl,rfl,hx⟩
    ·simp only[loV,Option.some.injEq] at hl; subst hl
     exact⟨by simp [Instr.sliceBounds,g1],Nat.zero_le _,g2⟩
    ·simp only[loV] at hl
     obtain⟨h1,h2⟩:=one (code:=.sliceB) hx hl (Nat.le_refl _)
     exact⟨by simp [Instr.sliceBounds,g1,h1],h2,g2⟩
theorem slice_ok{t:TypeId}{x:Operand}{lo hi:Option Operand}{v:Value}(e:oSlice P t x lo hi st=some (v,st')) :
  Done P (nY (Instr.sliceAt t (a.eval x) (lo.map a.eval) (hi.map a.eval) none)) w₀ W φ w st v st':=by
 unfold oSlice at e
 split at e
 ·rename_i u l0 h0 hu hl0 hh0
  refine Done.keep h e fun v hv=>?_
  have hlo:=opdO_ok ht hl0
  have hhi:=opdO_ok ht hh0
  have hur:=dz ht hu
  unfold Kj at hv
  split at hv
  ·rename_i el ad len cap hund
   split at hv
   ·rename_i s hsp hs
    obtain⟨ad',c',e1,har,hcr⟩:=VR.slice_inv hur
    have hrun:∀ {l r m:Nat},(Instr.sliceBounds true len c' (lo.map a.eval) (hi.map a.eval) none).run P w=.ok (l,r,m) w →
      (Instr.sliceAt t (a.eval x) (lo.map a.eval) (hi.map a.eval) none).run P w=.ok (.slice (some (if m=l then ad' else ad'.add (l * s))) (r-l) (m-l)) w:=by
     intro l r m hb
     have:(Instr.slice t (a.eval x) (lo.map a.eval) (hi.map a.eval) none).run P w=.ok (.slice (some (if m=l then ad' else ad'.add (l * s))) (r-l) (m-l)) w:=by
      simp only[Instr.slice,Sem.run_bind,dV hund,Result.andThen_ok,e1,hb,mK hs,Sem.run_pure]
      by_cases q:m=l <;> simp [q]
     simp only[Instr.sliceAt,Sem.run_bind,dV hund,Result.andThen_ok]
     exact this
    split at hv
    ·rename_i hcap
     have hc':c'=cap:=by
      rcases hcr with⟨_,q⟩ | ⟨q,_⟩ | ⟨q,_⟩
      ·exact q
      ·unfold capV at *; omega
      ·unfold capV capR at *; omega
     subst hc'
     split at hv
     ·rename_i hlen
      split at hv
      ·rename_i l r hb
       cases hv
       obtain⟨b1,b2,b3⟩:=WQ (P:=P) (isS:=true) hlo hhi (Nat.le_refl c') hb hlen w
       refine⟨_,hrun b1,?_⟩
       simp only[VR]
       refine⟨_,_,rfl,?_,.inl ⟨by omega,rfl⟩⟩
       split
       ·exact har
       ·exact har.add hsp _
      ·cases hv
     ·cases hv
    ·rename_i hcap
     have hlc:len≤c':=by
      rcases hcr with⟨q,_⟩ | ⟨_,_,_,q,_⟩ | ⟨_,q⟩
      ·exact absurd q hcap
      ·exact q
      ·exact q
     split at hv
     ·rename_i l r hb
      obtain⟨b1,b2,b3⟩:=WQ (P:=P) (isS:=true) hlo hhi hlc hb (Nat.le_refl _) w
      split at hv
      ·rename_i hl
       subst hl
       split at hv
       ·rename_i hcv
        split at hv
        ·cases hv
        ·rename_i hr
         cases hv
         refine⟨_,hrun b1,?_⟩
         have hne:¬ c'=0:=by omega
         simp only[VR,Nat.zero_mul,Nat.sub_zero,if_neg hne]
         refine⟨_,_,rfl,?_,?_⟩
         ·have:=har.add hsp 0
          have e2:addA ad 0=ad:=by rw[ov hsp]; rfl
          rwa [e2] at this
         ·rcases hcr with⟨q,_⟩ | ⟨q1,q2,q3,q4,q5⟩ | ⟨q,_⟩
          ·exact absurd q hcap
          ·exact .inr (.inl ⟨rfl,q2,q3,by omega,q5⟩)
          ·unfold capV capR at *; omega
       ·split at hv
        ·cases hv
        ·rename_i hr
         cases hv
         refine⟨_,hrun b1,?_⟩
         have hne:¬ c'=0:=by omega
         simp only[VR,Nat.zero_mul,Nat.sub_zero,if_neg hne]
         refine⟨_,_,rfl,?_,.inr (.inr ⟨rfl,by omega⟩)⟩
         have:=har.add hsp 0
         have e2:addA ad 0=ad:=by rw[ov hsp]; rfl
         rwa [e2] at this
      ·split at hv
       ·rename_i hl hlr
        cases hv
        refine⟨_,hrun b1,?_⟩
        have hne:¬ c'=l:=by omega
        simp only[VR,if_neg hne]
        exact⟨_,_,rfl,har.add hsp _,.inr (.inr ⟨rfl,by omega⟩)⟩
       ·cases hv
     ·cases hv
   ·cases hv
  ·rename_i k el ad hund
   split at hv
   ·rename_i s hsp hs
    split at hv
    ·rename_i l r hb
     split at hv
     case isFalse=>cases hv
     rename_i hkc
     cases hv
     simp only[VR] at hur
     obtain⟨ad',e1,har⟩:=hur
     obtain⟨b1,b2,b3⟩:=WQ (P:=P) (isS:=false) hlo hhi (Nat.le_refl k) hb (Nat.le_refl _) w
     refine⟨.slice (some (if k=l then ad' else ad'.add (l * s))) (r-l) (k-l),?_,?_⟩
     ·simp only[Instr.sliceAt,Sem.run_bind,dV hund,Result.andThen_ok,e1,Instr.sureAddr,Sem.run_pure,b1,mK hs]
     ·simp only[VR]
      refine⟨_,_,rfl,?_,.inl ⟨?_,rfl⟩⟩
      ·split
       ·exact har
       ·exact har.add hsp _
      ·omega
    ·cases hv
   ·cases hv
  ·cases hv
 ·cases e
end
end Go.Ev
end
section
namespace Go.Ev
open Go
variable {P:Program} {w₀:World} {W:Sets} {φ:Phi} {st st':St} {w:World} {a:Act} {H:Hp} {n:Nat}
theorem I.congr{H':Hp}(h:I w₀ W φ H n w)(e:∀ i,H'.get i=H.get i):I w₀ W φ H' n w:=
 ⟨h.dom,fun i b x=>h.rel i b (by rw[← e]; exact x),fun i j b c p q x y=>h.inj i j b c p q (by rw[← e]; exact x) (by rw[← e]; exact y),h.keep,h.size,
  fun i b p x=>h.wr i b p (by rw[← e]; exact x),fun i b p x=>h.src i b p (by rw[← e]; exact x),h.os,h.tape,h.output,h.fz⟩
theorem I.rename(h:I w₀ W φ H n w){i:Nat}{b:Blk}{p:Nat × Nat}(hi:H.get i=some b)(hp:φ i=some p) :
  I w₀ W (ext φ n p) ((H.set i none).set n (some b)) (n+1) w:=by
 have hle:=SQ (p:=p) h.free
 have old:∀ j c,j≠n→((H.set i none).set n (some b)).get j=some c→j≠i∧H.get j=some c:=by
  intro j c hj e
  rw[Tr.get_set,if_neg hj,Tr.get_set] at e
  split at e
  ·cases e
  ·rename_i x; exact⟨x,e⟩
 have oldφ:∀ j q,j≠n→ext φ n p j=some q→φ j=some q:=by
  intro j q hj e; unfold ext at e; rwa [if_neg hj] at e
 refine⟨?_,?_,?_,h.keep,h.size,?_,?_,h.os,h.tape,h.output,h.fz⟩
 ·intro j q e
  by_cases hj:j=n
  ·subst hj; rw[gj] at e; cases e
   omega
  ·have:=h.dom j q (oldφ j q hj e); omega
 ·intro j c e
  by_cases hj:j=n
  ·subst hj; rw[Tr.get_set,if_pos rfl] at e; cases e
   obtain⟨q,o,f,g,k⟩:=h.rel i b hi
   rw[hp] at f; cases f
   exact⟨p,o,gj _ _ _,g,k.mono hle⟩
  ·obtain⟨_,e'⟩:=old j c hj e
   obtain⟨q,o,f,g,k⟩:=h.rel j c e'
   exact⟨q,o,hle _ _ f,g,k.mono hle⟩
 ·intro j k c d q r e f g g' x
  by_cases hj:j=n <;> by_cases hk:k=n
  ·rw[hj,hk]
  ·exfalso
   subst hj; rw[gj] at g; cases g
   obtain⟨h1,h2⟩:=old k d hk f
   exact h1 (h.inj i k b d p r hi h2 hp (oldφ k r hk g') x).symm
  ·exfalso
   subst hk; rw[gj] at g'; cases g'
   obtain⟨h1,h2⟩:=old j c hj e
   exact h1 (h.inj j i c b q p h2 hi (oldφ j q hj g) hp x)
  ·exact h.inj j k c d q r (old j c hj e).2 (old k d hk f).2 (oldφ j q hj g) (oldφ k r hk g') x
 ·intro j c q e r g
  by_cases hj:j=n
  ·subst hj; rw[gj] at g; cases g
   rw[Tr.get_set,if_pos rfl] at e; cases e
   exact h.wr i b p hi r hp
  ·exact h.wr j c q (old j c hj e).2 r (oldφ j q hj g)
 ·intro j c q e g
  by_cases hj:j=n
  ·subst hj; rw[gj] at g; cases g
   rw[Tr.get_set,if_pos rfl] at e; cases e
   exact h.src i b p hi hp
  ·exact h.src j c q (old j c hj e).2 (oldφ j q hj g)
theorem nextslicecap_le{need cap:Nat}(h:cap<need):Builtin.nextslicecap need cap≤4 * need+4096:=by
 unfold Builtin.nextslicecap
 split
 ·omega
 ·split
  ·omega
  ·simp only[Builtin.growBy]
   repeat' split
   all_goals omega
theorem nextslicecap_le2{need cap:Nat}(h:cap<need):4 * Builtin.nextslicecap need cap≤5 * need+4096:=by
 unfold Builtin.nextslicecap
 split
 ·omega
 ·split
  ·omega
  ·simp only[Builtin.growBy]
   repeat' split
   all_goals omega
theorem bigOk_inv{a b c:Nat}(h:yV a b c=true):(a<1048576∨(1≤c∧a * c≤140737488355328))∧b<1048576∧c<1048576:=by
 simp [yV] at h; exact⟨h.1.1,h.1.2,h.2⟩
theorem VR.slice_none{n c:Nat}{v':Value}(k:VR φ (.slice none n c) v'):v'=.slice none n c:=by simpa only [VR] using k
theorem src_ok(h:I w₀ W φ H n w){s m:Nat}{y y':Value}{l:List Value}(hy:VR φ y y')(e:pX H s y=some (l,m)) :
  ∃ l',VRL φ l l'∧(∃ b c,y'=.slice b m c)∧l'.length=m * s∧(Builtin.firstCells s m y').run P w=.ok ⟨l'⟩ w:=by
 unfold pX at e
 split at e
 ·rename_i k c
  split at e
  ·rename_i hk
   subst hk
   simp only[Option.some.injEq,Prod.mk.injEq] at e
   obtain⟨rfl,rfl⟩:=e
   have:=hy.slice_none; subst this
   exact⟨[],VRL.nil,⟨_,_,rfl⟩,by simp,by simp [Builtin.firstCells]⟩
  ·cases e
 ·rename_i ad k c
  split at e
  ·rename_i l0 hl0
   simp only[Option.some.injEq,Prod.mk.injEq] at e
   obtain⟨rfl,rfl⟩:=e
   obtain⟨ad',c',rfl,har,_⟩:=VR.slice_inv hy
   have hlen:l0.length=k * s:=by
    unfold qX at hl0
    split at hl0
    ·cases hl0
    ·split at hl0
     ·exact(Dj hl0).2
     ·split at hl0
      ·rename_i hl
       split at hl0
       ·cases hl0; exact(Dj hl).2
       ·cases hl0
      ·cases hl0
     ·cases hl0
   obtain⟨l',h1,h2⟩:=Uj (P:=P) h har hl0
   exact⟨l',h1,⟨_,_,rfl⟩,by rw[h1.length,hlen],by simpa [Builtin.firstCells] using h2⟩
  ·split at e
   ·rename_i hz
    have hz:=Nat.eq_of_beq_eq_true hz
    subst hz
    simp only[Option.some.injEq,Prod.mk.injEq] at e
    obtain⟨rfl,rfl⟩:=e
    obtain⟨ad',c',rfl,_,_⟩:=VR.slice_inv hy
    exact⟨[],VRL.nil,⟨_,_,rfl⟩,by simp,by simp [Builtin.firstCells,loadCells,loadCellsFrom]⟩
   ·cases e
 ·cases e
theorem append_grow{t t2 e e2 ty:TypeId}{base:Option Addr}{len m c' s b:Nat}{y' z:Value}{by':Option Addr}{cy:Nat}{old' new':List Value}
  (hel:P.underlying t=some (.slice e)) (h2:P.underlying t2=some (.slice e2)) (hs:szT P e=some s) (hb:yQ P e=some b) (hz:iJ P e=some z)
  (hzl:(aZ z).length=s) (big:yV (len+m) s b=true) (hgt:c'<len+m) (hy:y'=.slice by' m cy)
  (hold:(Builtin.firstCells s len (.slice base len c')).run P { w with drawn:=w.drawn+1 }=.ok ⟨old'⟩ { w with drawn:=w.drawn+1 })
  (hnew:(Builtin.firstCells s m y').run P { w with drawn:=w.drawn+1 }=.ok ⟨new'⟩ { w with drawn:=w.drawn+1 }) :
  ∃ newCap rest,len+m≤newCap∧rest.length=(newCap-(len+m)) * s ∧
   (Builtin.append_ #[t,t2] ty #[.slice base len c',y']).run P w=.ok (.slice (some ⟨w.heap.size,0,none⟩) (len+m) newCap)
    { w with heap:=w.heap.push (.cells ⟨old'++new'++rest⟩ e),drawn:=w.drawn+1 }:=by
 obtain⟨b1,b2,b3⟩:=bigOk_inv big
 obtain⟨i,hir,rfl⟩:=Kw hb w
 obtain⟨i2,hir2,hi2⟩:=Kw hb { w with drawn:=w.drawn+1 }
 have hnc:=nextslicecap_le hgt
 have hroom:¬ Builtin.nextslicecap (len+m) c' * i.bytes > 2 ^ 48:=by
  rcases b1 with b1 | ⟨_,b1⟩
  ·have:Builtin.nextslicecap (len+m) c' * i.bytes≤4198400 * 1048576:=Nat.mul_le_mul (by omega) (by omega)
   omega
  ·have h4:=Nat.mul_le_mul_right i.bytes (nextslicecap_le2 hgt)
   rw[Nat.add_mul,Nat.mul_assoc,Nat.mul_assoc] at h4
   generalize Builtin.nextslicecap (len+m) c' * i.bytes=X at h4 ⊢
   generalize (len+m) * i.bytes=Y at h4 b1
   omega
 have hmax:¬ (((len+m:Nat):Int) > IntKind.i64.max):=by
  have:IntKind.i64.max=9223372036854775807:=by decide
  rw[this]
  rcases b1 with b1 | ⟨b0,b1⟩
  ·omega
  ·have:(len+m) * 1≤(len+m) * i.bytes:=Nat.mul_le_mul_left _ b0
   omega
 have hne:¬ len+m≤c':=by omega
 subst hy
 refine⟨(Question.appendCap (len+m) c' e).cut (w.tape w.drawn (.appendCap (len+m) c' e)),repl ((Question.appendCap (len+m) c' e).cut (w.tape w.drawn (.appendCap (len+m) c' e))-(len+m)) (aZ z),?_,?_,?_⟩
 ·simp [Question.cut]
 ·rw[repl_length,hzl]
 ·have hzc:∀ k,Builtin.zeroCells z.cells k=⟨repl k (aZ z)⟩:=by
   intro k; rw[jQ]; exact yZ z.cells k
  have hzr:=(pJ hz { w with drawn:=w.drawn+1 }).1
  simp only[Builtin.append_,List.getElem?_toArray,List.getElem?_cons_zero,List.getElem?_cons_succ,Sem.run_bind,dV hel,dV h2,Result.andThen_ok,mK hs,Sem.run_pure,
   Builtin.lenOf,Bool.false_eq_true,if_false,Sem.run_ite,if_neg hne]
  have hnot:¬ (((len+m:Nat):Int) > IntKind.i64.max∧(False∨i.bytes=0)):=fun x=>hmax x.1
  have hf:(Question.appendCap (len+m) c' e).forced=false:=rfl
  simp only[hir,Result.andThen_ok,if_neg hnot,if_neg hroom,run_choose,hf,Bool.false_eq_true,if_false,hir2,run_askRoom,hold,Bool.not_false,if_true,hnew,hzr,hzc,newRow,Sem.run_bind,run_newObj,Sem.run_pure]
  simp
theorem append_ok(h:I w₀ W φ st.H st.n w){t t2 ty:TypeId}{x y x' y' v:Value}(hx:VR φ x x')(hy:VR φ y y')(e:iz P st t t2 x y=some (v,st')) :
  Done P (nY (Builtin.append_ #[t,t2] ty #[x',y'])) w₀ W φ w st v st':=by
 unfold iz at e
 split at e
 case h_2=>cases e
 rename_i el el2 hel hel2
 split at e
 case h_2=>cases e
 rename_i s b z hs hb hz
 split at e
 case h_2=>cases e
 rename_i new m hsrc hzl
 have hzl:=Nat.eq_of_beq_eq_true hzl
 have hund:=qk hel
 have hund2:=qk hel2
 obtain⟨new',hn1,⟨by',cy,hyv⟩,hnl,hn2⟩:=src_ok (P:=P) h hy hsrc
 obtain⟨new2,hm1,_,hml,hm2⟩:=src_ok (P:=P) (h.drew (w.drawn+1)) hy hsrc
 have hlenN:new.length=m * s:=by rw[← hn1.length,hnl]
 split at e
 ·
  have:=hx.slice_none; subst this
  cases m with
  | zero=>
   simp only[Option.some.injEq,Prod.mk.injEq] at e
   obtain⟨rfl,rfl⟩:=e
   refine Done.val h (v':=.slice none 0 0) ?_ (by simp only[VR])
   subst hyv
   simp [Builtin.append_,dV hund,dV hund2,mK hs,Builtin.lenOf,hn2]
  | succ k=>
   simp only at e
   split at e
   case h_2=>cases e
   rename_i big
   simp only[TW,Option.some.injEq,Prod.mk.injEq] at e
   obtain⟨rfl,rfl⟩:=e
   obtain⟨nc,rest,hnc,hrl,hrun⟩:=append_grow (w:=w) (ty:=ty) (base:=none) (len:=0) (m:=k+1) (c':=0) (old':=[]) hund hund2 hs hb hz hzl (by simpa using big) (by omega) hyv
    (by simp [Builtin.firstCells]) hm2
   have e0:(0:Nat)+(k+1)=k+1:=by omega
   rw[e0] at hrun hnc hrl
   refine Done.row (w1:={ w with drawn:=w.drawn+1 }) (c':=[]++new2++rest) (cp:=nc) (h.drew _) ?_ ?_ hrun ?_
   ·unfold Pre
    rw[hlenN]
    have:([]++new2++rest).take ((k+1) * s)=new2:=by rw[List.nil_append,← hml]; simp
    rw[this]; exact hm1
   ·intro s' hs'
    cases hs'
    simp only[List.nil_append,List.length_append,hml,hrl]
    rw[← Nat.add_mul]; congr 1; omega
   ·simp only[VR]
    exact⟨_,_,rfl,⟨⟨nc,gj _ _ _⟩,rfl,rfl⟩,.inr (.inl ⟨rfl,rfl,rfl,hnc,_,gj _ _ _⟩)⟩
 ·rename_i ad len cap
  split at e
  case h_2=>cases e
  rename_i old hold hsp big
  obtain⟨ad',c',rfl,har,hcr⟩:=VR.slice_inv hx
  obtain⟨old',ho1,ho2⟩:=Uj (P:=P) h har hold
  obtain⟨old2,hp1,hp2⟩:=Uj (P:=P) (h.drew (w.drawn+1)) har hold
  have hol:old.length=len * s:=by
   unfold qX at hold
   split at hold
   ·cases hold
   ·split at hold
    ·exact(Dj hold).2
    ·split at hold
     ·rename_i hl
      split at hold
      ·cases hold; exact(Dj hl).2
      ·cases hold
     ·cases hold
    ·cases hold
  have grow:∀ {H':Hp},I w₀ W φ H' st.n w→c'<len+m→some (TW st H' (len+m) s (old++new) el)=some (v,st') →
    Done P (nY (Builtin.append_ #[t,t2] ty #[.slice (some ad') len c',y'])) w₀ W φ w st v st':=by
   intro H' hI hlt e
   simp only[TW,Option.some.injEq,Prod.mk.injEq] at e
   obtain⟨rfl,rfl⟩:=e
   obtain⟨nc,rest,hnc,hrl,hrun⟩:=append_grow (w:=w) (ty:=ty) (base:=some ad') (len:=len) (m:=m) (c':=c') (old':=old2) hund hund2 hs hb hz hzl big hlt hyv
    (by simpa [Builtin.firstCells] using hp2) hm2
   have hcat:=hp1.append hm1
   have:=Done.row (st:={ st with H:=H' }) (w1:={ w with drawn:=w.drawn+1 }) (P:=P) (w:=w) (c:=old++new) (c':=old2++new2++rest) (cp:=nc) (vec:=some s) (e:=el) (hI.drew _) ?_ ?_ hrun
    (v:=.slice (some ⟨st.n,0,none⟩) (len+m) capV) ?_
   ·exact this
   ·unfold Pre
    have:(old2++new2++rest).take (old++new).length=old2++new2:=List.take_left' hcat.length
    rw[this]; exact hcat
   ·intro s' hs'
    cases hs'
    have l1:old2.length=len * s:=by rw[hp1.length,hol]
    simp only[List.length_append,l1,hml,hrl]
    rw[← Nat.add_mul,← Nat.add_mul]; congr 1; omega
   ·simp only[VR]
    exact⟨_,_,rfl,⟨⟨nc,gj _ _ _⟩,rfl,rfl⟩,.inr (.inl ⟨rfl,rfl,rfl,hnc,_,gj _ _ _⟩)⟩
  have place:len+m≤c'→∀ {w':World},(storeCells (ad'.add (len * s)) new').run P w=.ok () w' →
    (Builtin.append_ #[t,t2] ty #[.slice (some ad') len c',y']).run P w=.ok (.slice (some ad') (len+m) c') w':=by
   intro hle w' hst
   subst hyv
   simp [Builtin.append_,dV hund,dV hund2,mK hs,Builtin.lenOf,hle,hn2,hst]
  unfold tY at e
  split at e
  ·rename_i hcap
   have hcap:cap<capV:=by simpa using hcap
   have hc':c'=cap:=by
    rcases hcr with⟨_,q⟩ | ⟨q,_⟩ | ⟨q,_⟩
    ·exact q
    ·omega
    ·unfold capV capR at *; omega
   subst hc'
   split at e
   ·rename_i hle
    have hle:len+m≤c':=Nat.le_of_ble_eq_true hle
    split at e
    ·rename_i H' hH'
     simp only[Option.some.injEq,Prod.mk.injEq] at e
     obtain⟨rfl,rfl⟩:=e
     obtain⟨w',s1,s2⟩:=Wk (P:=P) h (har.add hsp (len * s)) hn1 hH'
     refine⟨φ,_,w',.inl (ow (place hle s1)),Ext.refl _ _,s2,?_,rfl,rfl⟩
     simp only[VR]
     exact⟨_,_,rfl,har,.inl ⟨hcap,rfl⟩⟩
    ·cases e
   ·rename_i hle
    have hle:¬ len+m≤c':=fun x=>by rw[Nat.ble_eq_true_of_le x] at hle; cases hle
    exact grow h (by omega) e
  ·split at e
   case h_2=>cases e
   rename_i cells e' s' hbeq hbl
   have hcv:=Nat.eq_of_beq_eq_true hbeq
   split at e
   case h_2=>cases e
   rename_i hconds
   simp only[Bool.and_eq_true] at hconds
   obtain⟨⟨he',hs'⟩,hleaf⟩:=hconds
   have he':=Nat.eq_of_beq_eq_true he'
   have hs':=Nat.eq_of_beq_eq_true hs'
   subst he' hs'
   by_cases hle:len+m≤c'
   ·
    obtain⟨q1,q2,q3,q4,bb,q5⟩:cap=capV∧ad.off=0∧ad.spot=none∧len≤c'∧∃ b,φ ad.block=some (b,c'):=by
     rcases hcr with⟨q,_⟩ | q | ⟨q,_⟩
     ·omega
     ·exact q
     ·unfold capV capR at *; omega
    simp only[TW,Option.some.injEq,Prod.mk.injEq] at e
    obtain⟨rfl,rfl⟩:=e
    obtain⟨p,arr,fr,f,g,fr0,k,sz⟩:=row_of h hbl
    rw[q5] at f; cases f
    obtain⟨⟨cc,r1⟩,r2,r3⟩:=har
    rw[q5] at r1
    have hbb:bb=ad'.block:=by injection r1 with r1; injection r1
    subst hbb
    have hszA:=sz s' rfl
    simp only at hszA g
    have fr00:=fr0 rfl
    subst fr00
    have had':ad'=⟨ad'.block,0,none⟩:=by rw[ov (r3.trans hsp)]; simp [r2,q2]
    have hroom:len * s'+new'.length≤arr.size:=by
     rw[hnl,hszA,← Nat.add_mul]; exact Nat.mul_le_mul_right _ hle
    have hrun:=run_storeCells_at (P:=P) ad'.block (len * s') e' new' 0 arr w g (by omega) (hn1.leaf hleaf)
    have hadd:ad'.add (len * s')=⟨ad'.block,len * s',none⟩:=by rw[had',Cz]; simp
    rw[← hadd] at hrun
    refine⟨ext φ st.n (ad'.block,c'),_,_,.inl (ow (place hle hrun)),h.ext_push _,?_,?_,rfl,rfl⟩
    ·rw[setRow_eq w _ _ _ _ _ g]
     have hput:=h.put hbl q5 rfl (b':=.cells (old++new) e' false (some s')) (o':=.cells ⟨List.take (len * s'+0) arr.toList++new'++List.drop (len * s'+0+new'.length) arr.toList⟩ e' (0,0)) ⟨_,_,rfl,fun _=>rfl,?_,?_⟩
     ·have hren:=hput.rename (i:=ad.block) (b:=.cells (old++new) e' false (some s')) (by rw[Tr.get_set,if_pos rfl]) q5
      refine hren.congr ?_
      intro i
      simp only[vy,Tr.get_set]
      by_cases h1:i=st.n
      ·simp only[if_pos h1]
      ·by_cases h2:i=ad.block
       ·simp only[if_neg h1,if_pos h2]
       ·simp only[if_neg h1,if_neg h2]
     ·have e0:old=(cells.drop 0).take (len * s'):=by
       unfold qX at hold
       split at hold
       ·cases hold
       ·rw[hbl] at hold
        simp only at hold
        have:=(Dj hold).1
        rw[q2] at this; exact this
      have hpre:=k.take (len * s')
      have e1:VRL φ old (arr.toList.take (len * s')):=by
       rw[e0]; simp only[List.drop_zero]
       have:(List.take cells.length arr.toList).take (len * s')=arr.toList.take (len * s'):=by
        rw[List.take_take]
        congr 1
        have:old.length≤cells.length:=by rw[e0]; simp; omega
        omega
       rw[← this]; exact hpre
      have hcat:=e1.append hn1
      unfold Pre
      have:(List.take (len * s'+0) arr.toList++new'++List.drop (len * s'+0+new'.length) arr.toList).take (old++new).length=arr.toList.take (len * s')++new':=
       List.take_left' hcat.length
      rw[this]; exact hcat
     ·intro s2 hs2
      cases hs2
      simp only[List.size_toArray,List.length_append,List.length_take,List.length_drop,Array.length_toList]
      rw[← hszA]; omega
    ·simp only[VR]
     refine⟨_,_,rfl,⟨⟨c',gj _ _ _⟩,r2.trans q2,r3.trans q3⟩,.inr (.inl ⟨rfl,rfl,rfl,hle,_,gj _ _ _⟩)⟩
   ·exact grow (h.kill _) (by omega) e
 ·cases e
end Go.Ev
end
section
namespace Go.Ev
open Go
variable {P:Program} {w₀:World} {W:Sets} {φ:Phi} {st st':St} {w:World} {a:Act} {H:Hp} {n:Nat}
section
variable (h:I w₀ W φ st.H st.n w) (ht:TR φ st.T a.tmps)
include h ht
theorem len_ok{c:Call}{type:TypeId}{v:Value}(e:oLen P c st=some (v,st')) :
  Done P (nY (Builtin.len_ c.argTypes type (c.args.map a.eval))) w₀ W φ w st v st':=by
 unfold oLen at e
 split at e
 ·rename_i x t r ha ht'
  split at e
  ·rename_i u hu
   refine Done.keep h e fun v hv=>?_
   have hur:=dz ht hu
   have e1:(c.args.map a.eval)[0]?=some (a.eval x):=by
    have:c.args=⟨[x]⟩:=by rw[← ha]
    rw[this]; simp
   have e2:c.argTypes[0]?=some t:=by
    have:c.argTypes=⟨t::r⟩:=by rw[← ht']
    rw[this]; simp
   unfold lenV at hv
   split at hv
   ·rename_i k el hund
    cases hv
    refine⟨goInt k,?_,by simp only[goInt,VR]⟩
    simp only[Builtin.len_,e1,e2,Sem.run_bind,dV hund,Result.andThen_ok]
    cases hx:a.eval x <;> rfl
   ·rename_i el ad k cp hund
    cases hv
    cases ad with
    | none=>
     have:=hur.slice_none
     refine⟨goInt k,?_,by simp only[goInt,VR]⟩
     simp only[Builtin.len_,e1,e2,Sem.run_bind,dV hund,Result.andThen_ok,this]
     rfl
    | some ad=>
     obtain⟨ad',c',e3,_⟩:=VR.slice_inv hur
     refine⟨goInt k,?_,by simp only[goInt,VR]⟩
     simp only[Builtin.len_,e1,e2,Sem.run_bind,dV hund,Result.andThen_ok,e3]
     rfl
   ·rename_i s hund
    cases hv
    simp only[VR] at hur
    refine⟨goInt s.size,?_,by simp only[goInt,VR]⟩
    simp only[Builtin.len_,e1,e2,Sem.run_bind,dV hund,Result.andThen_ok,hur]
    rfl
   ·cases hv
  ·cases e
 ·cases e
theorem append_op_ok{c:Call}{type:TypeId}{v:Value}(e:qcw P c st=some (v,st')) :
  Done P (nY (Builtin.append_ c.argTypes type (c.args.map a.eval))) w₀ W φ w st v st':=by
 unfold qcw at e
 split at e
 ·rename_i x y t t2 ha ht'
  split at e
  ·rename_i u u2 hu hu2
   have e1:c.args.map a.eval=#[a.eval x,a.eval y]:=by
    have:c.args=⟨[x,y]⟩:=by rw[← ha]
    rw[this]; simp
   have e2:c.argTypes=#[t,t2]:=by
    have:c.argTypes=⟨[t,t2]⟩:=by rw[← ht']
    rw[this]
   rw[e1,e2]
   exact append_ok h (dz ht hu) (dz ht hu2) e
  ·cases e
 ·cases e
theorem copy_ok{c:Call}{type:TypeId}{v:Value}(e:oCopy P c st=some (v,st')) :
  Done P (nY (Builtin.copy_ c.argTypes type (c.args.map a.eval))) w₀ W φ w st v st':=by
 unfold oCopy at e
 split at e
 ·rename_i x y t r ha ht'
  split at e
  ·rename_i u u2 hu hu2
   have e1:c.args.map a.eval=#[a.eval x,a.eval y]:=by
    have:c.args=⟨[x,y]⟩:=by rw[← ha]
    rw[this]; simp
   have e2:c.argTypes[0]?=some t:=by
    have:c.argTypes=⟨t::r⟩:=by rw[← ht']
    rw[this]; simp
   rw[e1]
   have hx:=dz ht hu
   have hy:=dz ht hu2
   generalize a.eval x=x' at *
   generalize a.eval y=y' at *
   unfold TX at e
   split at e
   ·rename_i el hel
    have hund:=qk hel
    split at e
    ·rename_i s hs
     split at e
     ·rename_i ad dl dc bd sl sc
      split at e
      ·rename_i l hl
       split at e
       ·rename_i H' hH
        simp only[Option.some.injEq,Prod.mk.injEq] at e
        obtain⟨rfl,rfl⟩:=e
        obtain⟨ad',c1,rfl,har,_⟩:=VR.slice_inv hx
        obtain⟨bd',c2,rfl,hbr,_⟩:=VR.slice_inv hy
        obtain⟨l',l1,l2⟩:=Uj (P:=P) h hbr hl
        obtain⟨w',s1,s2⟩:=Wk (P:=P) h har l1 hH
        refine⟨φ,goInt (Nat.min sl dl),w',.inl (ow ?_),Ext.refl _ _,s2,by simp only[goInt,VR],rfl,rfl⟩
        simp only[Builtin.copy_,e2,List.getElem?_toArray,List.getElem?_cons_zero,List.getElem?_cons_succ,Sem.run_bind,dV hund,Result.andThen_ok,mK hs,Builtin.lenOf,Sem.run_pure,Builtin.firstCells,l2]
        simp only[s1,Result.andThen_ok]
       ·cases e
      ·cases e
     ·cases e
    ·cases e
   ·cases e
  ·cases e
 ·cases e
theorem minmax_ok{b:Builtin}{c:Call}{type:TypeId}{v:Value}(e:Py P b c type st=some (v,st')) :
  Done P (builtin b c.argTypes type (c.args.map fun | .const _=>true | _=>false) (c.args.map a.eval)) w₀ W φ w st v st':=by
 unfold Py at e
 split at e
 ·rename_i vs hvs
  split at e
  ·rename_i hp
   split at e
   ·rename_i u hu
    split at e
    ·rename_i hpu
     simp only[Option.some.injEq,Prod.mk.injEq] at e
     obtain⟨rfl,rfl⟩:=e
     have hl:=ck.eq hp (Pz ht hvs)
     have e1:c.args.map a.eval=⟨vs⟩:=by
      apply Array.ext'; simpa using hl
     rw[e1]
     exact Done.same h (yx hu w) (bw.refl hpu)
    ·cases e
   ·cases e
  ·cases e
 ·cases e
omit h ht in
theorem PQ{t key elem:TypeId}(e:TY P t=some (key,elem)):P.underlying t=some (.map key elem):=by
 unfold TY at e
 split at e
 ·rename_i k el hu; cases e; exact hu
 ·cases e
omit h ht in
theorem pureO_ok{m:Sem Value}{v:Value}(e:pureO P m=some v)(w:World):m.run P w=.ok v w∧bw v=true:=by
 unfold pureO at e
 split at e
 ·rename_i u hu
  split at e
  ·rename_i hp; cases e; exact⟨yx hu w,hp⟩
  ·cases e
 ·cases e
omit h ht in
theorem Ky{r:Nat}{es:Array MapEntry}{c:Nat}(hb:w.heap[r]?=some (.map es c)):(getObj r).run P w=.ok (.map es c) w:=by
 simp [getObj,Sem.run,hb]
omit h ht in
theorem EX{r:Nat}{es:Array MapEntry}{c:Nat}(o:Obj)(hb:w.heap[r]?=some (.map es c)) :
  (setObj r o).run P w=.ok () { w with heap:=w.heap.setIfInBounds r o }:=by
 simp [setObj,Sem.run,hb]
omit h ht in
theorem BK{α β:Type}{r:Result α}{f g:α→World→Result β}(e:∀ a w,f a w=g a w):r.andThen f=r.andThen g:=by
 have:f=g:=by funext a w; exact e a w
 rw[this]
omit h ht in
theorem lookS_run{key elem:TypeId}{es:List MapEntry}{x:Value}{ok:Bool}{t:TypeId}{m:Value}(hu:P.underlying t=some (.map key elem))
  (hm:m=.map none∧es=[]∨∃ r c,m=.map (some r)∧w.heap[r]?=some (.map ⟨es⟩ c)) :
  (Instr.lookup t m x ok).run P w=(lookS key elem es x ok).run P w:=by
 rcases hm with⟨rfl,rfl⟩ | ⟨r,c,rfl,hb⟩
 ·simp only[Instr.lookup,lookS,Sem.run_bind,dV hu,Result.andThen_ok,Sem.run_pure]
  refine BK fun _ w1=>BK fun o w2=>?_
  cases o with
  | none=>simp only[Sem.run_bind,Sem.run_pure,Result.andThen_ok]
  | some q=>simp only[Sem.run_bind,Sem.run_pure,Result.andThen_ok]
 ·simp only[Instr.lookup,lookS,Sem.run_bind,dV hu,Result.andThen_ok,Sem.run_pure,Ky hb]
  refine BK fun _ w1=>BK fun o w2=>?_
  cases o with
  | none=>simp only[Sem.run_bind,Sem.run_pure,Result.andThen_ok]
  | some q=>simp only[Sem.run_bind,Sem.run_pure,Result.andThen_ok]
omit ht in
theorem mapOf_ok{m m':Value}{es:List MapEntry}(hm:VR φ m m')(e:ZK st.H m=some es) :
  m'=.map none∧es=[]∨∃ r c,m'=.map (some r)∧w.heap[r]?=some (.map ⟨es⟩ c):=by
 unfold ZK at e
 split at e
 ·cases e; simp only[VR] at hm; exact .inl ⟨hm,rfl⟩
 ·rename_i r
  simp only[VR] at hm
  obtain⟨r',c',rfl,hp⟩:=hm
  split at e
  ·rename_i es' c hg
   cases e
   obtain⟨p,o,a,b,d⟩:=h.rel _ _ hg
   rw[hp] at a; cases a
   simp only[BR] at d
   subst d
   exact .inr ⟨r',c,rfl,b⟩
  ·cases e
 ·cases e
omit h ht in
theorem flatFs_check{xs:List Value}(em:Bool)(d:Nat):∀ {fs:List Field} {i:Nat},Az P fs i=true→i+fs.length≤xs.length →
  (forIn (m:=Sem) fs PUnit.unit fun f _=>do
   if f.name ≠ "_" then do
    Instr.checkKey em (d+1) f.type (← part f.type ⟨xs⟩ f.offset)
    pure (ForInStep.yield PUnit.unit)
   else pure (ForInStep.yield PUnit.unit)).run P w=.ok PUnit.unit w
 | [],i,_,_=>by simp
 | f::fs,i,hf,hl=>by
  simp only[Az] at hf
  split at hf
  ·rename_i k hn hu ha
   simp only[Bool.and_eq_true,bne_iff_ne,ne_eq,Nat.beq_eq] at hn
   obtain⟨hn,rfl⟩:=hn
   simp only[List.length_cons] at hl
   have hlt:f.offset<xs.length:=by omega
   have px:(part f.type ⟨xs⟩ f.offset).run P w=.ok xs[f.offset] w:=by simp [part,rk ha,hlt]
   have hc:(Instr.checkKey em (d+1) f.type xs[f.offset]).run P w=.ok () w:=by
    unfold Instr.checkKey
    simp only[Sem.run_bind,dV hu,Result.andThen_ok]
    rfl
   have ih:=flatFs_check (xs:=xs) em d hf (by omega)
   simp only[List.forIn_cons,Sem.run_bind,hn,ne_eq,not_false_eq_true,if_true,px,hc,Result.andThen_ok,Sem.run_pure]
   exact ih
  ·cases hf
omit h ht in
theorem quickFind_eq{k:TypeId}{fs:Array Field}{x:List Value}(hu:P.underlying k=some (.struct fs))(hp:P.stoodInHeld k=false)(hf:Az P fs.toList 0=true)(hl:fs.toList.length=x.length) :
  ∀ {es:List MapEntry} {i:Nat} {r:Option (Nat × Value)},oq x es i=some r→(Instr.findAsking k (.agg ⟨x⟩) es i).run P w=.ok r w
 | [],i,r,e=>by simp [oq] at e; simp [Instr.findAsking,← e]
 | e0::es,i,r,e=>by
  have hfo:P.fieldsOf k=fs:=by simp [Program.fieldsOf,hu]
  simp only[oq] at e
  split at e
  ·rename_i l hk
   have run:∀ {b:Bool},nW x l=some b→(Op.equal k (.agg ⟨x⟩) e0.key).run P w=.ok b w:=by
    intro b hb
    rw[hk,Op.equal,show Op.maxDepth=9998+1+1 from rfl,run_equalIn_struct w (9998+1) k _ _ (by rw[hfo]; exact hu) hp,hfo]
    exact WJ 9998 hf rfl rfl hl hb
   split at e
   ·rename_i hb
    cases e
    simp [Instr.findAsking,run hb]
   ·rename_i hb
    simp [Instr.findAsking,run hb,quickFind_eq hu hp hf hl e]
   ·cases e
  ·cases e
omit h ht in
theorem quickLook_eq{k:TypeId}{es:List MapEntry}{x:Value}{r:Option (Nat × Value)}(e:Px P k es x=some r)(em:Bool) :
  (Instr.checkKey em 10000 k x).run P w=.ok () w∧(Instr.findKey k x es).run P w=.ok r w:=by
 unfold Px at e
 split at e
 ·rename_i l
  split at e
  ·rename_i n hn
   obtain⟨fs,hu,hp,hf,hl⟩:=Uw hn
   split at e
   ·rename_i hb
    have hb:=Nat.eq_of_beq_eq_true hb
    constructor
    ·rw[show(10000:Nat)=9998+1+1 from rfl,Instr.checkKey]
     simp only[Sem.run_bind,dV hu,Result.andThen_ok]
     rw[← Array.forIn_toList]
     have:=flatFs_check (w:=w) (xs:=l) em 9998 hf (by omega)
     rw[this]
     rfl
    ·rw[run_findKey_eq w (by rw[hu])]
     exact quickFind_eq hu hp hf (by omega) e
   ·cases e
  ·cases e
 ·cases e
omit h ht in
theorem lookupQ_ok{key elem:TypeId}{es:List MapEntry}{x v:Value}{ok:Bool}(e:qcx P key elem es x ok=some v):(lookS key elem es x ok).run P w=.ok v w∧bw v=true:=by
 unfold qcx at e
 split at e
 ·rename_i r hr
  obtain⟨h1,h2⟩:=quickLook_eq (w:=w) hr (Array.isEmpty ⟨es⟩)
  simp only[lookS,Sem.run_bind,h1,h2,Result.andThen_ok]
  unfold TZ at e
  split at e
  ·rename_i v'
   split at e
   ·rename_i hp
    cases e
    simp only[Sem.run_pure,true_and]
    cases ok
    ·exact hp
    ·simp [bw,ox,ck,hp]
   ·cases e
  ·split at e
   ·rename_i z hz
    obtain⟨hz1,hz2⟩:=pJ hz w
    cases e
    simp only[Sem.run_bind,hz1,Result.andThen_ok,Sem.run_pure,true_and]
    cases ok
    ·exact hz2
    ·simp [bw,ox,ck,hz2]
   ·cases e
 ·exact pureO_ok e w
omit ht in
theorem lookupV_run{t:TypeId}{m x m' x' v:Value}{ok:Bool}(hm:VR φ m m')(hk:VR φ x x')(hv:lk P st.H t m x ok=some v) :
  (Instr.lookup t m' x' ok).run P w=.ok v w∧VR φ v v:=by
 unfold lk at hv
 split at hv
 ·rename_i key elem hty
  split at hv
  ·rename_i es hes hpk
   obtain⟨h1,h2⟩:=lookupQ_ok (w:=w) hv
   rw[bw.eq hpk hk,lookS_run (PQ hty) (mapOf_ok h hm hes)]
   exact⟨h1,bw.refl h2⟩
  ·cases hv
 ·cases hv
theorem lookup_ok{t:TypeId}{x y:Operand}{ok:Bool}{v:Value}(e:qcj P t x y ok st=some (v,st')) :
  Done P (nY (Instr.lookup t (a.eval x) (a.eval y) ok)) w₀ W φ w st v st':=by
 unfold qcj at e
 split at e
 ·rename_i m k hx hy
  have hm:=dz ht hx
  have hk:=dz ht hy
  refine Done.keep h e fun v hv=>?_
  unfold lk at hv
  split at hv
  ·rename_i key elem hty
   split at hv
   ·rename_i es hes hpk
    obtain⟨h1,h2⟩:=lookupQ_ok (w:=w) hv
    rw[bw.eq hpk hk,lookS_run (PQ hty) (mapOf_ok h hm hes)]
    exact⟨v,h1,bw.refl h2⟩
   ·cases hv
  ·cases hv
 ·cases e
omit ht in
theorem makeMap_ok{t:TypeId}{v:Value}(e:qhq st=some (v,st')):Done P (nY (Instr.makeMap t none)) w₀ W φ w st v st':=by
 unfold qhq at e
 simp only[Option.some.injEq,Prod.mk.injEq] at e
 obtain⟨rfl,rfl⟩:=e
 refine⟨_,.map (some w.heap.size),{ w with heap:=w.heap.push (.map #[] 0) },.inl (ow ?_),h.ext_push (w.heap.size,0),h.push (b:=.map [] 0) rfl,?_,rfl,rfl⟩
 ·simp only[Instr.makeMap,newObj,Sem.run_bind,Sem.run,Result.andThen_ok,Sem.run_pure]
 ·simp only[VR]; exact⟨_,0,rfl,gj _ _ _⟩
omit h ht in
theorem updS_run{key elem:TypeId}{es es':List MapEntry}{c c':Nat}{x v:Value}{t:TypeId}{r:Nat}(hu:P.underlying t=some (.map key elem))
  (hb:w.heap[r]?=some (.map ⟨es⟩ c)) (e:cY P (updS key es c x v)=some (es',c')) :
  (Instr.mapUpdate t (.map (some r)) x v).run P w=.ok () { w with heap:=w.heap.setIfInBounds r (.map ⟨es'⟩ c') }:=by
 have h1:=yx e w
 simp only[updS,Sem.run_bind] at h1
 simp only[Instr.mapUpdate,Sem.run_bind,dV hu,Result.andThen_ok,Ky hb]
 generalize (Instr.checkKey false 10000 key x).run P w=q1 at h1 ⊢
 cases q1 with
 | ok _ w1=>
  simp only[Result.andThen_ok] at h1 ⊢
  generalize (Instr.findKey key x es).run P w1=q2 at h1 ⊢
  cases q2 with
  | ok o w2=>
   simp only[Result.andThen_ok] at h1 ⊢
   cases o with
   | none=>
    simp only[Sem.run_pure,Result.ok.injEq,Prod.mk.injEq] at h1
    obtain⟨⟨rfl,rfl⟩,rfl⟩:=h1
    simpa using EX (P:=P) (.map ⟨es++[{ key:=x,val:=v,born:=c }]⟩ (c+1)) hb
   | some iv=>
    obtain⟨i,u⟩:=iv
    simp only[Sem.run_bind] at h1 ⊢
    simp only[List.getElem?_toArray] at h1 ⊢
    generalize (Instr.keyThatStays ((Option.map (fun x=>x.key) es[i]?).getD x) x).run P w2=q3 at h1 ⊢
    cases q3 with
    | ok k w3=>
     simp only[Result.andThen_ok,Sem.run_pure,Result.ok.injEq,Prod.mk.injEq] at h1 ⊢
     obtain⟨⟨rfl,rfl⟩,rfl⟩:=h1
     simpa [modE] using EX (P:=P) (.map ⟨modE es i k v⟩ c) hb
    | _=>cases h1
  | _=>cases h1
 | _=>cases h1
omit h ht in
theorem entS_run{key elem:TypeId}{es es':List MapEntry}{c c':Nat}{x v:Value}{t:TypeId}{r:Nat}(hu:P.underlying t=some (.map key elem))
  (hb:w.heap[r]?=some (.map ⟨es⟩ c)) (e:cY P (entS key elem es c x)=some (v,es',c')) :
  (Instr.mapEntry t (.map (some r)) x).run P w=.ok v { w with heap:=w.heap.setIfInBounds r (.map ⟨es'⟩ c') }:=by
 have h1:=yx e w
 simp only[entS,Sem.run_bind] at h1
 simp only[Instr.mapEntry,Sem.run_bind,dV hu,Result.andThen_ok,Ky hb]
 generalize (Instr.checkKey false 10000 key x).run P w=q1 at h1 ⊢
 cases q1 with
 | ok _ w1=>
  simp only[Result.andThen_ok] at h1 ⊢
  generalize (Instr.findKey key x es).run P w1=q2 at h1 ⊢
  cases q2 with
  | ok o w2=>
   simp only[Result.andThen_ok] at h1 ⊢
   cases o with
   | none=>
    simp only[Sem.run_bind] at h1 ⊢
    generalize (zeroValue elem).run P w2=q3 at h1 ⊢
    cases q3 with
    | ok z w3=>
     simp only[Result.andThen_ok,Sem.run_pure,Result.ok.injEq,Prod.mk.injEq] at h1 ⊢
     obtain⟨⟨rfl,rfl,rfl⟩,rfl⟩:=h1
     have:=EX (P:=P) (.map ⟨es++[{ key:=x,val:=z,born:=c }]⟩ (c+1)) hb
     simp only[List.push_toArray,this,Result.andThen_ok]
    | _=>cases h1
   | some iv=>
    obtain⟨i,u⟩:=iv
    simp only[Sem.run_bind] at h1 ⊢
    simp only[List.getElem?_toArray] at h1 ⊢
    generalize (Instr.keyThatStays ((Option.map (fun x=>x.key) es[i]?).getD x) x).run P w2=q3 at h1 ⊢
    cases q3 with
    | ok k w3=>
     simp only[Result.andThen_ok,Sem.run_pure,Result.ok.injEq,Prod.mk.injEq] at h1 ⊢
     obtain⟨⟨rfl,rfl,rfl⟩,rfl⟩:=h1
     have:=EX (P:=P) (.map ⟨es.modify i fun e=>{ key:=k,val:=e.val,born:=e.born }⟩ c) hb
     simp only[List.modify_toArray,this,Result.andThen_ok]
    | _=>cases h1
  | _=>cases h1
 | _=>cases h1
omit ht in
theorem map_at{m':Value}{r:Nat}{es:List MapEntry}{c:Nat}(hm:VR φ (.map (some r)) m')(hg:st.H.get r=some (.map es c)) :
  ∃ r' cp,m'=.map (some r')∧φ r=some (r',cp)∧w.heap[r']?=some (.map ⟨es⟩ c):=by
 simp only[VR] at hm
 obtain⟨r',c',rfl,hp⟩:=hm
 obtain⟨p,o,a,b,d⟩:=h.rel _ _ hg
 rw[hp] at a; cases a
 simp only[BR] at d
 subst d
 exact⟨r',c',rfl,hp,b⟩
omit h ht in
theorem withH_inv{o:Option Hp}{v:Value}(e:withH o st=some (v,st')):∃ H,o=some H∧v=undef∧st'={ st with H }:=by
 cases o with
 | none=>cases e
 | some H=>simp only[withH,Option.some.injEq,Prod.mk.injEq] at e; exact⟨H,rfl,e.1.symm,e.2.symm⟩
theorem mapUpd_ok{t:TypeId}{x y z:Operand}{v:Value}(e:qck P t x y z st=some (v,st')) :
  Done P (unitOf (Instr.mapUpdate t (a.eval x) (a.eval y) (a.eval z))) w₀ W φ w st v st':=by
 unfold qck at e
 split at e
 ·rename_i m k u hx hy hz
  have hm:=dz ht hx
  have hk:=dz ht hy
  have hu:=dz ht hz
  obtain⟨H,hH,rfl,rfl⟩:=withH_inv e
  unfold BZ at hH
  split at hH
  ·rename_i key elem r hty
   split at hH
   ·rename_i es c hg
    split at hH
    ·rename_i hp
     rw[Bool.and_eq_true] at hp
     split at hH
     ·rename_i es' c' hs
      cases hH
      obtain⟨r',cp,h1,h2,h3⟩:=map_at h hm hg
      rw[h1,bw.eq hp.1 hk,bw.eq hp.2 hu]
      exact⟨φ,undef,_,.inr ⟨SV (updS_run (PQ hty) h3 hs),rfl⟩,Ext.refl _ _,h.put (p:=(r',cp)) hg h2 rfl rfl,bw.refl rfl,rfl,rfl⟩
     ·cases hH
    ·cases hH
   ·cases hH
  ·cases hH
 ·cases e
theorem mapEnt_ok{t:TypeId}{x y:Operand}{v:Value}(e:qcv P t x y st=some (v,st')) :
  Done P (nY (Instr.mapEntry t (a.eval x) (a.eval y))) w₀ W φ w st v st':=by
 unfold qcv at e
 split at e
 ·rename_i m k hx hy
  have hm:=dz ht hx
  have hk:=dz ht hy
  split at e
  ·rename_i u H hH
   simp only[Option.some.injEq,Prod.mk.injEq] at e
   obtain⟨rfl,rfl⟩:=e
   unfold Dk at hH
   split at hH
   ·rename_i key elem r hty
    split at hH
    ·rename_i es c hg
     split at hH
     ·rename_i hp
      split at hH
      ·rename_i v' es' c' hs
       split at hH
       ·rename_i hpv
        simp only[Option.some.injEq,Prod.mk.injEq] at hH
        obtain⟨rfl,rfl⟩:=hH
        obtain⟨r',cp,h1,h2,h3⟩:=map_at h hm hg
        rw[h1,bw.eq hp hk]
        exact⟨φ,v',_,.inl (ow (entS_run (PQ hty) h3 hs)),Ext.refl _ _,h.put (p:=(r',cp)) hg h2 rfl rfl,bw.refl hpv,rfl,rfl⟩
       ·cases hH
      ·cases hH
     ·cases hH
    ·cases hH
   ·cases hH
  ·cases e
 ·cases e
theorem entSt_ok{t:TypeId}{x y z:Operand}{v:Value}(e:oEntSt x y z st=some (v,st')) :
  Done P (unitOf (Instr.entryStore t (a.eval x) (a.eval y) (a.eval z))) w₀ W φ w st v st':=by
 unfold oEntSt at e
 split at e
 ·rename_i m k u hx hy hz
  have hm:=dz ht hx
  have hk:=dz ht hy
  have hu:=dz ht hz
  obtain⟨H,hH,rfl,rfl⟩:=withH_inv e
  unfold MV at hH
  split at hH
  ·rename_i r kd b
   split at hH
   ·rename_i es c hg
    split at hH
    ·rename_i hp
     split at hH
     ·rename_i i hi
      cases hH
      obtain⟨r',cp,h1,h2,h3⟩:=map_at h hm hg
      simp only[VR] at hk
      rw[h1,hk,bw.eq hp hu]
      refine⟨φ,undef,_,.inr ⟨SV ?_,rfl⟩,Ext.refl _ _,h.put (p:=(r',cp)) hg h2 rfl rfl,bw.refl rfl,rfl,rfl⟩
      have:=EX (P:=P) (.map ⟨es.modify i fun e=>{ key:=e.key,val:=u,born:=e.born }⟩ c) h3
      simp only[Instr.entryStore,Sem.run_bind,Ky h3,Result.andThen_ok,asInt,asIntOf,Sem.run_pure,List.findIdx?_toArray,hi,List.modify_toArray,this]
     ·cases hH
    ·cases hH
   ·cases hH
  ·cases hH
 ·cases e
theorem aOp_ok(o:Oper){v:Value}(e:aOp P o.op o.type st=some (v,st')):Done P (execOp a.eval o) w₀ W φ w st v st':=by
 obtain⟨dst,op,type,pos,after,guard⟩:=o
 simp only at e
 cases op with
 | move x=>obtain⟨h1,rfl⟩:=Iz e; exact Done.same h rfl (dz ht h1)
 | assign x=>obtain⟨h1,rfl⟩:=Iz e; exact Done.same h rfl (dz ht h1)
 | pick c x y=>exact pick_ok h ht e
 | alloc t=>exact alloc_ok h e
 | box t x=>exact box_ok h ht e
 | build t ps=>exact build_ok h ht e
 | buildSlice t n ps=>exact buildSlice_ok h ht e
 | load t x=>exact load_ok h ht e
 | store t x y=>exact store_ok h ht e
 | nilCheck x=>exact nilCheck_ok h ht _ rfl e
 | binOp op t x y t2=>exact bin_ok h ht e
 | unOp op t x=>exact un_ok h ht e
 | convert s d x=>exact convert_ok h ht e
 | makeFunc f x y=>exact makeFunc_ok h ht e
 | makeSlice t x y=>exact makeSlice_ok h ht e
 | slice t x lo hi mx=>cases mx with
  | none=>exact slice_ok h ht e
  | some m=>simp [aOp] at e
 | fieldAddr t x f=>exact fieldAddr_ok h ht e
 | field t x f=>exact field_ok h ht e
 | indexAddr t x i=>exact indexAddr_ok h ht e
 | index t x i=>exact index_ok h ht e
 | extract x i=>exact extract_ok h ht e
 | call c=>
  simp only[aOp,oCall] at e
  obtain⟨cal,args,tys⟩:=c
  cases cal with
  | value f=>cases e
  | invoke r m=>cases e
  | builtin b=>
   cases b with
   | len=>exact len_ok h ht e
   | append=>exact append_op_ok h ht e
   | copy=>exact copy_ok h ht e
   | min=>exact minmax_ok h ht (b:=.min) e
   | max=>exact minmax_ok h ht (b:=.max) e
   | _=>simp [vK] at e
 | makeMap t r=>cases r with
  | none=>exact makeMap_ok h e
  | some m=>simp [aOp] at e
 | lookup t x y ok=>exact lookup_ok h ht e
 | mapUpdate t x y z=>exact mapUpd_ok h ht e
 | mapEntry t x y=>exact mapEnt_ok h ht e
 | entryStore t x y z=>exact entSt_ok h ht e
 | _=>simp [aOp] at e
end
end Go.Ev
end
section
namespace Go.Ev
open Go
variable {P:Program}
def fr(f:FuncId)(t:Array Value)(k:List Item)(ds:List Deferred)(kd:CallKind)(ro:Option Nat):Frame:=
 { fn:=f,tmps:=t,todo:=k,defers:=ds,mode:=.run,kind:=kd,roundOf:=ro }
theorem fr_eval(f:FuncId)(t:Array Value)(k:List Item)(ds:List Deferred)(kd:CallKind)(ro:Option Nat)(x:Operand) :
  (fr f t k ds kd ro).eval x=(⟨t,[]⟩:Act).eval x:=by cases x <;> rfl
section
variable {f:FuncId} {t:Array Value} {k:List Item} {ds:List Deferred} {kd:CallKind} {ro:Option Nat} {cs:List Frame} {w:World}
theorem st_skip:step P (lone (fr f t (.code .skip::k) ds kd ro) cs w)=.next (lone (fr f t k ds kd ro) cs w):=step_lone_go (by simp [stepG,stepG.exec,fr])
theorem st_label{l:Nat}:step P (lone (fr f t (.code (.label l)::k) ds kd ro) cs w)=.next (lone (fr f t k ds kd ro) cs w):=step_lone_go (by simp [stepG,stepG.exec,fr])
theorem st_inBlock{l:Nat}:step P (lone (fr f t (.inBlock l::k) ds kd ro) cs w)=.next (lone (fr f t k ds kd ro) cs w):=step_lone_go (by simp [stepG,stepG.exec,fr])
theorem st_inScope{c:Code}:step P (lone (fr f t (.inScope c::k) ds kd ro) cs w)=.next (lone (fr f t k ds kd ro) cs w):=step_lone_go (by simp [stepG,stepG.exec,fr])
theorem st_seq{x y:Code}:step P (lone (fr f t (.code (.seq x y)::k) ds kd ro) cs w)=.next (lone (fr f t (.code x::.code y::k) ds kd ro) cs w):=step_lone_go (by simp [stepG,stepG.exec,fr])
theorem Uy{id:Nat}{c:Code}:step P (lone (fr f t (.code (.block id c)::k) ds kd ro) cs w)=.next (lone (fr f t (.code c::.inBlock id::k) ds kd ro) cs w):=step_lone_go (by simp [stepG,stepG.exec,fr])
theorem st_scope{c:Code}:step P (lone (fr f t (.code (.scope c)::k) ds kd ro) cs w)=.next (lone (fr f t (.code c::.inScope c::k) ds kd ro) cs w):=step_lone_go (by simp [stepG,stepG.exec,fr])
theorem PV{c:Code}:step P (lone (fr f t (.code (.loop c)::k) ds kd ro) cs w)=.next (lone (fr f t (.code c::.inLoop c::k) ds kd ro) cs w):=step_lone_go (by simp [stepG,stepG.exec,fr])
theorem st_inLoop{c:Code}:step P (lone (fr f t (.inLoop c::k) ds kd ro) cs w)=.next (lone (fr f t (.code c::.inLoop c::k) ds kd ro) cs w):=step_lone_go (by simp [stepG,stepG.exec,fr])
theorem st_cond{c:Operand}{x y:Code}{b:Bool}(h:(⟨t,[]⟩:Act).eval c=.bool b) :
  step P (lone (fr f t (.code (.cond c x y)::k) ds kd ro) cs w)=.next (lone (fr f t (.code (if b then x else y)::k) ds kd ro) cs w):=
 step_lone_go (by
  have:=fr_eval f t (.code (.cond c x y)::k) ds kd ro c
  simp only[fr] at this
  simp [stepG,stepG.exec,fr,this,h])
theorem st_exit{id:Nat}{k':List Item}(h:exitTo id k=some k') :
  step P (lone (fr f t (.code (.exit id)::k) ds kd ro) cs w)=.next (lone (fr f t k' ds kd ro) cs w):=step_lone_go (by simp [stepG,stepG.exec,fr,h])
theorem st_region{id:Nat}{ops:Array Oper} :
  step P (lone (fr f t (.code (.region id ops false)::k) ds kd ro) cs w)=.next (lone (fr f t (.inRegion ops (List.range ops.size)::k) ds kd ro) cs w):=step_lone_go (by simp [stepG,stepG.exec,fr])
theorem st_region_draw{id:Nat}{ops:Array Oper} :
  step P (lone (fr f t (.code (.region id ops true)::k) ds kd ro) cs w) =
   .next (lone (fr f t (.inRegion ops (Region.schedule (P.follows .mixedOrders) ops (w.tape w.drawn (.order f id)))::k) ds kd ro) cs { w with drawn:=w.drawn+1 }):=
 step_lone_go (by simp [stepG,stepG.exec,fr,choose,Sem.run,Question.forced,Question.cut])
theorem Hk{ops:Array Oper}:step P (lone (fr f t (.inRegion ops []::k) ds kd ro) cs w)=.next (lone (fr f t k ds kd ro) cs w):=step_lone_go (by simp [stepG,stepG.exec,fr])
theorem Ew{ops:Array Oper}{i:Nat}{rest:List Nat}{o:Oper}(ho:ops[i]?=some o)(v:Value) :
  (fr f t (.inRegion ops (i::rest)::k) ds kd ro).finish v=fr f ((⟨t,[]⟩:Act).put o.dst v).tmps (.inRegion ops rest::k) ds kd ro:=by
 simp only[Frame.finish,fr,ho,Option.bind_some,Act.put]
 cases o.dst <;> rfl
theorem WV{ops:Array Oper}{i:Nat}{rest:List Nat}{o:Oper}(ho:ops[i]?=some o)(hw:Region.wanted o (yielded ops t)=true)(hd:∀ c,o.op≠.defer c) :
  stepG P true { frame:=fr f t (.inRegion ops (i::rest)::k) ds kd ro,callers:=cs,status:=.running,dying:=none } w =
   stepG.apply P true (fr f t (.inRegion ops (i::rest)::k) ds kd ro) cs none (execOp (⟨t,[]⟩:Act).eval o) w:=by
 have he:(fr f t (.inRegion ops (i::rest)::k) ds kd ro).eval=(⟨t,[]⟩:Act).eval:=funext (fr_eval f t _ ds kd ro)
 simp only[fr] at *
 simp only[stepG,stepG.exec,ho,Option.map_some,hw,Option.getD_some,if_true,stepG.oper,Frame.oper?,he]
 split
 ·rename_i h1 h2; exact absurd h2 (hd _)
 ·rfl
theorem Ck{ops:Array Oper}{i:Nat}{rest:List Nat}{o:Oper}{v:Value}{w':World}(ho:ops[i]?=some o)(hw:Region.wanted o (yielded ops t)=true)(hd:∀ c,o.op≠.defer c)
  (hr:(execOp (⟨t,[]⟩:Act).eval o).run P w=.ok (.value v) w'∨((execOp (⟨t,[]⟩:Act).eval o).run P w=.ok .skip w'∧v=undef)) :
  step P (lone (fr f t (.inRegion ops (i::rest)::k) ds kd ro) cs w)=.next (lone (fr f ((⟨t,[]⟩:Act).put o.dst v).tmps (.inRegion ops rest::k) ds kd ro) cs w'):=by
 refine step_lone_go ?_
 rw[WV ho hw hd,← Ew ho]
 rcases hr with hr | ⟨hr,rfl⟩ <;> simp [stepG.apply,hr]
theorem st_op_enter{ops:Array Oper}{i:Nat}{rest:List Nat}{o:Oper}{g:FuncId}{args:Array Value}{w':World}(ho:ops[i]?=some o)(hw:Region.wanted o (yielded ops t)=true)(hd:∀ c,o.op≠.defer c)
  (hr:(execOp (⟨t,[]⟩:Act).eval o).run P w=.ok (.enter g args) w') :
  step P (lone (fr f t (.inRegion ops (i::rest)::k) ds kd ro) cs w)=.next (lone (Frame.enter P g args .normal) (fr f t (.inRegion ops (i::rest)::k) ds kd ro::cs) w'):=by
 refine step_lone_go ?_
 rw[WV ho hw hd]
 simp [stepG.apply,hr,fr]
theorem st_op_round{ops:Array Oper}{i:Nat}{rest:List Nat}{o:Oper}{l g:Nat}{tm:Array Value}{as bd:Code}{w':World}(ho:ops[i]?=some o)(hw:Region.wanted o (yielded ops t)=true)(hd:∀ c,o.op≠.defer c)
  (hr:(execOp (⟨t,[]⟩:Act).eval o).run P w=.ok (.round l g tm as bd) w') :
  step P (lone (fr f t (.inRegion ops (i::rest)::k) ds kd ro) cs w)=.next (lone (Frame.round l g tm as bd .normal) (fr f t (.inRegion ops (i::rest)::k) ds kd ro::cs) w'):=by
 refine step_lone_go ?_
 rw[WV ho hw hd]
 simp [stepG.apply,hr]
theorem SW{ops:Array Oper}{i:Nat}{rest:List Nat}{o:Oper}(ho:ops[i]?=some o)(hw:Region.wanted o (yielded ops t)=false) :
  step P (lone (fr f t (.inRegion ops (i::rest)::k) ds kd ro) cs w)=.next (lone (fr f ((⟨t,[]⟩:Act).put o.dst undef).tmps (.inRegion ops rest::k) ds kd ro) cs w):=by
 refine step_lone_go ?_
 rw[← Ew ho]
 simp [stepG,stepG.exec,fr,ho,hw]
theorem st_leave{kd:CallKind}:step P (lone (fr f t [] ds kd none) cs w)=.next (lone { fr f t [] ds kd none with mode:=.returning } cs w):=
 step_lone_go (by simp [stepG,stepG.exec,fr])
theorem st_leave_ret{kd:CallKind}:step P (lone (fr f t (.code .ret::k) ds kd none) cs w)=.next (lone { fr f t (.code .ret::k) ds kd none with mode:=.returning } cs w):=
 step_lone_go (by simp [stepG,stepG.exec,fr])
theorem st_unwind{r:Nat}{w':World}(h:(Instr.takeDeferred r).run P w=.ok [] w') :
  step P (lone { fr f t k ({ target:=.collected r,args:=#[] }::ds) kd ro with mode:=.returning } cs w)=.next (lone { fr f t k ds kd ro with mode:=.returning } cs w'):=
 step_lone_go (by simp [stepG,unwind,fr,h])
theorem st_return{fn:Func}{v:Value}{c:Frame}(hf:P.funcs[f]?=some fn)(h:(results fn t).run P w=.ok v w) :
  step P (lone { fr f t k [] .normal ro with mode:=.returning } (c::cs) w)=.next (lone (c.finish v) cs w):=
 step_lone_go (by simp [stepG,unwind,fr,hf,h,doReturn])
theorem st_begin{l:Nat}{w':World}(h:(Instr.beginRound l).run P w=.ok () w') :
  step P (lone (fr f t (.beginRound::k) ds kd (some l)) cs w)=.next (lone (fr f t k ds kd (some l)) cs w'):=
 step_lone_go (by simp [stepG,stepG.exec,stepG.apply,fr,h,Frame.finish])
theorem st_round_end{l:Nat}{v:Value}{w':World}{c:Frame}(h:(Instr.endRound l none).run P w=.ok v w') :
  step P (lone (fr f t [] ds .normal (some l)) (c::cs) w)=.next (lone (c.finish v) cs w'):=
 step_lone_go (by simp [stepG,stepG.exec,fr,h,doReturn])
theorem st_round_exit{l id:Nat}{v:Value}{w':World}{c:Frame}(hx:exitTo id k=none)(h:(Instr.endRound l (some (.exit id))).run P w=.ok v w') :
  step P (lone (fr f t (.code (.exit id)::k) ds .normal (some l)) (c::cs) w)=.next (lone (c.finish v) cs w'):=
 step_lone_go (by simp [stepG,stepG.exec,fr,hx,h,doReturn])
theorem st_round_ret{l:Nat}{v:Value}{w':World}{c:Frame}(h:(Instr.endRound l (some .ret)).run P w=.ok v w') :
  step P (lone (fr f t (.code .ret::k) ds .normal (some l)) (c::cs) w)=.next (lone (c.finish v) cs w'):=
 step_lone_go (by simp [stepG,stepG.exec,fr,h,doReturn])
theorem st_range{x:Operand}{ps:Array Tmp}{as bd:Code}{l g:Nat}{mark:List Deferred}{first cap:Array Value}{w':World}{fn:Func}{c:Code}
  (h:(Instr.enterLoop f t ps as bd ro).run P w=.ok (l,mark) w') (hx:(⟨t,[]⟩:Act).eval x=.func (.func g) first cap)
  (hf : P.funcs[g]? = some fn) (hb : fn.body = some c) (hn : (fn.name == "runtime.NumGoroutine") = false) :
  step P (lone (fr f t (.code (.rangeFunc x ps as bd)::k) ds kd ro) cs w) =
   .next (lone (Frame.enter P g (first++#[.func (.yield l) #[] #[]]++cap) .normal) (fr f t (.inRangeFunc l::k) (mark++ds) kd ro::cs) w'):=by
 refine step_lone_go ?_
 have he:=fr_eval f t (.inRangeFunc l::k) (mark++ds) kd ro x
 simp only[fr] at he
 have hn' : ¬ fn.name = "runtime.NumGoroutine" := by simpa using hn
 have e2:Frame.eval { fn:=f,tmps:=t,todo:=.inRangeFunc l::k,defers:=mark++ds,mode:=.run,kind:=kd,roundOf:=ro } (.const (.func (.yield l) #[] #[]))=.func (.yield l) #[] #[]:=rfl
 simp [stepG,stepG.exec,fr,h,stepG.apply,resolve,he,hx,Deferred.ofValue,invoke,callFunc,hf,hn',hb,e2]
theorem st_range_end{l:Nat}{jump:Option Code}{w':World}(h:(Instr.endLoop l).run P w=.ok jump w') :
  step P (lone (fr f t (.endRangeFunc l::k) ds kd ro) cs w)=.next (lone (fr f t ((jump.map Item.code).toList++k) ds kd ro) cs w'):=
 step_lone_go (by simp [stepG,stepG.exec,fr,h])
end
end Go.Ev
end
section
namespace Go.Ev
open Go
variable {P:Program} {w₀:World} {W:Sets} {φ:Phi} {st st':St} {w:World} {H:Hp} {n:Nat}
def DR(φ:Phi):List Nat→List Deferred→Prop
 | [],ds=>ds=[]
 | i::D,ds=>∃ p ds',ds={ target:=.collected p.1,args:=#[] }::ds'∧φ i=some p∧DR φ D ds'
theorem DR.mono{φ ψ:Phi}(h:φ.le ψ):∀ {D:List Nat} {ds:List Deferred},DR φ D ds→DR ψ D ds
 | [],_,k=>k
 | _::_,_,k=>let ⟨p,ds',e,f,g⟩:=k; ⟨p,ds',e,h _ _ f,DR.mono h g⟩
def RO(φ:Phi):Option Nat→Option Nat→Prop
 | none,r=>r=none
 | some l,r=>∃ l' c,r=some l'∧φ l=some (l',c)
theorem RO.mono{φ ψ:Phi}(h:φ.le ψ){r r':Option Nat}(k:RO φ r r'):RO ψ r r':=by
 cases r with
 | none=>exact k
 | some l=>obtain⟨l',c,e,f⟩:=k; exact⟨l',c,e,h _ _ f⟩
def Goes(P:Program)(m:Machine)(f:FuncId)(t:Array Value)(k:List Item)(ds:List Deferred)(kd:CallKind)(ro:Option Nat)(cs:List Frame)(w:World):Ex→Prop
 | .norm=>Steps P m (lone (fr f t k ds kd ro) cs w)
 | .exit id=>∃ kk,exitTo id kk=exitTo id k∧Steps P m (lone (fr f t (.code (.exit id)::kk) ds kd ro) cs w)
 | .ret=>∃ kk,Steps P m (lone (fr f t (.code .ret::kk) ds kd ro) cs w)
theorem Goes.of_steps{m m₁:Machine}{f:FuncId}{t:Array Value}{k:List Item}{ds:List Deferred}{kd:CallKind}{ro:Option Nat}{cs:List Frame}{ex:Ex}
  (h:Steps P m m₁) (g:Goes P m₁ f t k ds kd ro cs w ex):Goes P m f t k ds kd ro cs w ex:=by
 cases ex with
 | norm=>exact h.trans g
 | exit id=>obtain⟨kk,e,s⟩:=g; exact⟨kk,e,h.trans s⟩
 | ret=>obtain⟨kk,s⟩:=g; exact⟨kk,h.trans s⟩
structure S (w₀:World) (W:Sets) (φ:Phi) (st:St) (N:Nat) (t:Array Value) (ds:List Deferred) (w:World):Prop where
 i:I w₀ W φ st.H st.n w
 tr:TR φ st.T t
 sz:t.size=N
 d:DR φ st.D ds
def AJ(P:Program)(ro:Option Nat)(f:FuncId)(c:Code)(st:St)(ex:Ex)(st':St):Prop:=
 ∀(w₀:World) (W:Sets) (φ:Phi) (w:World) (t:Array Value) (ds:List Deferred) (kd:CallKind) (k:List Item) (cs:List Frame) (ro':Option Nat),
  S w₀ W φ st (ntm P f) t ds w→RO φ ro ro' →
  ∃ φ' w' t' ds',Ext φ st.n φ' st'.n∧S w₀ W φ' st' (ntm P f) t' ds' w'∧Goes P (lone (fr f t (.code c::k) ds kd ro') cs w) f t' k ds' kd ro' cs w' ex
def Snd(P:Program)(rec:Rec):Prop:=∀ ro f c st ex st',rec ro f c st=some (ex,st')→AJ P ro f c st ex st'
def CallOk(P:Program)(fr0:World→List Value→Frame)(args:List Value)(st:St)(v:Value)(st':St):Prop:=
 ∀(w₀:World) (W:Sets) (φ:Phi) (w:World) (args':List Value) (c:Frame) (cs:List Frame),
  I w₀ W φ st.H st.n w→VRL φ args args' →
  ∃ φ' w' v',Ext φ st.n φ' st'.n∧I w₀ W φ' st'.H st'.n w'∧VR φ' v v'∧Steps P (lone (fr0 w args') (c::cs) w) (lone (c.finish v') cs w')
theorem TR.nil{t:Array Value}:TR φ .nil t:=fun i v e=>by rw[Tr.get_nil] at e; cases e
theorem TR.put{T:Tm}{t:Array Value}{d:Nat}{v v':Value}(h:TR φ T t)(hd:d<t.size)(hv:VR φ v v'):TR φ (T.set d (some v)) (t.setIfInBounds d v'):=by
 intro i u e
 rw[Tr.get_set] at e
 split at e
 ·rename_i x; subst x; cases e; exact⟨v',by simp [hd],hv⟩
 ·rename_i x
  obtain⟨u',a,b⟩:=h i u e
  exact⟨u',by rw[Array.getElem?_setIfInBounds_ne (fun y=>x y.symm)]; exact a,b⟩
theorem args_ok:∀ {args args':List Value} {T:Tm} {i:Nat} {pre:List Value} (tail:List Value),VRL φ args args'→pre.length=i→TR φ T ⟨pre++args'++tail⟩→TR φ (Iy T i args) ⟨pre++args'++tail⟩
 | [],args',T,i,pre,tail,h,_,ht=>by simpa [Iy] using ht
 | v::l,args',T,i,pre,tail,h,hi,ht=>by
  simp only[VRL] at h
  obtain⟨v',r',rfl,hv,hr⟩:=h
  simp only[Iy]
  have e:pre++v'::r'++tail=(pre++[v'])++r'++tail:=by simp
  rw[e]
  refine args_ok tail hr (by simp [hi]) ?_
  rw[← e]
  intro j u hu
  rw[Tr.get_set] at hu
  split at hu
  ·rename_i x; subst x; cases hu
   refine⟨v',?_,hv⟩
   simp [← hi]
  ·exact ht j u hu
def resOne(t:Array Value):ResultVar→Sem Value
 | .tmp x=>pure (t.getD x undef)
 | .cell a ty=>do loadVar ty (← asAddr (t.getD a undef))
theorem resV_ok(h:I w₀ W φ H n w){T:Tm}{t:Array Value}(ht:TR φ T t):∀ {l:List ResultVar} {vs:List Value},resV P T H l=some vs →
  ∃ vs',VRL φ vs vs'∧(l.mapM (m:=Sem) (resOne t)).run P w=.ok vs' w
 | [],vs,e=>by simp [resV] at e; subst e; exact⟨[],VRL.nil,by simp⟩
 | r::l,vs,e=>by
  simp only[resV] at e
  split at e
  ·cases e
  ·rename_i v hv
   split at e
   ·cases e
   ·rename_i us hus
    cases e
    obtain⟨us',h1,h2⟩:=resV_ok h ht hus
    have one:∃ v',VR φ v v'∧(resOne t r).run P w=.ok v' w:=by
     cases r with
     | tmp x=>
      simp only at hv
      obtain⟨v',a,b⟩:=ht x v hv
      exact⟨v',b,by simp [resOne,Array.getD_eq_getD_getElem?,a]⟩
     | cell x ty=>
      simp only at hv
      split at hv
      ·rename_i ad hx
       obtain⟨v0,a,b⟩:=ht x _ hx
       simp only[VR] at b
       obtain⟨ad',rfl,har⟩:=b
       obtain⟨v',c,d⟩:=qhw (P:=P) h har hv
       exact⟨v',c,by simp [resOne,Array.getD_eq_getD_getElem?,a,asAddr,d]⟩
      ·cases hv
    obtain⟨v',c,d⟩:=one
    exact⟨v'::us',VRL.cons c h1,by simp only[List.mapM_cons,Sem.run_bind,d,Result.andThen_ok,h2,Sem.run_pure]⟩
theorem results_ok{fn:Func}(h:I w₀ W φ H n w){T:Tm}{t:Array Value}(ht:TR φ T t){vs:List Value}(e:resV P T H fn.results.toList=some vs) :
  ∃ v',VR φ (oneV vs) v'∧(results fn t).run P w=.ok v' w:=by
 obtain⟨vs',h1,h2⟩:=resV_ok (P:=P) h ht e
 refine⟨oneV vs',?_,?_⟩
 ·match vs,vs',h1 with
  | [],vs',h1=>simp only[VRL] at h1; subst h1; simp only[oneV,VR]; exact⟨_,rfl,VRL.nil (φ:=φ)⟩
  | [v],vs',h1=>
   simp only[VRL] at h1; obtain⟨v',r',rfl,hv,rfl⟩:=h1; exact hv
  | v::u::l,vs',h1=>
   have h1':=h1
   simp only[VRL] at h1; obtain⟨v',r',rfl,hv,u',r2,rfl,hu,hr⟩:=h1
   simp only[oneV,VR]; exact⟨_,rfl,by simpa only [VRA] using h1'⟩
 ·have e1:results fn t=(do let vs ← fn.results.mapM (resOne t); pure (if h:vs.size=1 then vs[0] else .tuple vs)):=by
   unfold results
   congr 1
  rw[e1,Array.mapM_eq_mapM_toList]
  simp only[Sem.run_bind,Sem.run_map,h2,Result.andThen_ok,Sem.run_pure]
  congr 1
  match vs' with
  | []=>rfl
  | [v]=>rfl
  | v::u::l=>simp [oneV]
end Go.Ev
end
section
namespace Go.Ev
open Go
variable {P:Program} {w₀:World} {W:Sets} {φ:Phi} {st st':St} {w:World} {H:Hp} {n:Nat} {rec:Rec}
theorem I.void(h:I w₀ W φ H n w){i:Nat}{b:Blk}{o':Obj}{p:Nat × Nat}(hi:H.get i=some b)(hp:φ i=some p)(hr:b.ro=false)(hf:frOb (some o')=(0,0):=by rfl) :
  I w₀ W φ (H.set i none) n { w with heap:=w.heap.setIfInBounds p.1 o' }:=by
 have hk:=h.kill i
 have hold:∃ o,w.heap[p.1]?=some o∧frOb (some o)=(0,0):=by
  obtain⟨q,o,f,g,k⟩:=h.rel i b hi
  rw[hp] at f; cases f
  exact⟨o,g,k.fr hr⟩
 obtain⟨o0,hold1,hold2⟩:=hold
 refine⟨fun j q e=>h.dom j q e,?_,hk.inj,?_,by simpa using h.size,hk.wr,hk.src,h.os,h.tape,h.output,frOb_set h hold1 hold2 hf⟩
 ·intro j c e
  obtain⟨q,o,f,g,k⟩:=hk.rel j c e
  have hj:j≠i:=by
   intro x; subst x; rw[Tr.get_set,if_pos rfl] at e; cases e
  have e':H.get j=some c:=by rw[Tr.get_set,if_neg hj] at e; exact e
  refine⟨q,o,f,?_,k⟩
  have ne:p.1≠q.1:=fun y=>hj (h.inj i j b c p q hi e' hp f y).symm
  show(w.heap.setIfInBounds p.1 o')[q.1]?=_
  rw[Array.getElem?_setIfInBounds_ne ne]; exact g
 ·intro c hc nc
  have ne:p.1≠c:=by
   intro y; subst y
   rcases h.wr i b p hi hr hp with a | a
   ·exact nc a
   ·omega
  show(w.heap.setIfInBounds p.1 o')[c]?=_
  rw[Array.getElem?_setIfInBounds_ne ne]; exact h.keep c hc nc
theorem run_getObj{r:Nat}{o:Obj}(h:w.heap[r]?=some o)(hc:∀ a b c,o≠.cells a b c):(getObj r).run P w=.ok o w:=by
 simp only[getObj,Sem.run,h]
theorem Kz{r:Nat}{o o':Obj}(h:w.heap[r]?=some o)(hc:∀ a b c,o≠.cells a b c):(setObj r o').run P w=.ok () { w with heap:=w.heap.setIfInBounds r o' }:=by
 simp only[setObj,Sem.run,h]
theorem WW{f:FuncId}{t:Array Value}{k:List Item}{kd:CallKind}{ro:Option Nat}{cs:List Frame}:∀ {D:List Nat} {ds:List Deferred} {H H':Hp} {w:World},
  I w₀ W φ H n w→DR φ D ds→wj H D=some H' →
  ∃ w',I w₀ W φ H' n w'∧Steps P (lone { fr f t k ds kd ro with mode:=.returning } cs w) (lone { fr f t k [] kd ro with mode:=.returning } cs w')
 | [],ds,H,H',w,h,hd,e=>by
  simp only[DR] at hd; subst hd
  simp [wj] at e; subst e
  exact⟨w,h,.refl _ _⟩
 | i::D,ds,H,H',w,h,hd,e=>by
  simp only[DR] at hd
  obtain⟨p,ds',rfl,hp,hd⟩:=hd
  simp only[wj] at e
  split at e
  ·rename_i hi
   obtain⟨q,o,f1,g,k1⟩:=h.rel i _ hi
   rw[hp] at f1; cases f1
   simp only[BR] at k1; subst k1
   have h2:=h.void (o':=.deferred none) hi hp rfl
   obtain⟨w',h3,s⟩:=WW (f:=f) (t:=t) (k:=k) (kd:=kd) (ro:=ro) (cs:=cs) h2 hd e
   refine⟨w',h3,.head (st_unwind ?_) s⟩
   have nc:∀ a b c,Obj.deferred (some [])≠.cells a b c:=fun a b c x=>by cases x
   simp only[Instr.takeDeferred,Sem.run_bind,run_getObj g nc,Result.andThen_ok,Kz g nc,Sem.run_pure]
  ·cases e
theorem qix{f:FuncId}{fn:Func}{c:Code}{args:Array Value}(hf:P.funcs[f]?=some fn)(hb:fn.body=some c) :
  Frame.enter P f args .normal=fr f (args++Array.replicate (fn.ntmps-args.size) undef) [.code c] [] .normal none:=by
 simp [Frame.enter,fr,hf,hb]
theorem ntm_eq{f:FuncId}{fn:Func}(hf:P.funcs[f]?=some fn):ntm P f=fn.ntmps:=by simp [ntm,hf]
theorem callB_ok(hs:Snd P rec){f:FuncId}{args:List Value}{v:Value}(e:callB P rec f args st=some (v,st')) :
  CallOk P (fun _ args' => Frame.enter P f ⟨args'⟩ .normal) args st v st' ∧ (∃ fn c, P.funcs[f]? = some fn ∧ fn.body = some c ∧ (fn.name == "runtime.NumGoroutine") = false) ∧ st'.T = st.T ∧ st'.D = st.D := by
 unfold callB at e
 split at e
 ·cases e
 ·rename_i fn hf
  split at e
  ·cases e
  ·rename_i c hb
   split at e
   ·cases e
   ·rename_i hcond
    simp only[Bool.or_eq_true,not_or,Bool.not_eq_true] at hcond
    obtain⟨hname,hlt⟩:=hcond
    have hlt:args.length≤fn.ntmps:=by simpa using hlt
    split at e
    ·cases e
    ·rename_i ex s hne hrec
     split at e
     ·cases e
     ·rename_i H' hH
      split at e
      ·cases e
      ·rename_i vs hvs
       simp only[Option.some.injEq,Prod.mk.injEq] at e
       obtain⟨rfl,rfl⟩:=e
       refine⟨?_,⟨fn,c,hf,hb,hname⟩,rfl,rfl⟩
       intro w₀ W φ w args' cfr cs hI hargs
       have hal:=hargs.length
       have h0:S w₀ W φ { T:=Iy .nil 0 args,H:=st.H,n:=st.n,D:=[] } (ntm P f) (⟨args'⟩++Array.replicate (fn.ntmps-(⟨args'⟩:Array Value).size) undef) [] w:=by
        refine⟨hI,?_,?_,rfl⟩
        ·have:=args_ok (φ:=φ) (T:=.nil) (i:=0) (pre:=[]) (List.replicate (fn.ntmps-args'.length) undef) hargs rfl TR.nil
         have e1:((⟨args'⟩:Array Value)++Array.replicate (fn.ntmps-(⟨args'⟩:Array Value).size) undef)=⟨[]++args'++List.replicate (fn.ntmps-args'.length) undef⟩:=by
          apply Array.ext'; simp
         rw[e1]; exact this
        ·rw[ntm_eq hf]; simp; omega
       obtain⟨φ1,w1,t1,ds1,hle,hS,hg⟩:=hs _ _ _ _ _ _ hrec w₀ W φ w _ [] .normal [] (cfr::cs) none h0 rfl
       have fin:∀ kk,∃ w2 v',I w₀ W φ1 H' s.n w2∧VR φ1 (oneV vs) v'∧Steps P (lone { fr f t1 kk ds1 .normal none with mode:=.returning } (cfr::cs) w1) (lone (cfr.finish v') cs w2):=by
        intro kk
        obtain⟨w2,hI2,hun⟩:=WW (P:=P) (f:=f) (t:=t1) (k:=kk) (kd:=.normal) (ro:=none) (cs:=cfr::cs) hS.i hS.d hH
        obtain⟨v',hv',hres⟩:=results_ok (fn:=fn) hI2 hS.tr hvs
        exact⟨w2,v',hI2,hv',hun.trans (.one (st_return hf hres))⟩
       cases ex with
       | exit id=>exact absurd rfl (hne id)
       | norm=>
        obtain⟨w2,v',a1,a2,a3⟩:=fin []
        refine⟨φ1,w2,v',hle,a1,a2,?_⟩
        simp only
        rw[qix hf hb]
        exact Steps.trans hg (.head st_leave a3)
       | ret=>
        obtain⟨kk,hg⟩:=hg
        obtain⟨w2,v',a1,a2,a3⟩:=fin (.code .ret::kk)
        refine⟨φ1,w2,v',hle,a1,a2,?_⟩
        simp only
        rw[qix hf hb]
        exact Steps.trans hg (.head st_leave_ret a3)
    ·cases e
theorem I.later{w1:World}(h:I w₀ W φ H n w)(hk:∀ b,b<w.heap.size→w1.heap[b]?=w.heap[b]?)(hsz:w.heap.size≤w1.heap.size)(ho:w1.os=w.os)(htp:w1.tape=w.tape)(hout:w1.output=w.output)(hfz:∀ b:Nat,frOb w1.heap[b]?=frOb w.heap[b]?) :
  I w₀ W φ H n w1:=by
 refine⟨fun i p e=>h.dom i p e,?_,h.inj,?_,Nat.le_trans h.size hsz,h.wr,h.src,ho.trans h.os,htp.trans h.tape,hout.trans h.output,fun b=>(hfz b).trans (h.fz b)⟩
 ·intro i b e
  obtain⟨p,o,f,g,k⟩:=h.rel i b e
  exact⟨p,o,f,(hk p.1 (h.lt e f)).trans g,k⟩
 ·intro b hb nb
  exact(hk b (by have:=h.size; omega)).trans (h.keep b hb nb)
theorem I.empty(w:World):I w ⟨fun _=>False,fun _=>False⟩ (fun _=>none) (.nil:Hp) 0 w:=by
 have hn:∀ i b,(Tr.nil:Hp).get i≠some b:=by intro i b z; rw[Tr.get_nil] at z; cases z
 exact⟨(fun i p z=>by cases z),(fun i b z=>absurd z (hn i b)),(fun i j b c p q z=>absurd z (hn i b)),(fun _ _ _=>rfl),Nat.le_refl _,(fun i b p z=>absurd z (hn i b)),(fun i b p z=>absurd z (hn i b)),rfl,rfl,rfl,fun _=>rfl⟩
theorem qij(hs:Snd P rec){f:FuncId}{args:List Value}{v:Value}(e:callF P rec f args st=some (v,st')) :
  CallOk P (fun _ args' => Frame.enter P f ⟨args'⟩ .normal) args st v st' ∧ (∃ fn c, P.funcs[f]? = some fn ∧ fn.body = some c ∧ (fn.name == "runtime.NumGoroutine") = false) ∧ st'.T = st.T ∧ st'.D = st.D := by
 unfold callF at e
 split at e
 ·exact callB_ok hs e
 ·rename_i hc
  simp only[Bool.and_eq_true] at hc
  split at e
  ·rename_i v0 s hb
   split at e
   ·rename_i hp
    simp only[Option.some.injEq,Prod.mk.injEq] at e
    obtain⟨rfl,rfl⟩:=e
    obtain⟨hok,hx,_⟩:=callB_ok hs hb
    refine⟨?_,hx,rfl,rfl⟩
    intro w₀ W φ w args' cfr cs hI ha
    have:=ck.eq hc.2 ha; subst this
    obtain⟨φ1,w1,v',hext,hI1,hv,hst⟩:=hok w _ _ w args' cfr cs (I.empty w) (ck.refl hc.2)
    have hv':=bw.eq hp hv; subst hv'
    exact⟨φ,w1,v',Ext.refl _ _,hI.later (fun b hb=>hI1.keep b hb (fun z=>z)) hI1.size hI1.os hI1.tape hI1.output hI1.fz,bw.refl hp,hst⟩
   ·cases e
  ·cases e
theorem paramsT_ok:∀ {ts:List Tmp} {vs vs':List Value} {T T':Tm} {t:Array Value} {N:Nat},TR φ T t→t.size=N→VRL φ vs vs'→yX T N ts vs=some T' →
  TR φ T' ((ts.zip vs').foldl (fun(t:Array Value) (x:Tmp × Value)=>t.setIfInBounds x.1 x.2) t)∧((ts.zip vs').foldl (fun(t:Array Value) (x:Tmp × Value)=>t.setIfInBounds x.1 x.2) t).size=N∧ts.length=vs'.length
 | [],[],vs',T,T',t,N,ht,hn,hv,e=>by
  simp only[yX,Option.some.injEq] at e; subst e
  simp only[VRL] at hv; subst hv
  exact⟨ht,hn,rfl⟩
 | [],v::vs,vs',T,T',t,N,ht,hn,hv,e=>by simp [yX] at e
 | d::ts,[],vs',T,T',t,N,ht,hn,hv,e=>by simp [yX] at e
 | d::ts,v::vs,vs',T,T',t,N,ht,hn,hv,e=>by
  simp only[yX] at e
  by_cases hd:d<N
  ·rw[if_pos hd] at e
   simp only[VRL] at hv
   obtain⟨v',r',rfl,hv1,hv2⟩:=hv
   have hd':(d:Nat)<t.size:=by rw[hn]; exact hd
   have:=paramsT_ok (t:=t.setIfInBounds d v') (ht.put hd' hv1) (by simpa using hn) hv2 e
   simpa using this
  ·rw[if_neg hd] at e; cases e
theorem Uz(h:I w₀ W φ H n w){l:Nat}{s:LoopState}{pe:Option Code}{fn:FuncId}{T:Tm}{N:Nat}{ps:Array Tmp}{as bd:Code}{d:Nat}
  (hl:H.get l=some (.loop s pe fn T N ps as bd d)):∃ p r,φ l=some p∧w.heap[p.1]?=some (.loop r)∧r.state=s∧r.pending=pe∧r.fn=fn∧r.tmps.size=N∧TR φ T r.tmps∧r.params=ps∧r.assign=as∧r.body=bd∧∃ c,φ d=some (r.defers,c):=by
 obtain⟨p,o,f,g,k⟩:=h.rel l _ hl
 obtain⟨r,rfl,x⟩:=k
 exact⟨p,r,f,g,x⟩
theorem CJ{l:Nat}{r:Loop}(h:w.heap[l]?=some (.loop r)):(Instr.getLoop l).run P w=.ok r w:=by
 simp only[Instr.getLoop,Sem.run_bind,run_getObj h (fun a b c x=>by cases x),Result.andThen_ok,Sem.run_pure]
theorem I.loop(h:I w₀ W φ H n w){l:Nat}{s:LoopState}{pe:Option Code}{fn:FuncId}{T:Tm}{N:Nat}{ps:Array Tmp}{as bd:Code}{d:Nat}
  (hl:H.get l=some (.loop s pe fn T N ps as bd d)) {p:Nat × Nat} {r:Loop} (hp:φ l=some p) (hr:w.heap[p.1]?=some (.loop r)) (s':LoopState) (pe':Option Code) :
  I w₀ W φ (H.set l (some (.loop s' pe' fn T N ps as bd d))) n { w with heap:=w.heap.setIfInBounds p.1 (.loop { r with state:=s',pending:=pe' }) }:=by
 obtain⟨q,r',f,g,x⟩:=Uz h hl
 rw[hp] at f; cases f
 rw[hr] at g; cases g
 obtain⟨x1,x2,x3,x4,x5,x6,x7,x8,x9⟩:=x
 exact h.put hl hp rfl ⟨_,rfl,rfl,rfl,x3,x4,x5,x6,x7,x8,x9⟩
theorem setLoop_ok(h:I w₀ W φ H n w){l:Nat}{s:LoopState}{pe:Option Code}{H':Hp}(e:wV H l s pe=some H') :
  ∃ p r,φ l=some p∧w.heap[p.1]?=some (.loop r)∧I w₀ W φ H' n { w with heap:=w.heap.setIfInBounds p.1 (.loop { r with state:=s,pending:=pe }) }∧r.pending=yw H l∧(Kv H l=true→r.state=.ready):=by
 unfold wV at e
 split at e
 ·rename_i x1 x2 fn T N ps as bd d hl
  cases e
  obtain⟨p,r,a,b,c1,c2,c3⟩:=Uz h hl
  refine⟨p,r,a,b,h.loop hl a b s pe,by simp [yw,hl,c2],fun hr=>?_⟩
  simp only[Kv,hl] at hr
  split at hr
  ·rename_i q; cases q; exact c1
  ·cases hr
 ·cases e
theorem yieldF_ok(hs:Snd P rec){l:Nat}{args:List Value}{v:Value}(e:Ak rec P l args st=some (v,st'))(h:I w₀ W φ st.H st.n w){args':List Value}(ha:VRL φ args args'){l' cp:Nat}(hl':φ l=some (l',cp)) :
  ∃ f tm as bd,(Instr.yield l' ⟨args'⟩).run P w=.ok (.round l' f tm as bd) w∧st'.T=st.T∧st'.D=st.D ∧
   ∀(c:Frame) (cs:List Frame),∃ φ' w' v',Ext φ st.n φ' st'.n∧I w₀ W φ' st'.H st'.n w'∧VR φ' v v'∧Steps P (lone (Frame.round l' f tm as bd .normal) (c::cs) w) (lone (c.finish v') cs w'):=by
 unfold Ak at e
 split at e
 case h_2=>cases e
 rename_i x1 x2 fn T N params assign body d hl
 split at e
 case h_2=>cases e
 rename_i T' hN hT
 have hN:=Nat.eq_of_beq_eq_true hN
 split at e
 case h_2=>cases e
 rename_i s hrec1
 split at e
 case h_2=>cases e
 rename_i H1 hready hset1
 split at e
 case h_2=>cases e
 rename_i ex s2 hrec2
 split at e
 case h_1=>cases e
 rename_i j hj
 split at e
 case h_2=>cases e
 rename_i H2 hset2
 simp only[Option.some.injEq,Prod.mk.injEq] at e
 obtain⟨rfl,rfl⟩:=e
 obtain⟨p,r,hp,hr,r1,r2,r3,r4,r5,r6,r7,r8,r9⟩:=Uz h hl
 rw[hl'] at hp; cases hp
 simp only at hr
 obtain⟨g1,g2,g3⟩:=paramsT_ok r5 r4 ha hT
 have hf1:((r.params.zip (⟨args'⟩:Array Value)).foldl (fun tmps (x:Tmp × Value)=>tmps.setIfInBounds x.1 x.2) r.tmps)=((params.toList.zip args').foldl (fun(t:Array Value) (x:Tmp × Value)=>t.setIfInBounds x.1 x.2) r.tmps):=by
  rw[r6,← Array.foldl_toList]; simp
 refine⟨fn,(params.toList.zip args').foldl (fun(t:Array Value) (x:Tmp × Value)=>t.setIfInBounds x.1 x.2) r.tmps,assign,body,?_,rfl,rfl,?_⟩
 ·have hsz:args'.length=r.params.size:=by rw[r6]; simp at g3 ⊢; omega
  have hne:¬ (args'.length≠r.params.size):=fun x=>x hsz
  simp only[Instr.yield,Sem.run_bind,CJ hr,Result.andThen_ok,List.size_toArray,ne_eq,if_neg hne,Sem.run_pure,r3,r7,r8]
  exact congrArg (fun x=>Result.ok (Next.round l' fn x assign body) w) hf1
 ·intro c cs
  have h0:S w₀ W φ { T:=T',H:=st.H,n:=st.n,D:=[] } (ntm P fn) ((params.toList.zip args').foldl (fun(t:Array Value) (x:Tmp × Value)=>t.setIfInBounds x.1 x.2) r.tmps) [] w:=
   ⟨h,g1,by rw[g2,hN],rfl⟩
  obtain⟨φ1,w1,t1,ds1,hle1,hS1,hg1⟩:=hs _ _ _ _ _ _ hrec1 w₀ W φ w _ [] .normal [.beginRound,.code body] (c::cs) (some l') h0 ⟨l',cp,rfl,hl'⟩
  obtain⟨p2,q2,k1,k2,k3,k4,k5⟩:=setLoop_ok hS1.i hset1
  rw[hle1.le _ _ hl'] at k1; cases k1
  simp only at k2 k3
  have hb:(Instr.beginRound l').run P w1=.ok () { w1 with heap:=w1.heap.setIfInBounds l' (.loop { q2 with state:=.busy }) }:=by
   simp only[Instr.beginRound,Sem.run_bind,CJ k2,Result.andThen_ok,Kz k2 (fun a b c x=>by cases x),k5 hready,Sem.run_pure]
  have k4':({ q2 with state:=.busy,pending:=yw s.H l }:Loop)={ q2 with state:=.busy }:=by rw[← k4]
  rw[k4'] at k3
  have h1:S w₀ W φ1 { s with H:=H1 } (ntm P fn) t1 ds1 { w1 with heap:=w1.heap.setIfInBounds l' (.loop { q2 with state:=.busy }) }:=⟨k3,hS1.tr,hS1.sz,hS1.d⟩
  obtain⟨φ2,w2,t2,ds2,hle2,hS2,hg2⟩:=hs _ _ _ _ _ _ hrec2 w₀ W φ1 _ t1 ds1 .normal [] (c::cs) (some l') h1 ⟨l',cp,rfl,hle1.le _ _ hl'⟩
  obtain⟨p3,q3,m1,m2,m3,m4,m5⟩:=setLoop_ok hS2.i hset2
  rw[hle2.le _ _ (hle1.le _ _ hl')] at m1; cases m1
  simp only at m2 m3
  have he:(Instr.endRound l' j).run P w2=.ok (.bool j.isNone) { w2 with heap:=w2.heap.setIfInBounds l' (.loop { q3 with state:=if j.isNone then .ready else .done,pending:=j }) }:=by
   simp only[Instr.endRound,Sem.run_bind,CJ m2,Result.andThen_ok,Kz m2 (fun a b c x=>by cases x),Sem.run_pure]
  refine⟨φ2,_,.bool j.isNone,hle1.trans hle2,m3,by simp only[VR],?_⟩
  have fin:Steps P (lone (fr fn ((params.toList.zip args').foldl (fun(t:Array Value) (x:Tmp × Value)=>t.setIfInBounds x.1 x.2) r.tmps) [.code assign,.beginRound,.code body] [] .normal (some l')) (c::cs) w)
    (lone (c.finish (.bool j.isNone)) cs { w2 with heap:=w2.heap.setIfInBounds l' (.loop { q3 with state:=if j.isNone then .ready else .done,pending:=j }) }):=by
   refine Steps.trans hg1 (.head (st_begin hb) ?_)
   cases ex with
   | norm=>
    simp only[Wy,Option.some.injEq] at hj; subst hj
    exact Steps.trans hg2 (.one (st_round_end he))
   | exit id=>
    simp only[Wy,Option.some.injEq] at hj; subst hj
    obtain⟨kk,hk,hg2⟩:=hg2
    exact Steps.trans hg2 (.one (st_round_exit (by rw[hk]; rfl) he))
   | ret=>
    simp only[Wy,Option.some.injEq] at hj; subst hj
    obtain⟨kk,hg2⟩:=hg2
    exact Steps.trans hg2 (.one (st_round_ret he))
  exact fin
end Go.Ev
end
section
namespace Go.Ev
open Go
variable {P:Program} {w₀:World} {W:Sets} {φ:Phi} {st st':St} {w:World} {H:Hp} {n:Nat} {rec:Rec}
 {f:FuncId} {t:Array Value} {k:List Item} {ds:List Deferred} {kd:CallKind} {ro:Option Nat} {cs:List Frame} {N:Nat}
theorem WX{ops:Array Oper}{o:Oper}{T:Tm}{b:Bool}(ht:TR φ T t)(e:wQ ops.toList o.guard T=some b):Region.wanted o (yielded ops t)=b:=by
 unfold wQ at e
 unfold Region.wanted
 split at e
 ·rename_i hg; cases e; simp [hg]
 ·rename_i j want hg
  simp only[hg]
  split at e
  ·rename_i oj hj
   split at e
   ·rename_i d hd
    split at e
    ·rename_i c hc
     cases e
     obtain⟨v',a,b⟩:=ht d _ hc
     simp only[VR] at b; subst b
     have hj':ops[j]?=some oj:=by simpa using hj
     simp [yielded,hj',hd,a]
    ·rename_i hc
     cases e
     obtain⟨v',a,b⟩:=ht d _ hc
     simp only[VR,VRA,VRL] at b
     obtain⟨c',rfl,b⟩:=b
     have hj':ops[j]?=some oj:=by simpa using hj
     simp [yielded,hj',hd,a]
    ·cases e
   ·cases e
  ·cases e
theorem put_ok{T:Tm}{dst:Option Tmp}{v v':Value}(ht:TR φ T t)(hN:inN t.size dst=true)(hv:VR φ v v') :
  TR φ (putT T dst v) ((⟨t,[]⟩:Act).put dst v').tmps∧((⟨t,[]⟩:Act).put dst v').tmps.size=t.size:=by
 cases dst with
 | none=>exact⟨ht,rfl⟩
 | some d=>
  simp only[inN,Nat.blt_eq] at hN
  exact⟨ht.put hN hv,by simp [Act.put]⟩
theorem evOp_ok(hs:Snd P rec){ops:Array Oper}{i:Nat}{rest:List Nat}{o:Oper}(hS:S w₀ W φ st N t ds w)(ho:ops[i]?=some o)(e:evOp P rec N ops.toList o st=some st') :
  ∃ φ' w' t',Ext φ st.n φ' st'.n∧S w₀ W φ' st' N t' ds w'∧Steps P (lone (fr f t (.inRegion ops (i::rest)::k) ds kd ro) cs w) (lone (fr f t' (.inRegion ops rest::k) ds kd ro) cs w'):=by
 unfold evOp at e
 split at e
 ·cases e
 rename_i hN
 rw[← hS.sz] at hN
 split at e
 ·cases e
 ·rename_i hwa
  cases e
  obtain⟨p1,p2⟩:=put_ok (v:=undef) (v':=undef) hS.tr hN (bw.refl rfl)
  exact⟨φ,w,_,Ext.refl _ _,⟨hS.i,p1,p2.trans hS.sz,hS.d⟩,.one (SW ho (WX hS.tr hwa))⟩
 ·rename_i hwa
  have hw:=WX hS.tr hwa
  unfold evOp1 at e
  split at e
  ·cases e
  rename_i v s hc
  cases e
  have fin:∀ {φ':Phi} {w':World} {v':Value},Ext φ st.n φ' s.n→I w₀ W φ' s.H s.n w'→VR φ' v v'→s.T=st.T→s.D=st.D →
    Steps P (lone (fr f t (.inRegion ops (i::rest)::k) ds kd ro) cs w) (lone (fr f ((⟨t,[]⟩:Act).put o.dst v').tmps (.inRegion ops rest::k) ds kd ro) cs w') →
    ∃ φ' w' t',Ext φ st.n φ' s.n∧S w₀ W φ' { s with T:=putT s.T o.dst v } N t' ds w'∧Steps P (lone (fr f t (.inRegion ops (i::rest)::k) ds kd ro) cs w) (lone (fr f t' (.inRegion ops rest::k) ds kd ro) cs w'):=by
   intro φ' w' v' hle hI hv hT hD hst
   obtain⟨p1,p2⟩:=put_ok (dst:=o.dst) (v:=v) (v':=v') (hS.tr.mono hle.le) hN hv
   exact⟨φ',w',_,hle,⟨hI,by rw[hT]; exact p1,p2.trans hS.sz,by rw[hD]; exact hS.d.mono hle.le⟩,hst⟩
  have plain:aOp P o.op o.type st=some (v,s)→(∀ c,o.op≠.defer c) →
    ∃ φ' w' t',Ext φ st.n φ' s.n∧S w₀ W φ' { s with T:=putT s.T o.dst v } N t' ds w'∧Steps P (lone (fr f t (.inRegion ops (i::rest)::k) ds kd ro) cs w) (lone (fr f t' (.inRegion ops rest::k) ds kd ro) cs w'):=by
   intro h hd
   obtain⟨φ',v',w',hr,hle,hI,hv,hT,hD⟩:=aOp_ok (a:=⟨t,[]⟩) hS.i hS.tr o h
   exact fin hle hI hv hT hD (.one (Ck ho hw hd hr))
  unfold cOp at hc
  split at hc
  ·rename_i c hop
   have hd:∀ c,o.op≠.defer c:=by intro c x; rw[hop] at x; cases x
   unfold cCall at hc
   split at hc
   ·rename_i fo hcal
    split at hc
    ·rename_i vf args hvf hargs
     have hf':=dz (a:=⟨t,[]⟩) hS.tr hvf
     have ha':=Pz (a:=⟨t,[]⟩) hS.tr hargs
     unfold callV at hc
     split at hc
     ·rename_i g first cap
      simp only[VR] at hf'
      obtain⟨f',a',b',e1,e2,e3,e4⟩:=hf'
      simp only[FR] at e2; subst e2
      have l1:VRL φ first.toList a'.toList:=by cases first; simpa only [VRA] using e3
      have l2:VRL φ cap.toList b'.toList:=by cases cap; simpa only [VRA] using e4
      obtain⟨hok,⟨fn,cb,q1,q2,q3⟩,hT,hD⟩:=qij hs hc
      obtain⟨φ',w',v',hle,hI,hv,hst⟩:=hok w₀ W φ w _ (fr f t (.inRegion ops (i::rest)::k) ds kd ro) cs hS.i ((l1.append ha').append l2)
      refine fin hle hI hv hT hD (.head (st_op_enter ho hw hd (args:=⟨a'.toList++List.map (⟨t,[]⟩:Act).eval c.args.toList++b'.toList⟩) (g:=g) (w':=w) ?_) ?_)
      ·have hn : ¬ fn.name = "runtime.NumGoroutine" := by simpa using q3
       have e5:a'++Array.map (⟨t,[]⟩:Act).eval c.args++b'=⟨a'.toList++List.map (⟨t,[]⟩:Act).eval c.args.toList++b'.toList⟩:=by apply Array.ext'; simp
       simp [execOp,hop,resolve,hcal,e1,Deferred.ofValue,invoke,callFunc,q1,q2,hn]
      ·rw[← Ew ho]; exact hst
     ·rename_i l
      simp only[VR] at hf'
      obtain⟨f',a',b',e1,⟨l',cp,e2,e5⟩,e3,e4⟩:=hf'
      subst e2
      have n1:a'=#[]:=by simp only[VRA,VRL] at e3; apply Array.ext'; simpa using e3
      have n2:b'=#[]:=by simp only[VRA,VRL] at e4; apply Array.ext'; simpa using e4
      subst n1 n2
      obtain⟨g,tm,as,bd,hr,hT,hD,hok⟩:=yieldF_ok hs hc hS.i ha' e5
      obtain⟨φ',w',v',hle,hI,hv,hst⟩:=hok (fr f t (.inRegion ops (i::rest)::k) ds kd ro) cs
      refine fin hle hI hv hT hD (.head (st_op_round ho hw hd (l:=l') (g:=g) (tm:=tm) (as:=as) (bd:=bd) (w':=w) ?_) ?_)
      ·have e6:Array.map (⟨t,[]⟩:Act).eval c.args=⟨List.map (⟨t,[]⟩:Act).eval c.args.toList⟩:=by apply Array.ext'; simp
       simp only[execOp,hop,resolve,hcal,e1,Deferred.ofValue,pure_bind,invoke,e6,Array.empty_append]
       exact hr
      ·rw[← Ew ho]; exact hst
     ·cases hc
    ·cases hc
   ·refine plain ?_ hd
    rw[hop]; simp only[aOp]; exact hc
  ·rename_i x hop
   refine plain hc ?_
   intro c x
   rw[x] at hc; simp [aOp] at hc
theorem evOps_ok(hs:Snd P rec){ops:Array Oper}:∀ {l:List Oper} {pre:List Oper} {st:St} {φ:Phi} {w:World} {t:Array Value},ops.toList=pre++l→S w₀ W φ st N t ds w →
  evOps P rec N ops.toList l st=some st' →
  ∃ φ' w' t',Ext φ st.n φ' st'.n∧S w₀ W φ' st' N t' ds w'∧Steps P (lone (fr f t (.inRegion ops (List.range' pre.length l.length)::k) ds kd ro) cs w) (lone (fr f t' k ds kd ro) cs w')
 | [],pre,st,φ,w,t,hl,hS,e=>by
  simp only[evOps,Option.some.injEq] at e; subst e
  exact⟨φ,w,t,Ext.refl _ _,hS,.one Hk⟩
 | o::l,pre,st,φ,w,t,hl,hS,e=>by
  simp only[evOps] at e
  split at e
  ·cases e
  ·rename_i s h1
   have ho:ops[pre.length]?=some o:=by rw[← Array.getElem?_toList,hl]; simp
   obtain⟨φ1,w1,t1,hle,hS1,hst⟩:=evOp_ok (f:=f) (k:=k) (kd:=kd) (ro:=ro) (cs:=cs) (rest:=List.range' (pre.length+1) l.length) hs hS ho h1
   obtain⟨φ2,w2,t2,hle2,hS2,hst2⟩:=evOps_ok hs (l:=l) (pre:=pre++[o]) (by simp [hl]) hS1 e
   refine⟨φ2,w2,t2,hle.trans hle2,hS2,?_⟩
   simp only[List.length_append,List.length_cons,List.length_nil,Nat.zero_add] at hst2
   exact Steps.trans hst hst2
end Go.Ev
end
section
namespace Go.Ev
open Go
variable {P:Program} {w₀:World} {W:Sets} {φ:Phi} {st st':St} {w:World} {H:Hp} {n:Nat} {rec:Rec}
 {f:FuncId} {t:Array Value} {k:List Item} {ds:List Deferred} {kd:CallKind} {cs:List Frame} {N:Nat}
theorem rangeIn_ok{ro ro':Option Nat}{d:Nat}{s:St}(hS:S w₀ W φ st N t ds w)(hro:RO φ ro ro')(e:TK ro st=some (d,s))(params:Array Tmp)(assign body:Code) :
  ∃ φ' l mark w',Ext φ st.n φ' (s.n+1)∧S w₀ W φ' { s with H:=s.H.set s.n (some (.loop .ready none f s.T N params assign body d)),n:=s.n+1 } N t (mark++ds) w' ∧
   φ' s.n=some (l,0)∧(Instr.enterLoop f t params assign body ro').run P w=.ok (l,mark) w':=by
 have rec1:∀ {φ1:Phi} {w1:World} {ds1:List Deferred} {dr c:Nat},S w₀ W φ1 s N t ds1 w1→φ1 d=some (dr,c) →
   S w₀ W (ext φ1 s.n (w1.heap.size,0)) { s with H:=s.H.set s.n (some (.loop .ready none f s.T N params assign body d)),n:=s.n+1 } N t ds1
    { w1 with heap:=w1.heap.push (.loop { state:=.ready,pending:=none,fn:=f,tmps:=t,params,assign,body,defers:=dr }) }:=by
  intro φ1 w1 ds1 dr c h hd
  have hle:=SQ (p:=(w1.heap.size,0)) h.i.free
  refine⟨h.i.push ⟨_,rfl,rfl,rfl,rfl,h.sz,h.tr,rfl,rfl,rfl,c,hd⟩,h.tr.mono hle,h.sz,h.d.mono hle⟩
 cases ro with
 | none=>
  simp only[TK,Option.some.injEq,Prod.mk.injEq] at e
  obtain⟨rfl,rfl⟩:=e
  simp only[RO] at hro; subst hro
  have hle:=SQ (p:=(w.heap.size,0)) hS.i.free
  have h1:S w₀ W (ext φ st.n (w.heap.size,0)) { st with H:=st.H.set st.n (some .deferred),n:=st.n+1,D:=st.n::st.D } N t ({ target:=.collected w.heap.size,args:=#[] }::ds) { w with heap:=w.heap.push (.deferred (some [])) }:=
   ⟨hS.i.push rfl,hS.tr.mono hle,hS.sz,⟨(w.heap.size,0),ds,rfl,gj _ _ _,hS.d.mono hle⟩⟩
  refine⟨_,_,[{ target:=.collected w.heap.size,args:=#[] }],_,(hS.i.ext_push _).trans (h1.i.ext_push _),rec1 h1 (gj _ _ _),gj _ _ _,?_⟩
  simp [Instr.enterLoop]; rfl
 | some l0=>
  simp only[TK] at e
  split at e
  ·rename_i x1 x2 x3 x4 x5 x6 x7 x8 d' hl0
   simp only[Option.some.injEq,Prod.mk.injEq] at e
   obtain⟨rfl,rfl⟩:=e
   obtain⟨l',c,rfl,hl'⟩:=hro
   obtain⟨p,r,hp,hr,_,_,_,_,_,_,_,_,c2,hd⟩:=Uz hS.i hl0
   rw[hl'] at hp; cases hp
   simp only at hr
   refine⟨_,_,[],_,hS.i.ext_push _,rec1 hS hd,gj _ _ _,?_⟩
   simp [Instr.enterLoop,CJ hr]
  ·cases e
theorem rangeE_ok(hs:Snd P rec){ro:Option Nat}{x:Operand}{params:Array Tmp}{assign body:Code}{ex:Ex}(e:rangeE P rec ro f x params assign body st=some (ex,st')) :
  AJ P ro f (.rangeFunc x params assign body) st ex st':=by
 intro w₀ W φ w t ds kd k cs ro' hS hro
 unfold rangeE at e
 split at e
 case h_2=>cases e
 rename_i g first cap hx
 split at e
 ·cases e
 rename_i d s hin
 split at e
 ·cases e
 rename_i v s2 hcall
 obtain⟨φ1,l,mark,w1,hle1,hS1,hl,hrun⟩:=rangeIn_ok (P:=P) (f:=f) hS hro hin params assign body
 have hx':=dz (a:=⟨t,[]⟩) hS.tr hx
 simp only[VR] at hx'
 obtain⟨f',a',b',e1,e2,e3,e4⟩:=hx'
 simp only[FR] at e2; subst e2
 have l1:VRL φ first.toList a'.toList:=by cases first; simpa only [VRA] using e3
 have l2:VRL φ cap.toList b'.toList:=by cases cap; simpa only [VRA] using e4
 have ly:VR φ1 (.func (.yield s.n) #[] #[]) (.func (.yield l) #[] #[]):=by
  simp only[VR]
  exact⟨_,_,_,rfl,⟨l,0,rfl,hl⟩,VRL.nil (φ:=φ1),VRL.nil (φ:=φ1)⟩
 obtain⟨hok,⟨fn,cb,q1,q2,q3⟩,hT,hD⟩:=qij hs hcall
 obtain⟨φ2,w2,v',hle2,hI2,hv,hst⟩:=hok w₀ W φ1 w1 _ (fr f t (.inRangeFunc l::k) (mark++ds) kd ro') cs hS1.i ((l1.mono hle1.le).append (VRL.cons ly (l2.mono hle1.le)))
 have hstep:=st_range (f:=f) (k:=k) (ds:=ds) (kd:=kd) (cs:=cs) hrun e1 q1 q2 q3
 have e6:a'++#[Value.func (.yield l) #[] #[]]++b'=⟨a'.toList++Value.func (.yield l) #[] #[]::b'.toList⟩:=by apply Array.ext'; simp
 rw[e6] at hstep
 have hfin:(fr f t (.inRangeFunc l::k) (mark++ds) kd ro').finish v'=fr f t (.endRangeFunc l::k) (mark++ds) kd ro':=rfl
 rw[hfin] at hst
 have hS2:S w₀ W φ2 s2 (ntm P f) t (mark++ds) w2:=⟨hI2,by rw[hT]; exact hS1.tr.mono hle2.le,hS1.sz,by rw[hD]; exact hS1.d.mono hle2.le⟩
 have hl2:=hle2.le _ _ hl
 unfold yY at e
 split at e
 ·cases e
 ·rename_i stt pe fn' T' N' ps as bd d' hnb hlp
  obtain⟨p,r,hp,hr,r1,r2,_⟩:=Uz hI2 hlp
  rw[hl2] at hp; cases hp
  simp only at hr
  have hend:(Instr.endLoop l).run P w2=.ok pe { w2 with heap:=w2.heap.setIfInBounds l (.loop { r with state:=.exhausted }) }:=by
   have hb:(r.state == LoopState.busy)=false:=by
    rw[r1]
    cases stt <;> first | rfl | exact(hnb rfl).elim
   simp only[Instr.endLoop,Sem.run_bind,CJ hr,Result.andThen_ok,hb,Bool.false_eq_true,if_false,Kz hr (fun a b c x=>by cases x),Sem.run_pure,r2]
  have hI3:=hI2.loop hlp hl2 hr .exhausted pe
  have r2':({ r with state:=.exhausted,pending:=pe }:Loop)={ r with state:=.exhausted }:=by rw[← r2]
  rw[r2'] at hI3
  have hS3:S w₀ W φ2 { s2 with H:=s2.H.set s.n (some (.loop .exhausted pe fn' T' N' ps as bd d')) } (ntm P f) t (mark++ds) { w2 with heap:=w2.heap.setIfInBounds l (.loop { r with state:=.exhausted }) }:=
   ⟨hI3,hS2.tr,hS2.sz,hS2.d⟩
  have hall:Steps P (lone (fr f t (.code (.rangeFunc x params assign body)::k) ds kd ro') cs w) (lone (fr f t ((pe.map Item.code).toList++k) (mark++ds) kd ro') cs { w2 with heap:=w2.heap.setIfInBounds l (.loop { r with state:=.exhausted }) }):=
   .head hstep (Steps.trans hst (.one (st_range_end hend)))
  simp only at e
  split at e
  ·simp only[Option.some.injEq,Prod.mk.injEq] at e
   obtain⟨rfl,rfl⟩:=e
   exact⟨φ2,_,t,_,hle1.trans hle2,hS3,hall⟩
  ·simp only[Option.some.injEq,Prod.mk.injEq] at e
   obtain⟨rfl,rfl⟩:=e
   exact⟨φ2,_,t,_,hle1.trans hle2,hS3,k,rfl,hall⟩
  ·simp only[Option.some.injEq,Prod.mk.injEq] at e
   obtain⟨rfl,rfl⟩:=e
   exact⟨φ2,_,t,_,hle1.trans hle2,hS3,k,hall⟩
  ·cases e
 ·cases e
def DrawOk(P:Program)(draw:Draw):Prop:=∀(f:FuncId) (ops:Array Oper) (st st':St),draw f (ntm P f) ops.toList st=some st' →
 ∀(w₀:World) (W:Sets) (φ:Phi) (w:World) (t:Array Value) (ds:List Deferred) (kd:CallKind) (k:List Item) (cs:List Frame) (ro':Option Nat) (tp:Nat),
  S w₀ W φ st (ntm P f) t ds w →
  ∃ φ' w' t',Ext φ st.n φ' st'.n∧S w₀ W φ' st' (ntm P f) t' ds w' ∧
   Steps P (lone (fr f t (.inRegion ops (Region.schedule (P.follows .mixedOrders) ops tp)::k) ds kd ro') cs w) (lone (fr f t' k ds kd ro') cs w')
theorem AJ.then{ro:Option Nat}{a b:Code}{s s':St}{ex:Ex}(ha:AJ P ro f a st .norm s)(hb:AJ P ro f b s ex s'):AJ P ro f (.seq a b) st ex s':=by
 intro w₀ W φ w t ds kd k cs ro' hS hro
 obtain⟨φ1,w1,t1,ds1,hle1,hS1,g1⟩:=ha w₀ W φ w t ds kd (.code b::k) cs ro' hS hro
 obtain⟨φ2,w2,t2,ds2,hle2,hS2,g2⟩:=hb w₀ W φ1 w1 t1 ds1 kd k cs ro' hS1 (hro.mono hle1.le)
 exact⟨φ2,w2,t2,ds2,hle1.trans hle2,hS2,.of_steps (.head st_seq g1) g2⟩
theorem WY{id:Nat}{x:Item}{k:List Item}(h:∀ j,x≠.inBlock j):exitTo id (x::k)=exitTo id k:=by
 cases x <;> first | rfl | exact absurd rfl (h _)
theorem AJ.out{ro:Option Nat}{a b:Code}{s:St}{ex:Ex}(hne:ex≠.norm)(ha:AJ P ro f a st ex s):AJ P ro f (.seq a b) st ex s:=by
 intro w₀ W φ w t ds kd k cs ro' hS hro
 obtain⟨φ1,w1,t1,ds1,hle1,hS1,g1⟩:=ha w₀ W φ w t ds kd (.code b::k) cs ro' hS hro
 refine⟨φ1,w1,t1,ds1,hle1,hS1,.of_steps (.one st_seq) ?_⟩
 cases ex with
 | norm=>exact absurd rfl hne
 | exit id=>obtain⟨kk,e,s⟩:=g1; exact⟨kk,e.trans (WY (fun j x=>by cases x)),s⟩
 | ret=>exact g1
theorem SX{m m' X:Machine}(h:Steps P m m')(hne:m'≠m)(hx:step P m=.next X):Steps P X m':=by
 obtain⟨n,hn⟩:=h
 cases n with
 | zero=>simp only[runN,Stepped.next.injEq] at hn; exact absurd hn.symm hne
 | succ n=>simp only[runN,hx] at hn; exact⟨n,hn⟩
theorem fr_todo{t':Array Value}{ds':List Deferred}{k':List Item}{w':World}{ro:Option Nat}(h:lone (fr f t' k' ds' kd ro) cs w'=lone (fr f t k ds kd ro) cs w):k'=k:=by
 simp only[lone,Machine.mk.injEq,Array.mk.injEq,List.cons.injEq,Goroutine.mk.injEq,fr,Frame.mk.injEq] at h
 exact h.2.1.1.1.2.2.1
theorem Goes.again{c:Code}{ro:Option Nat}{t':Array Value}{ds':List Deferred}{w':World}{ex:Ex}(g:Goes P (lone (fr f t (.code (.loop c)::k) ds kd ro) cs w) f t' k ds' kd ro cs w' ex) :
  Goes P (lone (fr f t (.inLoop c::k) ds kd ro) cs w) f t' k ds' kd ro cs w' ex:=by
 refine .of_steps (.one st_inLoop) ?_
 cases ex with
 | norm=>
  refine SX g (fun h=>?_) PV
  have:=fr_todo h
  have:=congrArg List.length this
  simp at this
 | exit id=>
  obtain⟨kk,hk,g⟩:=g
  refine⟨kk,hk,SX g (fun h=>?_) PV⟩
  have:=fr_todo h
  simp at this
 | ret=>
  obtain⟨kk,g⟩:=g
  refine⟨kk,SX g (fun h=>?_) PV⟩
  have:=fr_todo h
  simp at this
end Go.Ev
end
namespace Go.Ev
noncomputable section
open Go
def MY(e:Edge):Bool:=Region.binds .any e
def ancsGo:List Oper→List Nat→List Nat
 | [],acc=>acc
 | o::l,acc=>ancsGo l (acc++[o.after.toList.foldl (fun s e=>match MY e with | true=>s ||| 2 ^ e.on ||| acc.getD e.on 0 | false=>s) 0])
def ancs(ops:List Oper):List Nat:=ancsGo ops []
def bit(A:List Nat)(x y:Nat):Bool:=(A.getD x 0).testBit y
def ancOk(ops:List Oper)(A:List Nat):Bool:=
 (List.range ops.length).all fun x=>match ops[x]? with
  | none=>false
  | some o=>o.after.toList.all (fun e=>!MY e || Nat.blt e.on x) &&
   (List.range x).all (fun y=>!bit A x y || o.after.toList.any fun e=>MY e && (Nat.beq e.on y || bit A e.on y)) && Nat.blt (A.getD x 0) (2 ^ x)
inductive Kind where
 | p | l | a | e | m
def sV:Op→Kind
 | .move _ | .assign _ | .pick .. | .build .. | .nilCheck _ | .binOp .. | .unOp .. | .convert .. | .makeFunc .. | .slice .. | .fieldAddr .. | .field .. | .indexAddr .. | .index .. | .extract ..=>.p
 | .load ..=>.l
 | .alloc _ | .box .. | .buildSlice .. | .makeSlice ..=>.a
 | .lookup ..=>.m
 | .call { callee:=.builtin b,.. }=>match b with | .len | .min | .max=>.p | _=>.e
 | _=>.e
def isE(o:Oper):Bool:=match sV o.op with | .e=>true | _=>false
def orderGo(ops:List Oper)(A:List Nat):Nat→List Nat→Nat→List Nat
 | 0,_,_=>[]
 | k+1,todo,done=>
  let ready:=todo.filter fun x=>Nat.beq ((A.getD x 0) ||| done) done
  match ready.find? (fun x=>match ops[x]? with | some o=>!isE o | none=>false) with
  | some x=>x::orderGo ops A k (todo.filter fun y=>!Nat.beq y x) (done ||| 2 ^ x)
  | none=>match ready with
   | x::_=>x::orderGo ops A k (todo.filter fun y=>!Nat.beq y x) (done ||| 2 ^ x)
   | []=>[]
def order(ops:List Oper)(A:List Nat):List Nat:=orderGo ops A ops.length (List.range ops.length) 0
def jX(ops:List Oper)(o:Oper):List Nat:=
 (o.op.operands.toList.filterMap fun | .tmp t=>some t | _=>none) ++
 (match o.guard with
  | some (j,_)=>match ops[j]? with | some oj=>oj.dst.toList | none=>[]
  | none=>[])
def lV(T:Tm):List Nat→Tm
 | []=>.nil
 | d::l=>match T.get d with
  | some v=>(lV T l).set d (some v)
  | none=>lV T l
theorem pY(T:Tm):∀(l:List Nat) (d:Nat),(lV T l).get d=if d ∈ l then T.get d else none
 | [],d=>by simp [lV,Tr.get_nil]
 | x::l,d=>by
  simp only[lV]
  by_cases h:d=x
  ·subst h
   cases hx:T.get d with
   | none=>simp only[pY T l d,hx]; simp
   | some v=>simp [Tr.get_set]
  ·cases hx:T.get x with
   | none=>simp only[pY T l d]; simp [h]
   | some v=>simp only[Tr.get_set,if_neg h,pY T l d]; simp [h]
inductive Extra where
 | p
 | l (t:TypeId) (a:Addr)
 | a (id:Nat) (c:List Value) (e:TypeId)
 | e
 | m (t:TypeId) (mv k:Value) (ok:Bool) (v:Value)
structure Ent where
 x:Nat
 dst:Option Tmp
 slots:List Nat
 v:Value
 k:Extra
structure Reg where
 log:List Ent
 T:Tm
 H:Hp
 n:Nat
def maskL(A:List Nat)(x:Nat)(H:Hp):List Ent→Option Hp
 | []=>some H
 | e::l=>match maskL A x H l with
  | none=>none
  | some H1=>match bit A x e.x,e.k with
   | false,.l _ a=>match H1.get a.block with
    | some (.cells c t _ vec)=>some (H1.set a.block (some (.cells c t true vec)))
    | some (.rows _)=>some H1
    | _=>none
   | _,_=>some H1
def RX(A:List Nat)(x:Nat)(H:Hp):List Ent→Hp
 | []=>H
 | e::l=>match bit A x e.x,e.k with
  | false,.a id _ _=>(RX A x H l).set id none
  | _,_=>RX A x H l
def backL(A:List Nat)(x:Nat)(H0 H:Hp):List Ent→Option Hp
 | []=>some H
 | e::l=>match backL A x H0 H l with
  | none=>none
  | some H1=>match bit A x e.x,e.k with
   | false,.l _ a=>match H.get a.block with
    | some _=>some (H1.set a.block (H0.get a.block))
    | none=>none
   | _,_=>some H1
def RY(A:List Nat)(x:Nat)(H0 H:Hp):List Ent→Hp
 | []=>H
 | e::l=>match bit A x e.x,e.k with
  | false,.a id _ _=>(RY A x H0 H l).set id (H0.get id)
  | _,_=>RY A x H0 H l
def MZ:List Value→List Value→Bool
 | [],[]=>true
 | .int k n::l,.int k' n'::l'=>(match decEq k k' with | .isTrue _=>true | .isFalse _=>false) && (match Int.decEq n n' with | .isTrue _=>true | .isFalse _=>false) && MZ l l'
 | .bool b::l,.bool b'::l'=>(b == b') && MZ l l'
 | _,_=>false
def sameV:Value→Value→Bool
 | .agg ⟨l⟩,.agg ⟨l'⟩=>MZ l l'
 | .tuple ⟨l⟩,.tuple ⟨l'⟩=>MZ l l'
 | v,v'=>MZ [v] [v']
def chkE(P:Program)(H:Hp):Extra→Bool
 | .m t mv k ok v=>match lk P H t mv k ok with
  | some u=>sameV u v
  | none=>false
 | _=>true
def chkM(P:Program)(A:List Nat)(x:Nat)(H:Hp):List Ent→Bool
 | []=>true
 | e::l=>match bit A x e.x with
  | true=>chkM P A x H l
  | false=>chkE P H e.k && chkM P A x H l
def addE(g:Reg)(x:Nat)(dst:Option Tmp)(slots:List Nat)(v:Value)(k:Extra)(H:Hp)(n:Nat):Reg:=
 { log:={ x,dst,slots,v,k }::g.log,T:=putT g.T dst v,H,n }
def slotOk(A:List Nat)(log:List Ent)(x:Nat)(dst:Option Tmp)(slots:List Nat):Bool:=
 log.all fun e=>(match e.dst with
  | none=>true
  | some d=>!slots.contains d || bit A x e.x) &&
  (match dst with
  | none=>true
  | some d=>(!e.slots.contains d || bit A x e.x) && (match e.dst with | none=>true | some d'=>!Nat.beq d d'))
def SY(P:Program)(rec:Rec)(A:List Nat)(o:Oper)(x:Nat)(slots:List Nat)(r:Tm)(rest:List Nat)(g:Reg):Option Reg:=
 match sV o.op with
 | .p=>match aOp P o.op o.type { T:=r,H:=g.H,n:=g.n,D:=[] } with
  | some (v,_)=>some (addE g x o.dst slots v .p g.H g.n)
  | none=>none
 | .l=>match o.op with
  | .load t a=>match opd a r with
   | some (.pointer (some ad))=>match az P g.H t ad with
    | some v=>some (addE g x o.dst slots v (.l t ad) g.H g.n)
    | none=>none
   | _=>none
  | _=>none
 | .a=>match aOp P o.op o.type { T:=r,H:=g.H,n:=g.n,D:=[] } with
  | some (v,s)=>match s.H.get g.n with
   | some (.cells c e false none)=>some (addE g x o.dst slots v (.a g.n c e) s.H s.n)
   | _=>none
  | none=>none
 | .e=>match rest.all (fun y=>bit A y x),maskL A x g.H g.log with
  | true,some H1=>match cOp P rec o.op o.type { T:=r,H:=RX A x H1 g.log,n:=g.n,D:=[] } with
   | some (v,s)=>match backL A x g.H s.H g.log with
    | some H2=>match chkM P A x (RY A x g.H H2 g.log) g.log with
     | true=>some (addE g x o.dst slots v .e (RY A x g.H H2 g.log) s.n)
     | false=>none
    | none=>none
   | none=>none
  | _,_=>none
 | .m=>match o.op with
  | .lookup t a b ok=>match opd a r,opd b r with
   | some mv,some k=>match lk P g.H t mv k ok with
    | some v=>some (addE g x o.dst slots v (.m t mv k ok v) g.H g.n)
    | none=>none
   | _,_=>none
  | _=>none
def Aw(log:List Ent)(x:Nat):Bool:=log.any fun e=>Nat.beq e.x x
def wq(P:Program)(rec:Rec)(N:Nat)(ops:List Oper)(A:List Nat)(x:Nat)(rest:List Nat)(g:Reg):Option Reg:=
 match ops[x]? with
 | none=>none
 | some o=>
  let slots:=jX ops o
  match inN N o.dst && slotOk A g.log x o.dst slots && !Aw g.log x with
  | false=>none
  | true=>
   let r:=lV g.T slots
   match wQ ops o.guard r with
   | none=>none
   | some false=>match isE o with
    | true=>match rest.all (fun y=>bit A y x) with
     | true=>some (addE g x o.dst slots undef .e g.H g.n)
     | false=>none
    | false=>some (addE g x o.dst slots undef .p g.H g.n)
   | some true=>SY P rec A o x slots r rest g
def yK(P:Program)(rec:Rec)(N:Nat)(ops:List Oper)(A:List Nat):List Nat→Reg→Option Reg
 | [],g=>some g
 | x::rest,g=>match wq P rec N ops A x rest g with
  | none=>none
  | some g=>yK P rec N ops A rest g
def covers(n:Nat)(l:List Nat):Bool:=(List.range n).all fun x=>l.contains x
def RZ(P:Program)(rec:Rec):Draw:=fun _ N ops st=>
 let A:=ancs ops
 let π:=order ops A
 match ancOk ops A && covers ops.length π && P.follows .mixedOrders with
 | true=>match yK P rec N ops A π { log:=[],T:=st.T,H:=st.H,n:=st.n } with
  | some g=>some { st with T:=g.T,H:=g.H,n:=g.n }
  | none=>none
 | false=>none
end
end Go.Ev
section
namespace Go.Ev
open Go
variable {P:Program} {w₀:World} {W:Sets} {φ:Phi} {st st':St} {w:World} {H:Hp} {n:Nat} {rec:Rec}
 {f:FuncId} {t:Array Value} {k:List Item} {ds:List Deferred} {kd:CallKind} {ro:Option Nat} {cs:List Frame} {N:Nat}
theorem sJ{o:Option Value}{v:Value}{s st:St}:keep o st=some (v,s)↔o=some v∧s=st:=by
 constructor
 ·exact Iz
 ·rintro⟨rfl,rfl⟩; rfl
theorem kind_p{op:Op}{ty:TypeId}(hk:sV op=.p){T:Tm}{v:Value}{H:Hp}{n:Nat}{D:List Nat}{s:St}(e:aOp P op ty ⟨T,H,n,D⟩=some (v,s)) :
  ∀ H' n' D',aOp P op ty ⟨T,H',n',D'⟩=some (v,⟨T,H',n',D'⟩):=by
 intro H' n' D'
 cases op with
 | move x=>simp only[aOp,sJ] at e ⊢; exact⟨e.1,trivial⟩
 | assign x=>simp only[aOp,sJ] at e ⊢; exact⟨e.1,trivial⟩
 | pick c a b=>simp only[aOp,oPick] at e ⊢; split at e <;> simp_all [sJ]
 | build t ps=>simp only[aOp,sJ] at e ⊢; exact⟨e.1,trivial⟩
 | nilCheck x=>simp only[aOp,Iw] at e ⊢; split at e <;> simp_all
 | binOp op t x y t2=>simp only[aOp,oBin] at e ⊢; split at e <;> simp_all [sJ]
 | unOp op t x=>simp only[aOp,oUn,Gz] at e ⊢; (repeat' (split at e)) <;> simp_all
 | convert s d x=>simp only[aOp,MQ,Gz] at e ⊢; (repeat' (split at e)) <;> simp_all
 | makeFunc fn x y=>
  simp only[aOp,Ix] at e ⊢
  cases fn <;> simp only at e ⊢ <;> first | (split at e <;> simp_all) | cases e
 | slice t x lo hi mx=>cases mx with
  | none=>simp only[aOp,oSlice] at e ⊢; split at e <;> simp_all [sJ]
  | some m=>simp [aOp] at e
 | fieldAddr t x f=>simp only[aOp,EV] at e ⊢; split at e <;> simp_all [sJ]
 | field t x f=>simp only[aOp,oField] at e ⊢; split at e <;> simp_all [sJ]
 | indexAddr t x i=>simp only[aOp,EW] at e ⊢; split at e <;> simp_all [sJ]
 | index t x i=>simp only[aOp,oIndex] at e ⊢; split at e <;> simp_all [sJ]
 | extract x i=>simp only[aOp,MW] at e ⊢; split at e <;> simp_all [sJ]
 | call c=>
  obtain⟨cal,args,tys⟩:=c
  cases cal with
  | builtin b=>
   cases b with
   | len=>simp only[aOp,oCall,vK,oLen] at e ⊢; (repeat' (split at e)) <;> simp_all [sJ]
   | min=>simp only[aOp,oCall,vK,Py] at e ⊢; (repeat' (split at e)) <;> simp_all
   | max=>simp only[aOp,oCall,vK,Py] at e ⊢; (repeat' (split at e)) <;> simp_all
   | _=>simp [sV] at hk
  | _=>simp [sV] at hk
 | _=>simp [sV] at hk
theorem kind_a{o:Oper}(hk:sV o.op=.a){T:Tm}{v:Value}{H:Hp}{id:Nat}{D:List Nat}{s:St}(ht:TR φ T t)(e:aOp P o.op o.type ⟨T,H,id,D⟩=some (v,s)) :
  ∃(c c':List Value) (el:TypeId) (mk:Nat→Value),s=vy ⟨T,H,id,D⟩ c el none∧Pre φ c c'∧v=mk id ∧
   (mk=ptr∨∃ len cap,cap<capV∧mk=fun i=>.slice (some ⟨i,0,none⟩) len cap) ∧
   ∀ w:World,(execOp (⟨t,[]⟩:Act).eval o).run P w=.ok (.value (mk w.heap.size)) { w with heap:=w.heap.push (.cells ⟨c'⟩ el) }:=by
 obtain⟨dst,op,ty,pos,after,guard⟩:=o
 simp only at hk e
 cases op with
 | alloc el=>
  simp only[aOp,SJ] at e
  split at e
  ·rename_i z hz
   simp only[Option.some.injEq,Prod.mk.injEq] at e
   obtain⟨rfl,rfl⟩:=e
   refine⟨aZ z,aZ z,el,ptr,rfl,Pre.of (bw.refl (pJ hz default).2).cells,rfl,.inl rfl,fun w=>?_⟩
   obtain⟨hr,hp⟩:=pJ hz w
   exact ow (by simp [Instr.alloc,hr,newVar,newRow,jQ,ptr])
  ·cases e
 | box el x=>
  simp only[aOp,oBox] at e
  split at e
  ·rename_i u hu
   simp only[Option.some.injEq,Prod.mk.injEq] at e
   obtain⟨rfl,rfl⟩:=e
   refine⟨aZ u,aZ ((⟨t,[]⟩:Act).eval x),el,ptr,rfl,Pre.of (dz (a:=⟨t,[]⟩) ht hu).cells,rfl,.inl rfl,fun w=>?_⟩
   exact ow (by simp [Instr.box,newVar,newRow,jQ,ptr])
  ·cases e
 | buildSlice tt len parts=>
  simp only[aOp,tZ] at e
  split at e
  ·rename_i el ps hel hps
   split at e
   ·rename_i sz z hs hz
    split at e
    ·rename_i hc
     split at e
     ·rename_i c hfill
      simp only[Option.some.injEq,Prod.mk.injEq] at e
      obtain⟨rfl,rfl⟩:=e
      have hzp:=(pJ hz default).2
      obtain⟨h1,h2⟩:=Uq (st:=⟨T,H,id,D⟩) (a:=⟨t,[]⟩) ht hps
      have hpl:(parts.map fun(i,x)=>(i,(⟨t,[]⟩:Act).eval x)).toList=parts.toList.map fun(i,x)=>(i,(⟨t,[]⟩:Act).eval x):=by simp
      obtain⟨c',hr,hr2⟩:=qdq (φ:=φ) (ck.refl (Kx (MX hzp) len)) h1 h2 hfill
      refine⟨c,c',el,fun i=>.slice (some ⟨i,0,none⟩) len len,rfl,Pre.of hr2,rfl,.inr ⟨len,len,hc.2.2,rfl⟩,fun w=>ow ?_⟩
      have hzr:=(pJ hz w).1
      have hz2:z.cells.size=sz:=by rw[← hc.2.1,jQ]; simp
      have hbig:¬ len * sz > 2 ^ 24:=by have:=hc.1; omega
      simp only[Instr.buildSlice,Sem.run_bind,dV (qk hel),Result.andThen_ok,mK hs,if_neg hbig,hpl]
      by_cases h0:len * sz=0
      ·simp only[h0,if_true,pure_bind]
       have:repl len (aZ z)=[]:=by rw[Pk]; rw[hc.2.1,h0]; rfl
       rw[this] at hr
       have e0:(Array.map (fun x=>(#[]:Array Value)[x % (#[]:Array Value).size]!) (Array.range 0))=⟨[]⟩:=by simp
       rw[e0,hr]
       simp [newRow]
      ·simp only[h0,if_false,Sem.run_bind,hzr,Result.andThen_ok,Sem.run_pure]
       have e0:=yZ z.cells len
       rw[hz2] at e0
       rw[hz2,e0,← jQ,hr]
       simp [newRow]
     ·cases e
    ·cases e
   ·cases e
  ·cases e
 | makeSlice tt l c=>
  simp only[aOp,xj] at e
  split at e
  ·rename_i el l c hel hl hc
   split at e
   ·rename_i s b z hs hb hz
    split at e
    ·rename_i hcond
     simp only[Option.some.injEq,Prod.mk.injEq] at e
     obtain⟨rfl,rfl⟩:=e
     obtain⟨hlc,hbig,hzl⟩:=hcond
     obtain⟨hb1,hb2,hb3⟩:=smallOk_inv hbig
     have hzp:=(pJ hz default).2
     refine⟨repl c (aZ z),repl c (aZ z),el,fun i=>.slice (some ⟨i,0,none⟩) l c,rfl,Pre.of (ck.refl (Kx (MX hzp) c)),rfl,.inr ⟨l,c,by unfold capV; omega,rfl⟩,fun w=>ow ?_⟩
     have hzr:=(pJ hz w).1
     obtain⟨i,hir,rfl⟩:=Kw hb w
     have e1:=dz (a:=⟨t,[]⟩) ht hl; simp only[VR] at e1
     have e2:=dz (a:=⟨t,[]⟩) ht hc; simp only[VR] at e2
     have w1:=Ux l (by omega)
     have w2:=Ux c hb1
     have hz2:z.cells.size=s:=by rw[← hzl,jQ]; simp
     have hmul:(i.bytes:Int) * (c:Int)≤2 ^ 48:=by
      have:i.bytes * c≤1048576 * 1048576:=Nat.mul_le_mul (by omega) (by omega)
      have:=Int.ofNat_le.2 this
      rw[Int.natCast_mul] at this
      omega
     have hno:((decide ((c:Int)<0) || decide ((i.bytes:Int) * (c:Int) > 2 ^ 48)) || decide ((l:Int)<0) || decide ((l:Int) > (c:Int)))=false:=by
      have q1:¬ ((c:Int)<0):=by omega
      have q2:¬ ((i.bytes:Int) * (c:Int) > 2 ^ 48):=by omega
      have q3:¬ ((l:Int)<0):=by omega
      have q4:¬ ((l:Int) > (c:Int)):=by omega
      simp only[decide_eq_false q1,decide_eq_false q2,decide_eq_false q3,decide_eq_false q4,Bool.or_false]
     simp only[Instr.makeSlice,Sem.run_bind,dV (qk hel),Result.andThen_ok,e1,e2,asInt,asIntOf,Sem.run_pure,hir,Int.ofNat_eq_natCast,w1,w2]
     rw[hno]
     simp only[Bool.false_eq_true,if_false,Sem.run_bind,run_askRoom,Result.andThen_ok,mK hs,Int.toNat_natCast]
     by_cases h0:c * s=0
     ·have:repl c (aZ z)=[]:=by rw[Pk,hzl,h0]; rfl
      have e0:(Array.map (fun x=>(#[]:Array Value)[x % (#[]:Array Value).size]!) (Array.range 0))=⟨[]⟩:=by simp
      simp only[h0,if_true,pure_bind]
      rw[e0,this]
      simp [newRow]
     ·simp only[h0,if_false,Sem.run_bind,hzr,Result.andThen_ok,Sem.run_pure]
      have e0:=yZ z.cells c
      rw[hz2] at e0
      rw[hz2,e0,← jQ]
      simp [newRow]
    ·cases e
   ·cases e
  ·cases e
 | call c=>
  obtain⟨cal,args,tys⟩:=c
  cases cal <;> simp [sV] at hk
  split at hk <;> cases hk
 | _=>simp [sV] at hk
theorem MK:∀ {l l':List Value},MZ l l'=true→l=l'
 | [],[],_=>rfl
 | .int k n::l,.int k' n'::l',h=>by
  simp only[MZ,Bool.and_eq_true] at h
  obtain⟨⟨h1,h2⟩,h3⟩:=h
  split at h1
  ·rename_i e1 _
   split at h2
   ·rename_i e2 _
    subst e1; subst e2; rw[MK h3]
   ·cases h2
  ·cases h1
 | .bool b::l,.bool b'::l',h=>by
  simp only[MZ,Bool.and_eq_true,beq_iff_eq] at h
  rw[h.1,MK h.2]
theorem sameV_eq{v v':Value}(h:sameV v v'=true):v=v':=by
 unfold sameV at h
 split at h
 ·rw[MK h]
 ·rw[MK h]
 ·have:=MK h; simpa using this
theorem chkM_eq{A:List Nat}{x:Nat}{H:Hp}:∀ {l:List Ent},chkM P A x H l=true→∀ e ∈ l,bit A x e.x=false→chkE P H e.k=true
 | [],_,e,he,_=>nomatch he
 | e0::l,h,e,he,hb=>by
  simp only[chkM] at h
  rcases List.mem_cons.1 he with rfl | he
  ·rw[hb] at h; simp only[Bool.and_eq_true] at h; exact h.1
  ·split at h
   ·exact chkM_eq h e he hb
   ·rw[Bool.and_eq_true] at h; exact chkM_eq h.2 e he hb
theorem chkE_m{H:Hp}{t:TypeId}{mv k v:Value}{ok:Bool}(h:chkE P H (.m t mv k ok v)=true):lk P H t mv k ok=some v:=by
 simp only[chkE] at h
 split at h
 ·rename_i u hu; rw[hu,sameV_eq h]
 ·cases h
theorem lookupV_congr{H H':Hp}{t:TypeId}{mv k:Value}{ok:Bool}(h:∀ r,mv=.map (some r)→H'.get r=H.get r):lk P H' t mv k ok=lk P H t mv k ok:=by
 unfold lk
 have:ZK H' mv=ZK H mv:=by
  unfold ZK
  split
  ·rfl
  ·rename_i r; rw[h r rfl]
  ·rfl
 rw[this]
theorem lookupV_some{H:Hp}{t:TypeId}{r:Nat}{k v:Value}{ok:Bool}(h:lk P H t (.map (some r)) k ok=some v):∃ b,H.get r=some b:=by
 unfold lk at h
 split at h
 ·split at h
  ·rename_i hes _
   unfold ZK at hes
   simp only at hes
   split at hes
   ·rename_i hg; exact⟨_,hg⟩
   ·cases hes
  ·cases h
 ·cases h
theorem Nj{H H':Hp}{ty:TypeId}{a:Addr}(h:H'.get a.block=H.get a.block):az P H' ty a=az P H ty a:=by
 unfold az; rw[h]
theorem cOp_ok(hs:Snd P rec){ops:Array Oper}{i:Nat}{rest:List Nat}{o:Oper}{v:Value}{s:St}(hI:I w₀ W φ st.H st.n w)(ht:TR φ st.T t)(ho:ops[i]?=some o)
  (hw:Region.wanted o (yielded ops t)=true) (hc:cOp P rec o.op o.type st=some (v,s)) :
  ∃ φ' w' v',Ext φ st.n φ' s.n∧I w₀ W φ' s.H s.n w'∧VR φ' v v' ∧
   Steps P (lone (fr f t (.inRegion ops (i::rest)::k) ds kd ro) cs w) (lone (fr f ((⟨t,[]⟩:Act).put o.dst v').tmps (.inRegion ops rest::k) ds kd ro) cs w'):=by
 have plain:aOp P o.op o.type st=some (v,s)→(∀ c,o.op≠.defer c) →
   ∃ φ' w' v',Ext φ st.n φ' s.n∧I w₀ W φ' s.H s.n w'∧VR φ' v v' ∧
   Steps P (lone (fr f t (.inRegion ops (i::rest)::k) ds kd ro) cs w) (lone (fr f ((⟨t,[]⟩:Act).put o.dst v').tmps (.inRegion ops rest::k) ds kd ro) cs w'):=by
  intro h hd
  obtain⟨φ',v',w',hr,hle,hI,hv,hT,hD⟩:=aOp_ok (a:=⟨t,[]⟩) hI ht o h
  exact⟨φ',w',v',hle,hI,hv,.one (Ck ho hw hd hr)⟩
 unfold cOp at hc
 split at hc
 ·rename_i c hop
  have hd:∀ c,o.op≠.defer c:=by intro c x; rw[hop] at x; cases x
  unfold cCall at hc
  split at hc
  ·rename_i fo hcal
   split at hc
   ·rename_i vf args hvf hargs
    have hf':=dz (a:=⟨t,[]⟩) ht hvf
    have ha':=Pz (a:=⟨t,[]⟩) ht hargs
    unfold callV at hc
    split at hc
    ·rename_i g first cap
     simp only[VR] at hf'
     obtain⟨f',a',b',e1,e2,e3,e4⟩:=hf'
     simp only[FR] at e2; subst e2
     have l1:VRL φ first.toList a'.toList:=by cases first; simpa only [VRA] using e3
     have l2:VRL φ cap.toList b'.toList:=by cases cap; simpa only [VRA] using e4
     obtain⟨hok,⟨fn,cb,q1,q2,q3⟩,hT,hD⟩:=qij hs hc
     obtain⟨φ',w',v',hle,hI,hv,hst⟩:=hok w₀ W φ w _ (fr f t (.inRegion ops (i::rest)::k) ds kd ro) cs hI ((l1.append ha').append l2)
     refine⟨φ',w',v',hle,hI,hv,.head (st_op_enter ho hw hd (args:=⟨a'.toList++List.map (⟨t,[]⟩:Act).eval c.args.toList++b'.toList⟩) (g:=g) (w':=w) ?_) ?_⟩
     ·have hn : ¬ fn.name = "runtime.NumGoroutine" := by simpa using q3
      have e5:a'++Array.map (⟨t,[]⟩:Act).eval c.args++b'=⟨a'.toList++List.map (⟨t,[]⟩:Act).eval c.args.toList++b'.toList⟩:=by apply Array.ext'; simp
      simp [execOp,hop,resolve,hcal,e1,Deferred.ofValue,invoke,callFunc,q1,q2,hn]
     ·rw[← Ew ho]; exact hst
    ·rename_i l
     simp only[VR] at hf'
     obtain⟨f',a',b',e1,⟨l',cp,e2,e5⟩,e3,e4⟩:=hf'
     subst e2
     have n1:a'=#[]:=by simp only[VRA,VRL] at e3; apply Array.ext'; simpa using e3
     have n2:b'=#[]:=by simp only[VRA,VRL] at e4; apply Array.ext'; simpa using e4
     subst n1 n2
     obtain⟨g,tm,as,bd,hr,hT,hD,hok⟩:=yieldF_ok hs hc hI ha' e5
     obtain⟨φ',w',v',hle,hI,hv,hst⟩:=hok (fr f t (.inRegion ops (i::rest)::k) ds kd ro) cs
     refine⟨φ',w',v',hle,hI,hv,.head (st_op_round ho hw hd (l:=l') (g:=g) (tm:=tm) (as:=as) (bd:=bd) (w':=w) ?_) ?_⟩
     ·have e6:Array.map (⟨t,[]⟩:Act).eval c.args=⟨List.map (⟨t,[]⟩:Act).eval c.args.toList⟩:=by apply Array.ext'; simp
      simp only[execOp,hop,resolve,hcal,e1,Deferred.ofValue,pure_bind,invoke,e6,Array.empty_append]
      exact hr
     ·rw[← Ew ho]; exact hst
    ·cases hc
   ·cases hc
  ·refine plain ?_ hd
   rw[hop]; simp only[aOp]; exact hc
 ·rename_i x hop
  refine plain hc ?_
  intro c x
  rw[x] at hc; simp [aOp] at hc
def Sub(H' H:Hp):Prop:=∀ i b',H'.get i=some b'→∃ b,H.get i=some b∧(b'=b∨∃ c t ro vec,b=.cells c t ro vec∧b'=.cells c t true vec)
def IJ(φ:Phi)(H:Hp):Sets where
 w p:=∃ i b q,H.get i=some b∧b.ro=false∧φ i=some q∧q.1=p
 r p:=∃ i b q,H.get i=some b∧φ i=some q∧q.1=p
theorem BR.toRo{c:List Value}{e:TypeId}{r:Bool}{vec:Option Nat}{o:Obj}{cp:Nat}(h:BR φ (.cells c e r vec) o cp):BR φ (.cells c e true vec) o cp:=by
 obtain⟨arr,fr,a,b,c,d⟩:=h
 exact⟨arr,fr,a,(fun x=>Bool.noConfusion x),c,d⟩
theorem I.sub{Hs:Hp}(h:I w₀ W φ H n w)(hs:Sub Hs H):I w (IJ φ Hs) φ Hs n w:=by
 refine⟨h.dom,?_,?_,fun _ _ _=>rfl,Nat.le_refl _,?_,?_,rfl,rfl,rfl,fun _=>rfl⟩
 ·intro i b hb
  obtain⟨b0,h0,hbb⟩:=hs i b hb
  obtain⟨p,o,f,g,k⟩:=h.rel i b0 h0
  refine⟨p,o,f,g,?_⟩
  rcases hbb with rfl | ⟨c,t,ro,vec,rfl,rfl⟩
  ·exact k
  ·exact k.toRo
 ·intro i j b c p q hb hc hp hq x
  obtain⟨b0,h0,_⟩:=hs i b hb
  obtain⟨c0,h1,_⟩:=hs j c hc
  exact h.inj i j b0 c0 p q h0 h1 hp hq x
 ·intro i b p hb hr hp; exact .inl ⟨i,b,p,hb,hr,hp,rfl⟩
 ·intro i b p hb hp; exact .inl ⟨i,b,p,hb,hp,rfl⟩
theorem I.back{φ1:Phi}{Hm Hs H1 Hn:Hp}{n1:Nat}{w1:World}(h:I w₀ W φ Hm n w)(hs:Sub Hs Hm)(h1:I w (IJ φ Hs) φ1 H1 n1 w1)(hx:φ.le φ1)(Ov:Nat→Prop)
  (ha:∀ i b,¬ Ov i→Hn.get i=some b→H1.get i=some b)
  (hb:∀ i b,Ov i→Hn.get i=some b→Hm.get i=some b∧(Hs.get i=none∨((∃ b',Hs.get i=some b'∧b'.ro=true)∧∃ b1,H1.get i=some b1))) :
  I w₀ W φ1 Hn n1 w1:=by
 have out:∀ i b p,Ov i→Hn.get i=some b→φ i=some p→¬ (IJ φ Hs).w p.1:=by
  intro i b p ho hi hp ⟨j,c,q,hj,hr,hq,e⟩
  obtain⟨hm,hh⟩:=hb i b ho hi
  obtain⟨c0,hc0,_⟩:=hs j c hj
  have:=h.inj i j b c0 p q hm hc0 hp hq e.symm
  subst this
  rcases hh with hh | ⟨⟨b',hb',hro⟩,_⟩
  ·rw[hh] at hj; cases hj
  ·rw[hb'] at hj; cases hj; rw[hro] at hr; cases hr
 have at1:∀ i b,Ov i→Hn.get i=some b→∃ p,φ i=some p∧φ1 i=some p∧p.1<w.heap.size:=by
  intro i b ho hi
  obtain⟨hm,_⟩:=hb i b ho hi
  obtain⟨p,o,f,g,k⟩:=h.rel i b hm
  exact⟨p,f,hx _ _ f,h.lt hm f⟩
 have ww:∀ p,(IJ φ Hs).w p→W.w p∨w₀.heap.size≤p:=by
  intro p ⟨j,c,q,hj,hr,hq,e⟩
  obtain⟨c0,hc0,hcc⟩:=hs j c hj
  subst e
  refine h.wr j c0 q hc0 ?_ hq
  rcases hcc with rfl | ⟨_,_,_,_,rfl,rfl⟩
  ·exact hr
  ·cases hr
 have wr:∀ p,(IJ φ Hs).r p→W.r p∨w₀.heap.size≤p:=by
  intro p ⟨j,c,q,hj,hq,e⟩
  obtain⟨c0,hc0,_⟩:=hs j c hj
  subst e
  exact h.src j c0 q hc0 hq
 have mixed:∀ i j b c p,Ov i→¬ Ov j→Hn.get i=some b→Hn.get j=some c→φ1 i=some p→∀ q,φ1 j=some q→p.1=q.1→i=j:=by
  intro i j b c p hi hj hbi hcj hp q hq e
  obtain⟨p',f1,f2,f3⟩:=at1 i b hi hbi
  rw[hp] at f2; cases f2
  obtain⟨hm,hh⟩:=hb i b hi hbi
  rcases hh with hh | ⟨_,b1,hb1⟩
  ·exfalso
   rcases h1.src j c q (ha j c hj hcj) hq with⟨j',c',q',g1,g2,g3⟩ | g
   ·obtain⟨c0,hc0,_⟩:=hs j' c' g1
    have:=h.inj i j' b c0 p q' hm hc0 f1 g2 (by rw[e,g3])
    subst this; rw[hh] at g1; cases g1
   ·omega
  ·exact h1.inj i j b1 c p q hb1 (ha j c hj hcj) hp hq e
 refine⟨h1.dom,?_,?_,?_,Nat.le_trans h.size h1.size,?_,?_,h1.os.trans h.os,h1.tape.trans h.tape,h1.output.trans h.output,fun b=>(h1.fz b).trans (h.fz b)⟩
 ·intro i b hi
  by_cases ho:Ov i
  ·obtain⟨p,f1,f2,f3⟩:=at1 i b ho hi
   obtain⟨hm,_⟩:=hb i b ho hi
   obtain⟨p',o,g1,g2,g3⟩:=h.rel i b hm
   rw[f1] at g1; cases g1
   exact⟨p,o,f2,(h1.keep p.1 f3 (out i b p ho hi f1)).trans g2,g3.mono hx⟩
  ·exact h1.rel i b (ha i b ho hi)
 ·intro i j b c p q hi hj hp hq e
  by_cases ho:Ov i <;> by_cases hoj:Ov j
  ·obtain⟨p',f1,f2,f3⟩:=at1 i b ho hi
   obtain⟨q',g1,g2,g3⟩:=at1 j c hoj hj
   rw[hp] at f2; cases f2
   rw[hq] at g2; cases g2
   exact h.inj i j b c p q (hb i b ho hi).1 (hb j c hoj hj).1 f1 g1 e
  ·exact mixed i j b c p ho hoj hi hj hp q hq e
  ·exact(mixed j i c b q hoj ho hj hi hq p hp e.symm).symm
  ·exact h1.inj i j b c p q (ha i b ho hi) (ha j c hoj hj) hp hq e
 ·intro b hb0 nb
  have hnw:¬ (IJ φ Hs).w b:=by
   intro x
   rcases ww b x with y | y
   ·exact nb y
   ·omega
  rw[h1.keep b (by have:=h.size; omega) hnw]
  exact h.keep b hb0 nb
 ·intro i b p hi hr hp
  by_cases ho:Ov i
  ·obtain⟨p',f1,f2,f3⟩:=at1 i b ho hi
   rw[hp] at f2; cases f2
   exact h.wr i b p (hb i b ho hi).1 hr f1
  ·rcases h1.wr i b p (ha i b ho hi) hr hp with x | x
   ·exact ww _ x
   ·exact .inr (Nat.le_trans h.size x)
 ·intro i b p hi hp
  by_cases ho:Ov i
  ·obtain⟨p',f1,f2,f3⟩:=at1 i b ho hi
   rw[hp] at f2; cases f2
   exact h.src i b p (hb i b ho hi).1 f1
  ·rcases h1.src i b p (ha i b ho hi) hp with x | x
   ·exact wr _ x
   ·exact .inr (Nat.le_trans h.size x)
theorem I.pushAt{Hn:Hp}(h:I w₀ W φ H n w){i:Nat}(hi:φ i=none)(hin:i<n){b:Blk}{o:Obj}{cp:Nat}(hb:BR φ b o cp)
  (hn:∀ j,Hn.get j=if j=i then some b else H.get j) (hro:b.ro=false:=by rfl) :
  I w₀ W (ext φ i (w.heap.size,cp)) Hn n { w with heap:=w.heap.push o }:=by
 have hle:=SQ (p:=(w.heap.size,cp)) hi
 have oldφ:∀ j q,j≠i→ext φ i (w.heap.size,cp) j=some q→φ j=some q:=by
  intro j q hj e; unfold ext at e; rwa [if_neg hj] at e
 refine⟨?_,?_,?_,?_,?_,?_,?_,h.os,h.tape,h.output,frOb_push h (hb.fr hro)⟩
 ·intro j p e
  by_cases x:j=i
  ·subst x; rw[gj] at e; cases e; exact hin
  ·exact h.dom j p (oldφ j p x e)
 ·intro j c e
  rw[hn] at e
  split at e
  ·rename_i x; subst x; cases e
   exact⟨_,o,gj _ _ _,by simp,hb.mono hle⟩
  ·obtain⟨p,o',f,g,k⟩:=h.rel j c e
   refine⟨p,o',hle _ _ f,?_,k.mono hle⟩
   have:=h.lt e f
   show(w.heap.push o)[p.1]?=_
   rw[Array.getElem?_push,if_neg (by omega)]; exact g
 ·intro j k c d p q e f g g' x
  rw[hn] at e f
  split at e <;> split at f
  ·rename_i a b; rw[a,b]
  ·rename_i a b
   subst a; rw[gj] at g; cases g
   have:=h.lt f (oldφ k q b g'); simp at x; omega
  ·rename_i a b
   subst b; rw[gj] at g'; cases g'
   have:=h.lt e (oldφ j p a g); simp at x; omega
  ·rename_i a b
   exact h.inj j k c d p q e f (oldφ j p a g) (oldφ k q b g') x
 ·intro c hc nc
  show(w.heap.push o)[c]?=_
  rw[Array.getElem?_push,if_neg (by have:=h.size; omega)]; exact h.keep c hc nc
 ·have:=h.size; simp; omega
 ·intro j c p e r g
  rw[hn] at e
  split at e
  ·rename_i x; subst x; rw[gj] at g; cases g
   exact .inr h.size
  ·rename_i x; exact h.wr j c p e r (oldφ j p x g)
 ·intro j c p e g
  rw[hn] at e
  split at e
  ·rename_i x; subst x; rw[gj] at g; cases g
   exact .inr h.size
  ·rename_i x; exact h.src j c p e (oldφ j p x g)
end Go.Ev
end
section
namespace Go.Ev
open Go
variable {P:Program} {w₀:World} {W:Sets} {φ:Phi} {st st':St} {w:World} {H:Hp} {n:Nat} {rec:Rec}
 {f:FuncId} {t:Array Value} {k:List Item} {ds:List Deferred} {kd:CallKind} {ro:Option Nat} {cs:List Frame} {N:Nat}
def LB(A:List Nat)(x:Nat)(log:List Ent)(i:Nat):Prop:=∃ e ∈ log,bit A x e.x=false∧∃ ty a,e.k=.l ty a∧a.block=i
def AB(A:List Nat)(x:Nat)(log:List Ent)(i:Nat):Prop:=∃ e ∈ log,bit A x e.x=false∧∃ c ty,e.k=.a i c ty
theorem LB.cons{A:List Nat}{x i:Nat}{e:Ent}{l:List Ent}:LB A x (e::l) i↔(bit A x e.x=false∧∃ ty a,e.k=.l ty a∧a.block=i)∨LB A x l i:=by
 unfold LB; simp
theorem AB.cons{A:List Nat}{x i:Nat}{e:Ent}{l:List Ent}:AB A x (e::l) i↔(bit A x e.x=false∧∃ c ty,e.k=.a i c ty)∨AB A x l i:=by
 unfold AB; simp
theorem maskL_ok{A:List Nat}{x:Nat}{H:Hp}:∀ {l:List Ent} {H1:Hp},maskL A x H l=some H1→Sub H1 H∧∀ i b,LB A x l i→H1.get i=some b→b.ro=true
 | [],H1,e=>by
  simp only[maskL,Option.some.injEq] at e; subst e
  exact⟨fun i b h=>⟨b,h,.inl rfl⟩,fun i b ⟨e,he,_⟩=>nomatch he⟩
 | e::l,H1,h=>by
  simp only[maskL] at h
  split at h
  ·cases h
  ·rename_i H2 h2
   obtain⟨s1,s2⟩:=maskL_ok h2
   split at h
   ·rename_i ty a hb hk
    split at h
    ·rename_i c t r vec hc
     simp only[Option.some.injEq] at h; subst h
     constructor
     ·intro i b hi
      rw[Tr.get_set] at hi
      split at hi
      ·rename_i q; subst q
       cases hi
       obtain⟨b0,h0,hbb⟩:=s1 _ _ hc
       rcases hbb with hbb | ⟨c',t',r',v',e1,e2⟩
       ·subst hbb; exact⟨_,h0,.inr ⟨c,t,r,vec,rfl,rfl⟩⟩
       ·cases e2; exact⟨_,h0,.inr ⟨c,t,r',vec,e1,rfl⟩⟩
      ·exact s1 i b hi
     ·intro i b hL hi
      rw[Tr.get_set] at hi
      split at hi
      ·cases hi; rfl
      ·rename_i q
       refine s2 i b ?_ hi
       rcases LB.cons.1 hL with⟨_,ty',a',e1,e2⟩ | hL
       ·rw[hk] at e1; cases e1; exact absurd e2.symm q
       ·exact hL
    ·rename_i c hc
     simp only[Option.some.injEq] at h; subst h
     refine⟨s1,fun i b hL hi=>?_⟩
     rcases LB.cons.1 hL with⟨_,ty',a',e1,e2⟩ | hL
     ·rw[hk] at e1; cases e1
      rw[e2] at hc
      rw[hc] at hi; cases hi; rfl
     ·exact s2 i b hL hi
    ·cases h
   ·rename_i hno
    simp only[Option.some.injEq] at h; subst h
    refine⟨s1,fun i b hL hi=>s2 i b ?_ hi⟩
    rcases LB.cons.1 hL with⟨e0,ty',a',e1,e2⟩ | hL
    ·exact(hno ty' a' e0 e1).elim
    ·exact hL
theorem Ey{A:List Nat}{x:Nat}{H:Hp}(i:Nat):∀(l:List Ent),(AB A x l i→(RX A x H l).get i=none)∧(¬ AB A x l i→(RX A x H l).get i=H.get i)
 | []=>⟨fun h=>absurd h (by simp [AB]),fun _=>rfl⟩
 | e::l=>by
  obtain⟨h1,h2⟩:=Ey (A:=A) (x:=x) (H:=H) i l
  simp only[RX]
  split
  ·rename_i id c ty hb hk
   rw[Tr.get_set]
   constructor
   ·intro h
    split
    ·rfl
    ·rename_i q
     refine h1 ?_
     rcases AB.cons.1 h with⟨_,c',t',e1⟩ | h
     ·rw[hk] at e1; cases e1; exact absurd rfl q
     ·exact h
   ·intro h
    rw[if_neg (fun q=>h (AB.cons.2 (.inl ⟨hb,c,ty,by rw[hk,q]⟩)))]
    exact h2 (fun q=>h (AB.cons.2 (.inr q)))
  ·rename_i hno
   constructor
   ·intro h
    refine h1 ?_
    rcases AB.cons.1 h with⟨e0,c',t',e1⟩ | h
    ·exact(hno i c' t' e0 e1).elim
    ·exact h
   ·intro h; exact h2 (fun q=>h (AB.cons.2 (.inr q)))
theorem backL_ok{A:List Nat}{x:Nat}{H0 H:Hp}:∀ {l:List Ent} {H2:Hp},backL A x H0 H l=some H2 →
  ∀ i,(LB A x l i→H2.get i=H0.get i∧∃ b,H.get i=some b)∧(¬ LB A x l i→H2.get i=H.get i)
 | [],H2,h=>by
  simp only[backL,Option.some.injEq] at h; subst h
  exact fun i=>⟨fun h=>absurd h (by simp [LB]),fun _=>rfl⟩
 | e::l,H2,h=>by
  simp only[backL] at h
  split at h
  ·cases h
  ·rename_i H3 h3
   have ih:=backL_ok h3
   split at h
   ·rename_i ty a hb hk
    split at h
    ·rename_i b hbb
     simp only[Option.some.injEq] at h; subst h
     intro i
     rw[Tr.get_set]
     by_cases q:i=a.block
     ·subst q
      simp only[if_true]
      exact⟨fun _=>⟨trivial,b,hbb⟩,fun hn=>absurd (LB.cons.2 (.inl ⟨hb,ty,a,hk,rfl⟩)) hn⟩
     ·rw[if_neg q]
      constructor
      ·intro hL
       refine(ih i).1 ?_
       rcases LB.cons.1 hL with⟨_,ty',a',e1,e2⟩ | hL
       ·rw[hk] at e1; cases e1; exact absurd e2.symm q
       ·exact hL
      ·intro hn; exact(ih i).2 (fun q=>hn (LB.cons.2 (.inr q)))
    ·cases h
   ·rename_i hno
    simp only[Option.some.injEq] at h; subst h
    intro i
    constructor
    ·intro hL
     refine(ih i).1 ?_
     rcases LB.cons.1 hL with⟨e0,ty',a',e1,e2⟩ | hL
     ·exact(hno ty' a' e0 e1).elim
     ·exact hL
    ·intro hn; exact(ih i).2 (fun q=>hn (LB.cons.2 (.inr q)))
theorem PW{A:List Nat}{x:Nat}{H0 H:Hp}(i:Nat):∀(l:List Ent),(AB A x l i→(RY A x H0 H l).get i=H0.get i)∧(¬ AB A x l i→(RY A x H0 H l).get i=H.get i)
 | []=>⟨fun h=>absurd h (by simp [AB]),fun _=>rfl⟩
 | e::l=>by
  obtain⟨h1,h2⟩:=PW (A:=A) (x:=x) (H0:=H0) (H:=H) i l
  simp only[RY]
  split
  ·rename_i id c ty hb hk
   rw[Tr.get_set]
   constructor
   ·intro h
    split
    ·rename_i q; rw[q]
    ·rename_i q
     refine h1 ?_
     rcases AB.cons.1 h with⟨_,c',t',e1⟩ | h
     ·rw[hk] at e1; cases e1; exact absurd rfl q
     ·exact h
   ·intro h
    rw[if_neg (fun q=>h (AB.cons.2 (.inl ⟨hb,c,ty,by rw[hk,q]⟩)))]
    exact h2 (fun q=>h (AB.cons.2 (.inr q)))
  ·rename_i hno
   constructor
   ·intro h
    refine h1 ?_
    rcases AB.cons.1 h with⟨e0,c',t',e1⟩ | h
    ·exact(hno i c' t' e0 e1).elim
    ·exact h
   ·intro h; exact h2 (fun q=>h (AB.cons.2 (.inr q)))
noncomputable def TF(S:List Nat)(log:List Ent)(T0:Tm)(d:Nat):Option Value:=
 match log.find? (fun e=>e.dst == some d) with
 | some e=>if e.x ∈ S then some e.v else T0.get d
 | none=>T0.get d
def TRF(φ:Phi)(F:Nat→Option Value)(t:Array Value):Prop:=∀ d v,F d=some v→∃ v',t[d]?=some v'∧VR φ v v'
theorem TRF.mono{φ ψ:Phi}(h:φ.le ψ){F:Nat→Option Value}(g:TRF φ F t):TRF ψ F t:=fun d v e=>let ⟨v',a,b⟩:=g d v e; ⟨v',a,b.mono h⟩
def Pend(S:List Nat)(log:List Ent)(i:Nat):Prop:=∃ e ∈ log,e.x ∉ S∧∃ c ty,e.k=.a i c ty
def Closed(A S:List Nat):Prop:=∀ x ∈ S,∀ y,bit A x y=true→y ∈ S
structure Uniq (log:List Ent):Prop where
 x:∀ e ∈ log,∀ e' ∈ log,e.x=e'.x→e=e'
 d:∀ e ∈ log,∀ e' ∈ log,∀ d,e.dst=some d→e'.dst=some d→e=e'
 a:∀ e ∈ log,∀ e' ∈ log,∀ i c ty c' ty',e.k=.a i c ty→e'.k=.a i c' ty'→e=e'
theorem find_dst{log:List Ent}(h:Uniq log){e:Ent}(he:e ∈ log){d:Nat}(hd:e.dst=some d):log.find? (fun e=>e.dst == some d)=some e:=by
 cases hf:log.find? (fun e=>e.dst == some d) with
 | none=>
  have:=List.find?_eq_none.1 hf e he
  simp [hd] at this
 | some e'=>
  have h1:=List.mem_of_find?_eq_some hf
  have h2:=List.find?_some hf
  simp at h2
  rw[h.d e' h1 e he d h2 hd]
def RunOk(P:Program)(ops:List Oper)(e:Ent)(o:Oper)(r:Tm):Prop:=
 (wQ ops o.guard r=some false∧e.v=undef∧(e.k=.p∨e.k=.e)) ∨
 (wQ ops o.guard r=some true∧match e.k with
  | .p=>∀ H n D,aOp P o.op o.type ⟨r,H,n,D⟩=some (e.v,⟨r,H,n,D⟩)
  | .l ty ad=>∃ a,o.op=.load ty a∧opd a r=some (.pointer (some ad))
  | .a id c ty=>sV o.op=.a∧∃ H,aOp P o.op o.type ⟨r,H,id,[]⟩=some (e.v,vy ⟨r,H,id,[]⟩ c ty none)
  | .e=>True
  | .m t mv k ok v=>v=e.v∧∃ a b,o.op=.lookup t a b ok∧opd a r=some mv∧opd b r=some k)
def EntOk(P:Program)(N:Nat)(ops:List Oper)(A:List Nat)(T0:Tm)(log:List Ent)(e:Ent):Prop:=
 ∃ o r,ops[e.x]?=some o∧e.dst=o.dst∧inN N o.dst=true∧RunOk P ops e o r∧(∀ d,d ∉ e.slots→r.get d=none) ∧
  ∀ S,Closed A S→(∀ y,bit A e.x y=true→y ∈ S)→e.x ∉ S→∀ d ∈ e.slots,TF S log T0 d=r.get d
def Cur(P:Program)(H:Hp)(n:Nat)(e:Ent):Prop:=
 match e.k with
 | .l ty ad=>az P H ty ad=some e.v
 | .a id c ty=>H.get id=some (.cells c ty false none)∧id<n
 | .m t mv k ok v=>lk P H t mv k ok=some v
 | _=>True
structure J (P:Program) (N:Nat) (ops:List Oper) (A:List Nat) (T0:Tm) (n0:Nat) (w₀:World) (W:Sets) (g:Reg) (S:List Nat) (φ:Phi) (t:Array Value) (w:World) (Hm:Hp):Prop where
 tr:TRF φ (TF S g.log T0) t
 sz:t.size=N
 i:I w₀ W φ Hm g.n w
 hm:∀ i,(Pend S g.log i→Hm.get i=none)∧(¬ Pend S g.log i→Hm.get i=g.H.get i)
 pend:∀ i,Pend S g.log i→φ i=none
 sub:∀ x ∈ S,∃ e ∈ g.log,e.x=x
 cl:Closed A S
 un:Uniq g.log
 ent:∀ e ∈ g.log,EntOk P N ops A T0 g.log e
 cur:∀ e ∈ g.log,e.x ∉ S→Cur P g.H g.n e
 eff:∀ e ∈ g.log,e.k=.e→e.x ∈ S
 T:∀ d,g.T.get d=match g.log.find? (fun e=>e.dst == some d) with | some e=>some e.v | none=>T0.get d
 nle:n0≤g.n
 ids:∀ e ∈ g.log,∀ i c ty,e.k=.a i c ty→n0≤i∧i<g.n
end Go.Ev
end
