import Derived.Test.YtakjjillnllocaaEv15
namespace Go.Ev
noncomputable section
open Go
def bindsAny (e : Edge) : Bool := Region.binds .any e
def ancsGo : List Oper → List Nat → List Nat
  | [], acc => acc
  | o :: l, acc => ancsGo l (acc ++ [o.after.toList.foldl (fun s e => match bindsAny e with | true => s ||| 2 ^ e.on ||| acc.getD e.on 0 | false => s) 0])
def ancs (ops : List Oper) : List Nat := ancsGo ops []
def bit (A : List Nat) (x y : Nat) : Bool := (A.getD x 0).testBit y
def ancOk (ops : List Oper) (A : List Nat) : Bool :=
  (List.range ops.length).all fun x => match ops[x]? with
    | none => false
    | some o => o.after.toList.all (fun e => !bindsAny e || Nat.blt e.on x) &&
      (List.range x).all (fun y => !bit A x y || o.after.toList.any fun e => bindsAny e && (Nat.beq e.on y || bit A e.on y)) && Nat.blt (A.getD x 0) (2 ^ x)
inductive Kind where
  | p | l | a | e | m
def kindOf : Op → Kind
  | .move _ | .assign _ | .pick .. | .build .. | .nilCheck _ | .binOp .. | .unOp .. | .convert .. | .makeFunc .. | .slice .. | .fieldAddr .. | .field .. | .indexAddr .. | .index .. | .extract .. => .p
  | .load .. => .l
  | .alloc _ | .box .. | .buildSlice .. | .makeSlice .. => .a
  | .lookup .. => .m
  | .call { callee := .builtin b, .. } => match b with | .len | .min | .max => .p | _ => .e
  | _ => .e
def isE (o : Oper) : Bool := match kindOf o.op with | .e => true | _ => false
def orderGo (ops : List Oper) (A : List Nat) : Nat → List Nat → Nat → List Nat
  | 0, _, _ => []
  | k + 1, todo, done =>
    let ready := todo.filter fun x => Nat.beq ((A.getD x 0) ||| done) done
    match ready.find? (fun x => match ops[x]? with | some o => !isE o | none => false) with
    | some x => x :: orderGo ops A k (todo.filter fun y => !Nat.beq y x) (done ||| 2 ^ x)
    | none => match ready with
      | x :: _ => x :: orderGo ops A k (todo.filter fun y => !Nat.beq y x) (done ||| 2 ^ x)
      | [] => []
def order (ops : List Oper) (A : List Nat) : List Nat := orderGo ops A ops.length (List.range ops.length) 0
def slotsOf (ops : List Oper) (o : Oper) : List Nat :=
  (o.op.operands.toList.filterMap fun | .tmp t => some t | _ => none) ++
  (match o.guard with
   | some (j, _) => match ops[j]? with | some oj => oj.dst.toList | none => []
   | none => [])
def restrict (T : Tm) : List Nat → Tm
  | [] => .nil
  | d :: l => match T.get d with
    | some v => (restrict T l).set d (some v)
    | none => restrict T l
theorem restrict_get (T : Tm) : ∀ (l : List Nat) (d : Nat), (restrict T l).get d = if d ∈ l then T.get d else none
  | [], d => by simp [restrict, Tr.get_nil]
  | x :: l, d => by
    simp only [restrict]
    by_cases h : d = x
    · subst h
      cases hx : T.get d with
      | none => simp only [restrict_get T l d, hx]; simp
      | some v => simp [Tr.get_set]
    · cases hx : T.get x with
      | none => simp only [restrict_get T l d]; simp [h]
      | some v => simp only [Tr.get_set, if_neg h, restrict_get T l d]; simp [h]
inductive Extra where
  | p
  | l (t : TypeId) (a : Addr)
  | a (id : Nat) (c : List Value) (e : TypeId)
  | e
  | m (t : TypeId) (mv k : Value) (ok : Bool) (v : Value)
structure Ent where
  x : Nat
  dst : Option Tmp
  slots : List Nat
  v : Value
  k : Extra
structure Reg where
  log : List Ent
  T : Tm
  H : Hp
  n : Nat
def maskL (A : List Nat) (x : Nat) (H : Hp) : List Ent → Option Hp
  | [] => some H
  | e :: l => match maskL A x H l with
    | none => none
    | some H1 => match bit A x e.x, e.k with
      | false, .l _ a => match H1.get a.block with
        | some (.cells c t _ vec) => some (H1.set a.block (some (.cells c t true vec)))
        | some (.rows _) => some H1
        | _ => none
      | _, _ => some H1
def maskA (A : List Nat) (x : Nat) (H : Hp) : List Ent → Hp
  | [] => H
  | e :: l => match bit A x e.x, e.k with
    | false, .a id _ _ => (maskA A x H l).set id none
    | _, _ => maskA A x H l
def backL (A : List Nat) (x : Nat) (H0 H : Hp) : List Ent → Option Hp
  | [] => some H
  | e :: l => match backL A x H0 H l with
    | none => none
    | some H1 => match bit A x e.x, e.k with
      | false, .l _ a => match H.get a.block with
        | some _ => some (H1.set a.block (H0.get a.block))
        | none => none
      | _, _ => some H1
def backA (A : List Nat) (x : Nat) (H0 H : Hp) : List Ent → Hp
  | [] => H
  | e :: l => match bit A x e.x, e.k with
    | false, .a id _ _ => (backA A x H0 H l).set id (H0.get id)
    | _, _ => backA A x H0 H l
def sameL : List Value → List Value → Bool
  | [], [] => true
  | .int k n :: l, .int k' n' :: l' => (match decEq k k' with | .isTrue _ => true | .isFalse _ => false) && (match Int.decEq n n' with | .isTrue _ => true | .isFalse _ => false) && sameL l l'
  | .bool b :: l, .bool b' :: l' => (b == b') && sameL l l'
  | _, _ => false
def sameV : Value → Value → Bool
  | .agg ⟨l⟩, .agg ⟨l'⟩ => sameL l l'
  | .tuple ⟨l⟩, .tuple ⟨l'⟩ => sameL l l'
  | v, v' => sameL [v] [v']
def chkE (P : Program) (H : Hp) : Extra → Bool
  | .m t mv k ok v => match lookupV P H t mv k ok with
    | some u => sameV u v
    | none => false
  | _ => true
def chkM (P : Program) (A : List Nat) (x : Nat) (H : Hp) : List Ent → Bool
  | [] => true
  | e :: l => match bit A x e.x with
    | true => chkM P A x H l
    | false => chkE P H e.k && chkM P A x H l
def addE (g : Reg) (x : Nat) (dst : Option Tmp) (slots : List Nat) (v : Value) (k : Extra) (H : Hp) (n : Nat) : Reg :=
  { log := { x, dst, slots, v, k } :: g.log, T := putT g.T dst v, H, n }
def slotOk (A : List Nat) (log : List Ent) (x : Nat) (dst : Option Tmp) (slots : List Nat) : Bool :=
  log.all fun e => (match e.dst with
    | none => true
    | some d => !slots.contains d || bit A x e.x) &&
    (match dst with
    | none => true
    | some d => (!e.slots.contains d || bit A x e.x) && (match e.dst with | none => true | some d' => !Nat.beq d d'))
def drawOp (P : Program) (rec : Rec) (A : List Nat) (o : Oper) (x : Nat) (slots : List Nat) (r : Tm) (rest : List Nat) (g : Reg) : Option Reg :=
  match kindOf o.op with
  | .p => match aOp P o.op o.type { T := r, H := g.H, n := g.n, D := [] } with
    | some (v, _) => some (addE g x o.dst slots v .p g.H g.n)
    | none => none
  | .l => match o.op with
    | .load t a => match opd a r with
      | some (.pointer (some ad)) => match loadV P g.H t ad with
        | some v => some (addE g x o.dst slots v (.l t ad) g.H g.n)
        | none => none
      | _ => none
    | _ => none
  | .a => match aOp P o.op o.type { T := r, H := g.H, n := g.n, D := [] } with
    | some (v, s) => match s.H.get g.n with
      | some (.cells c e false none) => some (addE g x o.dst slots v (.a g.n c e) s.H s.n)
      | _ => none
    | none => none
  | .e => match rest.all (fun y => bit A y x), maskL A x g.H g.log with
    | true, some H1 => match cOp P rec o.op o.type { T := r, H := maskA A x H1 g.log, n := g.n, D := [] } with
      | some (v, s) => match backL A x g.H s.H g.log with
        | some H2 => match chkM P A x (backA A x g.H H2 g.log) g.log with
          | true => some (addE g x o.dst slots v .e (backA A x g.H H2 g.log) s.n)
          | false => none
        | none => none
      | none => none
    | _, _ => none
  | .m => match o.op with
    | .lookup t a b ok => match opd a r, opd b r with
      | some mv, some k => match lookupV P g.H t mv k ok with
        | some v => some (addE g x o.dst slots v (.m t mv k ok v) g.H g.n)
        | none => none
      | _, _ => none
    | _ => none
def inLog (log : List Ent) (x : Nat) : Bool := log.any fun e => Nat.beq e.x x
def drawStep (P : Program) (rec : Rec) (N : Nat) (ops : List Oper) (A : List Nat) (x : Nat) (rest : List Nat) (g : Reg) : Option Reg :=
  match ops[x]? with
  | none => none
  | some o =>
    let slots := slotsOf ops o
    match inN N o.dst && slotOk A g.log x o.dst slots && !inLog g.log x with
    | false => none
    | true =>
      let r := restrict g.T slots
      match wantedA ops o.guard r with
      | none => none
      | some false => match isE o with
        | true => match rest.all (fun y => bit A y x) with
          | true => some (addE g x o.dst slots undef .e g.H g.n)
          | false => none
        | false => some (addE g x o.dst slots undef .p g.H g.n)
      | some true => drawOp P rec A o x slots r rest g
def drawRun (P : Program) (rec : Rec) (N : Nat) (ops : List Oper) (A : List Nat) : List Nat → Reg → Option Reg
  | [], g => some g
  | x :: rest, g => match drawStep P rec N ops A x rest g with
    | none => none
    | some g => drawRun P rec N ops A rest g
def covers (n : Nat) (l : List Nat) : Bool := (List.range n).all fun x => l.contains x
def drawE (P : Program) (rec : Rec) : Draw := fun _ N ops st =>
  let A := ancs ops
  let π := order ops A
  match ancOk ops A && covers ops.length π && P.follows .mixedOrders with
  | true => match drawRun P rec N ops A π { log := [], T := st.T, H := st.H, n := st.n } with
    | some g => some { st with T := g.T, H := g.H, n := g.n }
    | none => none
  | false => none
end
end Go.Ev
