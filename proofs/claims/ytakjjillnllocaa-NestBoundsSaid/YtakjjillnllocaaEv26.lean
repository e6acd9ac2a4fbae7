import Derived.Test.YtakjjillnllocaaEv25
namespace Go.Ev
noncomputable section
open Go
def kindAt (ops : List Oper) (x : Nat) : Bool := match ops[x]? with
  | some o => match kindOf o.op with
    | .l | .a | .m => true
    | _ => false
  | none => false
def exOf (A : List Nat) (ops : List Oper) (x : Nat) : List Ent → List Extra
  | [] => []
  | e :: l => match bit A x e.x with
    | true => exOf A ops x l
    | false => match kindAt ops e.x with
      | true => e.k :: exOf A ops x l
      | false => exOf A ops x l
def maskXL : List Extra → Hp → Option Hp
  | [], H => some H
  | y :: l, H => match maskXL l H with
    | none => none
    | some H1 => match y with
      | .l _ a => match H1.get a.block with
        | some (.cells c t _ vec) => some (H1.set a.block (some (.cells c t true vec)))
        | some (.rows _) => some H1
        | _ => none
      | _ => some H1
def maskXA : List Extra → Hp → Hp
  | [], H => H
  | y :: l, H => match y with
    | .a id _ _ => (maskXA l H).set id none
    | _ => maskXA l H
def backXL : List Extra → Hp → Hp → Option Hp
  | [], _, H => some H
  | y :: l, H0, H => match backXL l H0 H with
    | none => none
    | some H1 => match y with
      | .l _ a => match H.get a.block with
        | some _ => some (H1.set a.block (H0.get a.block))
        | none => none
      | _ => some H1
def backXA : List Extra → Hp → Hp → Hp
  | [], _, H => H
  | y :: l, H0, H => match y with
    | .a id _ _ => (backXA l H0 H).set id (H0.get id)
    | _ => backXA l H0 H
def chkX (P : Program) (H : Hp) : List Extra → Bool
  | [] => true
  | y :: l => chkE P H y && chkX P H l
def makeRow (P : Program) (t : TypeId) (l c : Value) : Option (Nat × Nat × List Value × TypeId) := match sliceElem P t, l, c with
  | some e, .int .i64 (.ofNat l), .int .i64 (.ofNat c) => match szT P e, bytesT P e, zeroT P e with
    | some s, some b, some z => if l ≤ c ∧ bigOk c s b ∧ (cellsV z).length = s then some (l, c, repl c (cellsV z), e) else none
    | _, _, _ => none
  | _, _, _ => none
section
variable {ρ : Type}
abbrev KD (ρ : Type) := Value → Extra → Hp → Nat → Option ρ
def chkK (b : Bool) (r : Option ρ) : Option ρ := match b with
  | true => r
  | false => none
def effK (P : Program) (ex : List Extra) (H : Hp) (n : Nat) (op : Hp → Nat → (Value → Hp → Nat → Option ρ) → Option ρ) (k : Value → Hp → Nat → Option ρ) : Option ρ :=
  match ex with
  | [] => op H n k
  | ex => bindO (maskXL ex H) fun H1 => op (maskXA ex H1) n fun v H2 n2 => bindO (backXL ex H H2) fun H3 => chkK (chkX P (backXA ex H H3) ex) (k v (backXA ex H H3) n2)
def guardD (x : Value) (want : Bool) (op : KD ρ → Option ρ) (ex : Extra) (H : Hp) (n : Nat) (k : KD ρ) : Option ρ :=
  match x with
  | .bool b => match b == want with
    | true => op k
    | false => k undef ex H n
  | .tuple ⟨[]⟩ => k undef ex H n
  | _ => none
def opD (P : Program) (cal : Cal) (ex : List Extra) (o : Oper) (T : Tm) (H : Hp) (n : Nat) (k : KD ρ) : Option ρ :=
  match kindOf o.op with
  | .p => opE P cal o.op o.type T H n fun v _ _ => k v .p H n
  | .l => match o.op with
    | .load t a => getK (opd a T) fun v => bindO (addrV v) fun ad => bindO (loadV P H t ad) fun v => k v (.l t ad) H n
    | _ => none
  | .a => match o.op with
    | .alloc e => bindO (zeroT P e) fun z => newK (cellsV z) e H n fun H' n' => k (ptr n) (.a n (cellsV z) e) H' n'
    | .box e x => getK (opd x T) fun v => newK (cellsV v) e H n fun H' n' => k (ptr n) (.a n (cellsV v) e) H' n'
    | .buildSlice t len parts => getK (partsV T parts.toList) fun ps => bindO (rowOf P t len ps) fun q => newK q.1 q.2 H n fun H' n' => k (.slice (some ⟨n, 0, none⟩) len len) (.a n q.1 q.2) H' n'
    | .makeSlice t l c => getK (opd l T) fun l => getK (opd c T) fun c => bindO (makeRow P t l c) fun q => newK q.2.2.1 q.2.2.2 H n fun H' n' => k (.slice (some ⟨n, 0, none⟩) q.1 q.2.1) (.a n q.2.2.1 q.2.2.2) H' n'
    | _ => none
  | .e => effK P ex H n (fun H n k => opE P cal o.op o.type T H n k) fun v H n => k v .e H n
  | .m => match o.op with
    | .lookup t a b ok => getK (opd a T) fun mv => getK (opd b T) fun kx => bindO (lookupV P H t mv kx ok) fun v => k v (.m t mv kx ok v) H n
    | _ => none
def exNo (o : Oper) : Extra := match isE o with
  | true => .e
  | false => .p
def stepD (P : Program) (cal : Cal) (ops : List Oper) (ex : List Extra) (o : Oper) (T : Tm) (H : Hp) (n : Nat) (k : KD ρ) : Option ρ :=
  match o.guard with
  | none => opD P cal ex o T H n k
  | some (j, want) => getK (guardV ops j T) fun x => guardD x want (fun k => opD P cal ex o T H n k) (exNo o) H n k
def drawRunK (P : Program) (cal : Cal) (N : Nat) (ops : List Oper) (A : List Nat) : List Nat → Reg → (Reg → Option ρ) → Option ρ
  | [], g, k => k g
  | x :: rest, g, k => match ops[x]? with
    | none => none
    | some o => match inN N o.dst && slotOk A g.log x o.dst (slotsOf ops o) && !inLog g.log x && (!isE o || rest.all fun y => bit A y x) with
      | false => none
      | true => stepD P cal ops (exOf A ops x g.log) o (restrict g.T (slotsOf ops o)) g.H g.n fun v ex H n => drawRunK P cal N ops A rest (addE g x o.dst (slotsOf ops o) v ex H n) k
def drawK (P : Program) (cal : Cal) (N : Nat) (ops : List Oper) (T : Tm) (H : Hp) (n : Nat) (k : Tm → Hp → Nat → Option ρ) : Option ρ :=
  match ancOk ops (ancs ops) && covers ops.length (order ops (ancs ops)) && P.follows .mixedOrders with
  | true => drawRunK P cal N ops (ancs ops) (order ops (ancs ops)) { log := [], T, H, n } fun g => k g.T g.H g.n
  | false => none
end
variable {P : Program} {cal : Cal} {rec : Rec} {ρ : Type} {r : ρ} {N : Nat} {ops : List Oper} {A : List Nat}
def LogOk (ops : List Oper) (log : List Ent) : Prop := ∀ e, e ∈ log → kindAt ops e.x = false → e.k = .p ∨ e.k = .e
theorem maskXL_eq {x : Nat} {H : Hp} : ∀ {log : List Ent}, LogOk ops log → maskL A x H log = maskXL (exOf A ops x log) H
  | [], _ => rfl
  | e :: l, h => by
    have ih := maskXL_eq (x := x) (H := H) (log := l) (fun e he => h e (List.mem_cons_of_mem _ he))
    have h0 := h e List.mem_cons_self
    simp only [maskL, exOf, ih]
    cases hb : bit A x e.x with
    | true =>
      simp only
      cases maskXL (exOf A ops x l) H <;> rfl
    | false =>
      simp only
      cases hk : kindAt ops e.x with
      | true =>
        simp only [maskXL]
        cases maskXL (exOf A ops x l) H with
        | none => rfl
        | some H1 => cases e.k <;> rfl
      | false =>
        simp only
        cases maskXL (exOf A ops x l) H with
        | none => rfl
        | some H1 => rcases h0 hk with q | q <;> rw [q]
theorem maskXA_eq {x : Nat} {H : Hp} : ∀ {log : List Ent}, LogOk ops log → maskA A x H log = maskXA (exOf A ops x log) H
  | [], _ => rfl
  | e :: l, h => by
    have ih := maskXA_eq (x := x) (H := H) (log := l) (fun e he => h e (List.mem_cons_of_mem _ he))
    have h0 := h e List.mem_cons_self
    simp only [maskA, exOf, ih]
    cases hb : bit A x e.x with
    | true => rfl
    | false =>
      simp only
      cases hk : kindAt ops e.x with
      | true =>
        simp only [maskXA]
        cases e.k <;> rfl
      | false => rcases h0 hk with q | q <;> rw [q]
theorem backXL_eq {x : Nat} {H0 H : Hp} : ∀ {log : List Ent}, LogOk ops log → backL A x H0 H log = backXL (exOf A ops x log) H0 H
  | [], _ => rfl
  | e :: l, h => by
    have ih := backXL_eq (x := x) (H0 := H0) (H := H) (log := l) (fun e he => h e (List.mem_cons_of_mem _ he))
    have h0 := h e List.mem_cons_self
    simp only [backL, exOf, ih]
    cases hb : bit A x e.x with
    | true =>
      simp only
      cases backXL (exOf A ops x l) H0 H <;> rfl
    | false =>
      simp only
      cases hk : kindAt ops e.x with
      | true =>
        simp only [backXL]
        cases backXL (exOf A ops x l) H0 H with
        | none => rfl
        | some H1 => cases e.k <;> rfl
      | false =>
        simp only
        cases backXL (exOf A ops x l) H0 H with
        | none => rfl
        | some H1 => rcases h0 hk with q | q <;> rw [q]
theorem chkX_eq {x : Nat} {H : Hp} : ∀ {log : List Ent}, LogOk ops log → chkM P A x H log = chkX P H (exOf A ops x log)
  | [], _ => rfl
  | e :: l, h => by
    have ih := chkX_eq (x := x) (H := H) (log := l) (fun e he => h e (List.mem_cons_of_mem _ he))
    have h0 := h e List.mem_cons_self
    simp only [chkM, exOf, ih]
    cases hb : bit A x e.x with
    | true => rfl
    | false =>
      simp only
      cases hk : kindAt ops e.x with
      | true => rfl
      | false => rcases h0 hk with q | q <;> rw [q] <;> rfl
theorem backXA_eq {x : Nat} {H0 H : Hp} : ∀ {log : List Ent}, LogOk ops log → backA A x H0 H log = backXA (exOf A ops x log) H0 H
  | [], _ => rfl
  | e :: l, h => by
    have ih := backXA_eq (x := x) (H0 := H0) (H := H) (log := l) (fun e he => h e (List.mem_cons_of_mem _ he))
    have h0 := h e List.mem_cons_self
    simp only [backA, exOf, ih]
    cases hb : bit A x e.x with
    | true => rfl
    | false =>
      simp only
      cases hk : kindAt ops e.x with
      | true =>
        simp only [backXA]
        cases e.k <;> rfl
      | false => rcases h0 hk with q | q <;> rw [q]
end
end Go.Ev
