import Derived.Test.YtakjjillnllocaaEv22
namespace Go.Ev
noncomputable section
open Go
def noneO {ρ : Type} : Option ρ := none
def bindO {α ρ : Type} (o : Option α) (k : α → Option ρ) : Option ρ := Option.rec (motive := fun _ => Option ρ) noneO k o
theorem bindO_eq {α ρ : Type} {o : Option α} {k : α → Option ρ} {r : ρ} : bindO o k = some r ↔ ∃ a, o = some a ∧ k a = some r := by
  cases o with
  | none => exact ⟨fun h => by simp [bindO, noneO] at h, fun ⟨a, h, _⟩ => by cases h⟩
  | some a => exact ⟨fun h => ⟨a, rfl, h⟩, fun ⟨b, h, k⟩ => by cases h; exact k⟩
def zz0 {ρ : Type} : Option ρ := none
def zz1 {ρ : Type} : Option ρ := zz0
def zz2 {ρ : Type} : Option ρ := zz1
def zz3 {ρ : Type} : Option ρ := zz2
def zz4 {ρ : Type} : Option ρ := zz3
def zz5 {ρ : Type} : Option ρ := zz4
def zz6 {ρ : Type} : Option ρ := zz5
def zz7 {ρ : Type} : Option ρ := zz6
def zz8 {ρ : Type} : Option ρ := zz7
def zz9 {ρ : Type} : Option ρ := zz8
def zz10 {ρ : Type} : Option ρ := zz9
def zz11 {ρ : Type} : Option ρ := zz10
def zz12 {ρ : Type} : Option ρ := zz11
def zz13 {ρ : Type} : Option ρ := zz12
def zz14 {ρ : Type} : Option ρ := zz13
def zz15 {ρ : Type} : Option ρ := zz14
def zz16 {ρ : Type} : Option ρ := zz15
def zz17 {ρ : Type} : Option ρ := zz16
def zz18 {ρ : Type} : Option ρ := zz17
def zz19 {ρ : Type} : Option ρ := zz18
def zz20 {ρ : Type} : Option ρ := zz19
def zz21 {ρ : Type} : Option ρ := zz20
def zz22 {ρ : Type} : Option ρ := zz21
def zz23 {ρ : Type} : Option ρ := zz22
def zz24 {ρ : Type} : Option ρ := zz23
def zz25 {ρ : Type} : Option ρ := zz24
def zz26 {ρ : Type} : Option ρ := zz25
def zz27 {ρ : Type} : Option ρ := zz26
def zz28 {ρ : Type} : Option ρ := zz27
def zz29 {ρ : Type} : Option ρ := zz28
def zz30 {ρ : Type} : Option ρ := zz29
def zz31 {ρ : Type} : Option ρ := zz30
def zz32 {ρ : Type} : Option ρ := zz31
def zz33 {ρ : Type} : Option ρ := zz32
def zz34 {ρ : Type} : Option ρ := zz33
def zz35 {ρ : Type} : Option ρ := zz34
def zz36 {ρ : Type} : Option ρ := zz35
def zz37 {ρ : Type} : Option ρ := zz36
def zz38 {ρ : Type} : Option ρ := zz37
def zz39 {ρ : Type} : Option ρ := zz38
def zz40 {ρ : Type} : Option ρ := zz39
theorem zz_eq {ρ : Type} : (zz40 : Option ρ) = none := rfl
def getK {α ρ : Type} (o : Option α) (k : α → Option ρ) : Option ρ := Option.rec (motive := fun _ => Option ρ) zz40 k o
theorem getK_eq {α ρ : Type} {o : Option α} {k : α → Option ρ} {r : ρ} : getK o k = some r ↔ ∃ a, o = some a ∧ k a = some r := by
  cases o with
  | none => exact ⟨fun h => by simp [getK, zz_eq] at h, fun ⟨a, h, _⟩ => by cases h⟩
  | some a => exact ⟨fun h => ⟨a, rfl, h⟩, fun ⟨b, h, k⟩ => by cases h; exact k⟩
structure Cal where
  call : FuncId → List Value → Hp → Nat → Option (Value × Hp × Nat)
  body : Nat → FuncId → Code → St → Option (Ex × St)
structure Cal.Ok (P : Program) (cal : Cal) (rec : Rec) : Prop where
  call : ∀ f args (st : St) r, cal.call f args st.H st.n = some r → callB P rec f args st = some (r.1, { st with H := r.2.1, n := r.2.2 })
  body : ∀ l f c st r, cal.body l f c st = some r → rec (some l) f c st = some r
def pickV (c a b : Value) : Option Value := match c with
  | .bool true => some a
  | .bool false => some b
  | _ => none
def addrV (v : Value) : Option Addr := match v with
  | .pointer (some a) => some a
  | _ => none
def buildP (P : Program) (t : TypeId) (ps : List (Nat × Value)) : Option Value :=
  match zeroT P t with
  | some z => match P.underlying t with
    | some (.struct fs) => match places P fs.toList with
      | some pl => match fillV (pl[·]?) (cellsV z) ps with
        | some c => some (.agg ⟨c⟩)
        | none => none
      | none => none
    | some (.array _ e) => match szT P e with
      | some s => match fillV (fun i => some (i * s, s)) (cellsV z) ps with
        | some c => some (.agg ⟨c⟩)
        | none => none
      | none => none
    | _ => none
  | none => none
theorem buildV_of {P : Program} {T : Tm} {t : TypeId} {parts : List (Nat × Operand)} {ps : List (Nat × Value)} {v : Value}
    (h : partsV T parts = some ps) (e : buildP P t ps = some v) : buildV P T t parts = some v := by
  unfold buildV
  rw [h]
  unfold buildP at e
  cases hz : zeroT P t with
  | none => rw [hz] at e; cases e
  | some z => rw [hz] at e; exact e
def nilV (v : Value) : Option Value := match v with
  | .pointer (some a) => some (.pointer (some a))
  | .func (.func f) a b => some (.func (.func f) a b)
  | _ => none
def storeP (P : Program) (t : TypeId) (a v : Value) (H : Hp) : Option Hp := match a with
  | .pointer (some a) => match szT P t with
    | some s => if (cellsV v).length = s then storeN H a (cellsV v) else none
    | none => none
  | _ => none
def pureSem (P : Program) (v : Value) (m : Sem Value) : Option Value := match pureV v with
  | true => match semPure P m with
    | some u => match pureV u with
      | true => some u
      | false => none
    | none => none
  | false => none
def rowOf (P : Program) (t : TypeId) (len : Nat) (ps : List (Nat × Value)) : Option (List Value × TypeId) :=
  match sliceElem P t with
  | some e => match szT P e, zeroT P e with
    | some s, some z => if len * s ≤ 16777216 ∧ (cellsV z).length = s ∧ len < capV then
        match fillV (fun i => some (i * s, s)) (repl len (cellsV z)) ps with
        | some c => some (c, e)
        | none => none
      else none
    | _, _ => none
  | none => none
def tupV (v : Value) (i : Nat) : Option Value := match v with
  | .tuple vs => vs.toList[i]?
  | _ => none
section
variable {ρ : Type}
def newK (c : List Value) (e : TypeId) (H : Hp) (n : Nat) (k : Hp → Nat → Option ρ) : Option ρ := k (H.set n (some (.cells c e false none))) (n + 1)
def allocK (P : Program) (e : TypeId) (H : Hp) (n : Nat) (k : Value → Hp → Nat → Option ρ) : Option ρ :=
  bindO (zeroT P e) fun z => newK (cellsV z) e H n fun H' n' => k (ptr n) H' n'
def boxK (e : TypeId) (v : Value) (H : Hp) (n : Nat) (k : Value → Hp → Nat → Option ρ) : Option ρ :=
  newK (cellsV v) e H n fun H' n' => k (ptr n) H' n'
def rowK (P : Program) (t : TypeId) (len : Nat) (ps : List (Nat × Value)) (H : Hp) (n : Nat) (k : Value → Hp → Nat → Option ρ) : Option ρ :=
  bindO (rowOf P t len ps) fun r => newK r.1 r.2 H n fun H' n' => k (.slice (some ⟨n, 0, none⟩) len len) H' n'
def binK (P : Program) (op : BinOp) (t : TypeId) (x y : Operand) (a b : Value) (k : Value → Option ρ) : Option ρ := bindO (binV P op t x y a b) k
def stK (o : Option (Value × St)) (k : Value → Hp → Nat → Option ρ) : Option ρ := bindO o fun r => k r.1 r.2.H r.2.n
def bare (H : Hp) (n : Nat) : St := { T := .nil, H, n, D := [] }
def makeSliceP (P : Program) (t : TypeId) (l c : Value) (st : St) : Option (Value × St) := match sliceElem P t, l, c with
  | some e, .int .i64 (.ofNat l), .int .i64 (.ofNat c) => match szT P e, bytesT P e, zeroT P e with
    | some s, some b, some z => if l ≤ c ∧ bigOk c s b ∧ (cellsV z).length = s then
        some (.slice (some ⟨st.n, 0, none⟩) l c, pushB st (repl c (cellsV z)) e none)
      else none
    | _, _, _ => none
  | _, _, _ => none
def newMapK (H : Hp) (n : Nat) (k : Value → Hp → Nat → Option ρ) : Option ρ := k (.map (some n)) (H.set n (some (.map [] 0))) (n + 1)
def callFK (P : Program) (cal : Cal) (f : FuncId) (args : List Value) (H : Hp) (n : Nat) (k : Value → Hp → Nat → Option ρ) : Option ρ :=
  match flatF P f && pureL args with
  | false => bindO (cal.call f args H n) fun r => k r.1 r.2.1 r.2.2
  | true => bindO (cal.call f args .nil 0) fun r => match pureV r.1 with
    | true => k r.1 H n
    | false => none
def callVK (P : Program) (cal : Cal) (v : Value) (args : List Value) (H : Hp) (n : Nat) (k : Value → Hp → Nat → Option ρ) : Option ρ :=
  match v with
  | .func (.func g) first cap => callFK P cal g (first.toList ++ args ++ cap.toList) H n k
  | .func (.yield l) ⟨[]⟩ ⟨[]⟩ => stK (yieldF (fun | some l => cal.body l | none => fun _ _ _ => none) P l args (bare H n)) k
  | _ => none
def builtinK (P : Program) (b : Builtin) (ts : List TypeId) (c : Call) (type : TypeId) (vs : List Value) (H : Hp) (n : Nat) (k : Value → Hp → Nat → Option ρ) : Option ρ :=
  match b, ts, vs with
  | .len, t :: _, [v] => bindO (lenV P t v) fun v => k v H n
  | .append, [t, t2], [v, u] => stK (appendV P (bare H n) t t2 v u) k
  | .copy, t :: _, [v, u] => stK (copyV P (bare H n) t v u) k
  | .min, _, vs | .max, _, vs => match pureL vs with
    | true => match semPure P (builtin b c.argTypes type (c.args.map fun | .const _ => true | _ => false) ⟨vs⟩) with
      | some (.value u) => match pureV u with
        | true => k u H n
        | false => none
      | _ => none
    | false => none
  | _, _, _ => none
def callE (P : Program) (cal : Cal) (c : Call) (type : TypeId) (T : Tm) (H : Hp) (n : Nat) (k : Value → Hp → Nat → Option ρ) : Option ρ :=
  match c.callee with
  | .value f => getK (opd f T) fun v => getK (opds T c.args.toList) fun vs => callVK P cal v vs H n k
  | .builtin b => getK (opds T c.args.toList) fun vs => builtinK P b c.argTypes.toList c type vs H n k
  | _ => none
def opE (P : Program) (cal : Cal) (op : Op) (type : TypeId) (T : Tm) (H : Hp) (n : Nat) (k : Value → Hp → Nat → Option ρ) : Option ρ :=
  match op with
  | .move x | .assign x => getK (opd x T) fun v => k v H n
  | .pick c a b => getK (opd c T) fun c => getK (opd a T) fun a => getK (opd b T) fun b => bindO (pickV c a b) fun v => k v H n
  | .alloc e => allocK P e H n k
  | .box e x => getK (opd x T) fun v => boxK e v H n k
  | .build t parts => getK (partsV T parts.toList) fun ps => bindO (buildP P t ps) fun v => k v H n
  | .buildSlice t len parts => getK (partsV T parts.toList) fun ps => rowK P t len ps H n k
  | .load t a => getK (opd a T) fun v => bindO (addrV v) fun a => bindO (loadV P H t a) fun v => k v H n
  | .store t a x => getK (opd a T) fun a => getK (opd x T) fun v => bindO (storeP P t a v H) fun H => k undef H n
  | .nilCheck x => getK (opd x T) fun v => bindO (nilV v) fun v => k v H n
  | .binOp op t x y _ => getK (opd x T) fun a => getK (opd y T) fun b => binK P op t x y a b fun v => k v H n
  | .unOp op _ x => getK (opd x T) fun a => bindO (pureSem P a (Op.unary op a)) fun v => k v H n
  | .convert s d x => getK (opd x T) fun a => bindO (pureSem P a (convert s d a)) fun v => k v H n
  | .makeFunc fn first cap => match fn with
    | .func f => getK (opds T first.toList) fun a => getK (opds T cap.toList) fun b => k (.func (.func f) ⟨a⟩ ⟨b⟩) H n
    | _ => none
  | .makeSlice t l c => getK (opd l T) fun l => getK (opd c T) fun c => stK (makeSliceP P t l c (bare H n)) k
  | .slice t x lo hi none => getK (opd x T) fun v => getK (opdO lo T) fun l => getK (opdO hi T) fun h => bindO (sliceV P t v l h) fun v => k v H n
  | .fieldAddr t x f => getK (opd x T) fun v => bindO (fieldAddrV P t v f) fun v => k v H n
  | .field t x f => getK (opd x T) fun v => bindO (fieldV P t v f) fun v => k v H n
  | .indexAddr t x i => getK (opd x T) fun v => getK (opd i T) fun i => bindO (indexAddrV P t v i) fun v => k v H n
  | .index t x i => getK (opd x T) fun v => getK (opd i T) fun i => bindO (indexV P t v i) fun v => k v H n
  | .extract t i => getK (opd t T) fun v => bindO (tupV v i) fun v => k v H n
  | .call c => callE P cal c type T H n k
  | .makeMap _ none => newMapK H n k
  | .lookup t m x ok => getK (opd m T) fun m => getK (opd x T) fun x => bindO (lookupV P H t m x ok) fun v => k v H n
  | .mapUpdate t m x v => getK (opd m T) fun m => getK (opd x T) fun x => getK (opd v T) fun v => bindO (mapUpdV P t m x v H) fun H => k undef H n
  | .mapEntry t m x => getK (opd m T) fun m => getK (opd x T) fun x => bindO (mapEntV P t m x H) fun r => k r.1 r.2 n
  | .entryStore _ m s v => getK (opd m T) fun m => getK (opd s T) fun s => getK (opd v T) fun v => bindO (entStV m s v H) fun H => k undef H n
  | _ => none
end
end
end Go.Ev
