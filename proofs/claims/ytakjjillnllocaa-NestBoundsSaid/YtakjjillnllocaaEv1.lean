import Derived.Orders
import Derived.KernelRfl
namespace Go.Ev
noncomputable section
open Go
inductive Tr (α : Type) where
  | nil
  | node (v : Option α) (l r : Tr α)
def pathF : Nat → Nat → List Bool
  | 0, _ => []
  | k + 1, n => match n with
    | 0 => []
    | m + 1 => (m % 2 == 0) :: pathF k (m / 2)
def path (n : Nat) : List Bool := pathF (n + 1) n
noncomputable def getP {α : Type} (p : List Bool) (t : Tr α) : Option α :=
  List.rec (motive := fun _ => Tr α → Option α) (fun t => Tr.rec (motive := fun _ => Option α) none (fun v _ _ _ _ => v) t)
    (fun b _ ih t => Tr.rec (motive := fun _ => Option α) none (fun _ l r _ _ => Bool.rec (motive := fun _ => Option α) (ih r) (ih l) b) t) p t
theorem getP_n_nil {α : Type} : getP [] (.nil : Tr α) = none := rfl
theorem getP_n_node {α : Type} (v : Option α) (l r : Tr α) : getP [] (.node v l r) = v := rfl
theorem getP_c_nil {α : Type} (b : Bool) (p : List Bool) : getP (b :: p) (.nil : Tr α) = none := rfl
theorem getP_t_node {α : Type} (p : List Bool) (v : Option α) (l r : Tr α) : getP (true :: p) (.node v l r) = getP p l := rfl
theorem getP_f_node {α : Type} (p : List Bool) (v : Option α) (l r : Tr α) : getP (false :: p) (.node v l r) = getP p r := rfl
noncomputable def setP {α : Type} (v : Option α) (p : List Bool) (t : Tr α) : Tr α :=
  List.rec (motive := fun _ => Tr α → Tr α) (fun t => Tr.rec (motive := fun _ => Tr α) (.node v .nil .nil) (fun _ l r _ _ => .node v l r) t)
    (fun b _ ih t => Tr.rec (motive := fun _ => Tr α) (Bool.rec (motive := fun _ => Tr α) (.node none .nil (ih .nil)) (.node none (ih .nil) .nil) b)
      (fun u l r _ _ => Bool.rec (motive := fun _ => Tr α) (.node u l (ih r)) (.node u (ih l) r) b) t) p t
theorem setP_n_nil {α : Type} (v : Option α) : setP v [] .nil = .node v .nil .nil := rfl
theorem setP_n_node {α : Type} (v u : Option α) (l r : Tr α) : setP v [] (.node u l r) = .node v l r := rfl
theorem setP_t_nil {α : Type} (v : Option α) (p : List Bool) : setP v (true :: p) .nil = .node none (setP v p .nil) .nil := rfl
theorem setP_f_nil {α : Type} (v : Option α) (p : List Bool) : setP v (false :: p) .nil = .node none .nil (setP v p .nil) := rfl
theorem setP_t_node {α : Type} (v u : Option α) (p : List Bool) (l r : Tr α) : setP v (true :: p) (.node u l r) = .node u (setP v p l) r := rfl
theorem setP_f_node {α : Type} (v u : Option α) (p : List Bool) (l r : Tr α) : setP v (false :: p) (.node u l r) = .node u l (setP v p r) := rfl
noncomputable def Tr.get {α : Type} (t : Tr α) (n : Nat) : Option α := getP (path n) t
noncomputable def Tr.set {α : Type} (t : Tr α) (n : Nat) (v : Option α) : Tr α := setP v (path n) t
theorem getP_nil {α : Type} (p : List Bool) : getP p (.nil : Tr α) = none := by cases p <;> rfl
theorem getP_setP {α : Type} (v : Option α) : ∀ (p q : List Bool) (t : Tr α), getP q (setP v p t) = if q = p then v else getP q t
  | [], [], .nil => rfl
  | [], [], .node _ _ _ => rfl
  | [], c :: q, .nil => by cases c <;> simp [setP_n_nil, getP_t_node, getP_f_node, getP_nil]
  | [], c :: q, .node _ _ _ => by cases c <;> simp [setP_n_node, getP_t_node, getP_f_node]
  | b :: p, [], t => by cases t <;> cases b <;> simp [setP_t_nil, setP_f_nil, setP_t_node, setP_f_node, getP_n_node, getP_n_nil]
  | b :: p, c :: q, t => by
    cases t <;> cases b <;> cases c <;> simp [setP_t_nil, setP_f_nil, setP_t_node, setP_f_node, getP_t_node, getP_f_node, getP_setP v p q, getP_nil]
theorem pathF_inj : ∀ (k m n : Nat), m < k → n < k → pathF k m = pathF k n → m = n
  | 0, _, _, h, _, _ => by omega
  | k + 1, 0, 0, _, _, _ => rfl
  | k + 1, 0, n + 1, _, _, h => by simp [pathF] at h
  | k + 1, m + 1, 0, _, _, h => by simp [pathF] at h
  | k + 1, m + 1, n + 1, hm, hn, h => by
    simp only [pathF, List.cons.injEq] at h
    have h2 := pathF_inj k (m / 2) (n / 2) (by omega) (by omega) h.2
    have h1 := h.1
    by_cases a : m % 2 = 0 <;> by_cases b : n % 2 = 0 <;> (try simp [a, b] at h1) <;> omega
theorem pathF_mono : ∀ (k j m : Nat), m < k → m < j → pathF k m = pathF j m
  | 0, _, _, h, _ => by omega
  | _, 0, _, _, h => by omega
  | k + 1, j + 1, 0, _, _ => rfl
  | k + 1, j + 1, m + 1, hk, hj => by
    simp only [pathF]
    rw [pathF_mono k j (m / 2) (by omega) (by omega)]
theorem path_inj {m n : Nat} (h : path m = path n) : m = n := by
  unfold path at h
  rw [pathF_mono (m + 1) (m + n + 1) m (by omega) (by omega), pathF_mono (n + 1) (m + n + 1) n (by omega) (by omega)] at h
  exact pathF_inj _ _ _ (by omega) (by omega) h
theorem Tr.get_set {α : Type} (t : Tr α) (n : Nat) (v : Option α) (m : Nat) :
    (t.set n v).get m = if m = n then v else t.get m := by
  unfold Tr.get Tr.set
  rw [getP_setP]
  by_cases h : m = n
  · subst h; simp
  · have : ¬ path m = path n := fun e => h (path_inj e)
    simp [h, this]
theorem Tr.get_nil {α : Type} (n : Nat) : (Tr.nil : Tr α).get n = none := getP_nil _
inductive Blk where
  | cells (c : List Value) (elem : TypeId) (ro : Bool) (vec : Option Nat)
  | loop (state : LoopState) (pending : Option Code) (fn : FuncId) (T : Tr Value) (N : Nat) (params : Array Tmp) (assign body : Code) (defers : Nat)
  | deferred
  | map (es : List MapEntry) (clock : Nat)
  | rows (c : List Value)
def capV : Nat := 4611686018427387904
def capR : Nat := 4611686018427387905
mutual
def pureV : Value → Bool
  | .bool _ | .int _ _ | .string _ | .float _ _ | .complex _ _ _ | .nilFunc | .nilIface => true
  | .pointer a => a.isNone
  | .slice a _ _ => a.isNone
  | .map r => r.isNone
  | .chan _ => false
  | .func fn f c => (match fn with | .yield _ => false | _ => true) && pureA f && pureA c
  | .iface _ v => pureV v
  | .agg cs => pureA cs
  | .tuple cs => pureA cs
def pureA : Array Value → Bool
  | ⟨l⟩ => pureL l
def pureL : List Value → Bool
  | [] => true
  | v :: l => pureV v && pureL l
end
def leafV : Value → Bool
  | .agg _ | .tuple _ => false
  | _ => true
abbrev Tm := Tr Value
abbrev Hp := Tr Blk
structure St where
  T : Tm
  H : Hp
  n : Nat
  D : List Nat
def opd : Operand → Tm → Option Value
  | .tmp t, T => T.get t
  | .const v, _ => match pureV v with
    | true => some v
    | false => none
  | .func f, _ => some (.func (.func f) #[] #[])
  | .global _, _ => none
def opds (T : Tm) : List Operand → Option (List Value)
  | [] => some []
  | x :: l => match opd x T with
    | none => none
    | some v => match opds T l with
      | none => none
      | some vs => some (v :: vs)
def semPure {α : Type} (P : Program) : Sem α → Option α
  | .pure a => some a
  | .program k => semPure P (k P)
  | .mark _ k => semPure P k
  | _ => none
def isAggT (P : Program) (t : TypeId) : Option Bool :=
  match P.underlying t with
  | some (.struct _) | some (.array _ _) => some true
  | some _ => some false
  | none => none
def szT (P : Program) (t : TypeId) : Option Nat :=
  match P.info? t with
  | some i => some i.size
  | none => none
def bytesT (P : Program) (t : TypeId) : Option Nat :=
  match P.info? t with
  | some i => some i.bytes
  | none => none
def zeroT (P : Program) (t : TypeId) : Option Value :=
  match P.info? t with
  | some i => match i.zero with
    | some v => if pureV v then some v else none
    | none => none
  | none => none
def cut (l : List Value) (off n : Nat) : Option (List Value) :=
  let s := (l.drop off).take n
  if s.length = n then some s else none
def splice (l : List Value) : Nat → List Value → Option (List Value)
  | 0, vs => over l vs
  | k + 1, vs => match l with
    | [] => none
    | x :: l => match splice l k vs with
      | none => none
      | some r => some (x :: r)
where
  over : List Value → List Value → Option (List Value)
    | l, [] => some l
    | [], _ :: _ => none
    | _ :: l, v :: vs => match over l vs with
      | none => none
      | some r => some (v :: r)
def partV (P : Program) (t : TypeId) (c : List Value) (off : Nat) : Option Value :=
  match isAggT P t with
  | some true => match szT P t with
    | some s => match cut c off s with
      | some l => some (.agg ⟨l⟩)
      | none => none
    | none => none
  | some false => c[off]?
  | none => none
def noHole : Value → Bool
  | .chan _ => false
  | _ => true
def noHoles : Value → Bool
  | .agg ⟨l⟩ => l.all noHole
  | v => noHole v
def loadV (P : Program) (H : Hp) (t : TypeId) (a : Addr) : Option Value :=
  match a.spot with
  | some _ => none
  | none => match H.get a.block with
    | some (.cells c _ _ _) => partV P t c a.off
    | some (.rows c) => match partV P t c a.off with
      | some v => match noHoles v with
        | true => some v
        | false => none
      | none => none
    | _ => none
def loadN (H : Hp) (a : Addr) (n : Nat) : Option (List Value) :=
  match a.spot with
  | some _ => none
  | none => match H.get a.block with
    | some (.cells c _ _ _) => cut c a.off n
    | some (.rows c) => match cut c a.off n with
      | some l => match l.all noHole with
        | true => some l
        | false => none
      | none => none
    | _ => none
def storeN (H : Hp) (a : Addr) (vs : List Value) : Option Hp :=
  match a.spot with
  | some _ => none
  | none => match H.get a.block with
    | some (.cells c e false vec) => if vs.all leafV then match splice c a.off vs with
      | some c' => some (H.set a.block (some (.cells c' e false vec)))
      | none => none
      else none
    | _ => none
def cellsV : Value → List Value
  | .agg cs => cs.toList
  | v => [v]
def fillV (place : Nat → Option (Nat × Nat)) (cells : List Value) : List (Nat × Value) → Option (List Value)
  | [] => some cells
  | (i, v) :: rest => match place i with
    | none => none
    | some (off, size) => if (cellsV v).length = size then match splice cells off (cellsV v) with
      | some c => fillV place c rest
      | none => none
      else none
def repl (n : Nat) (z : List Value) : List Value :=
  match n with
  | 0 => []
  | n + 1 => z ++ repl n z
def partsV (T : Tm) : List (Nat × Operand) → Option (List (Nat × Value))
  | [] => some []
  | (i, x) :: l => match opd x T with
    | none => none
    | some v => match partsV T l with
      | none => none
      | some vs => some ((i, v) :: vs)
def places (P : Program) : List Field → Option (List (Nat × Nat))
  | [] => some []
  | f :: l => match szT P f.type with
    | none => none
    | some s => match places P l with
      | none => none
      | some r => some ((f.offset, s) :: r)
def buildV (P : Program) (T : Tm) (t : TypeId) (parts : List (Nat × Operand)) : Option Value :=
  match zeroT P t, partsV T parts with
  | some z, some ps => match P.underlying t with
    | some (.struct fs) => match places P fs.toList with
      | some pl => match fillV (pl[·]?) (cellsV z) ps with
        | some c => some (.agg ⟨c⟩)
        | none => none
      | none => none
    | some (.array _ e) => match szT P e with
      | some s => match fillV (fun i => some (i * s, s)) (cellsV z) ps with
        | some c => some (.agg ⟨c⟩)
        | none => none
      | none => none
    | _ => none
  | _, _ => none
def pushB (st : St) (c : List Value) (e : TypeId) (vec : Option Nat) : St :=
  { st with H := st.H.set st.n (some (.cells c e false vec)), n := st.n + 1 }
def ptr (i : Nat) : Value := .pointer (some ⟨i, 0, none⟩)
def fieldOf (P : Program) (t : TypeId) (f : Nat) : Option (Nat × TypeId) :=
  match P.underlying t with
  | some (.struct fs) => match fs.toList[f]? with
    | some x => some (x.offset, x.type)
    | none => none
  | _ => none
def idxIn (v : Value) (len : Nat) : Option Nat :=
  match v with
  | .int _ (.ofNat i) => if i < len then some i else none
  | _ => none
def bndIn (v : Value) (y : Nat) : Option Nat :=
  match v with
  | .int _ (.ofNat i) => if i ≤ y then some i else none
  | _ => none
def addA (a : Addr) (k : Nat) : Addr := ⟨a.block, a.off + k, none⟩
def indexAddrV (P : Program) (t : TypeId) (x i : Value) : Option Value :=
  match P.underlying t, x with
  | some (.array len e), .pointer (some a) => match a.spot with
    | some _ => none
    | none => match idxIn i len, szT P e with
      | some k, some s => some (.pointer (some (addA a (k * s))))
      | _, _ => none
  | some (.slice e), .slice (some a) len _ => match a.spot with
    | some _ => none
    | none => match idxIn i len, szT P e with
      | some k, some s => some (.pointer (some (addA a (k * s))))
      | _, _ => none
  | _, _ => none
def indexV (P : Program) (t : TypeId) (x i : Value) : Option Value :=
  match P.underlying t, x with
  | some (.array len e), .agg cs => match idxIn i len, szT P e with
    | some k, some s => partV P e cs.toList (k * s)
    | _, _ => none
  | some .string, .string s => match idxIn i s.size with
    | some k => match s.data.toList[k]? with
      | some b => some (.int .u8 b.toNat)
      | none => none
    | none => none
  | _, _ => none
def fieldAddrV (P : Program) (t : TypeId) (x : Value) (f : Nat) : Option Value :=
  match x with
  | .pointer (some a) => match a.spot, fieldOf P t f with
    | none, some (off, ft) => match szT P ft with
      | some s => if s = 0 then none else some (.pointer (some (addA a off)))
      | none => none
    | _, _ => none
  | _ => none
def fieldV (P : Program) (t : TypeId) (x : Value) (f : Nat) : Option Value :=
  match x with
  | .agg cs => match fieldOf P t f with
    | some (off, ft) => partV P ft cs.toList off
    | none => none
  | _ => none
def hiV (len m : Nat) (hi : Option Value) : Option Nat := match hi with | none => some len | some v => bndIn v m
def loV (r : Nat) (lo : Option Value) : Option Nat := match lo with | none => some 0 | some v => bndIn v r
def boundsV (len : Nat) (m : Nat) (lo hi : Option Value) : Option (Nat × Nat) :=
  match hiV len m hi with
  | none => none
  | some h => match loV h lo with
    | none => none
    | some l => some (l, h)
def sliceV (P : Program) (t : TypeId) (x : Value) (lo hi : Option Value) : Option Value :=
  match P.underlying t, x with
  | some (.slice e), .slice (some a) len cap => match a.spot, szT P e with
    | none, some s =>
      if cap < capV then
        if len ≤ cap then
          match boundsV len cap lo hi with
          | some (l, h) => some (.slice (some (if cap = l then a else addA a (l * s))) (h - l) (cap - l))
          | none => none
        else none
      else
        match boundsV len len lo hi with
        | some (l, h) =>
          if l = 0 then (if cap = capV then (if h = 0 then none else some (.slice (some a) h capV)) else if h = 0 then none else some (.slice (some a) h capR))
          else if l < h then some (.slice (some (addA a (l * s))) (h - l) capR) else none
        | none => none
    | _, _ => none
  | some (.array n e), .pointer (some a) => match a.spot, szT P e with
    | none, some s => match boundsV n n lo hi with
      | some (l, h) => if n < capV then some (.slice (some (if n = l then a else addA a (l * s))) (h - l) (n - l)) else none
      | none => none
    | _, _ => none
  | _, _ => none
def lenV (P : Program) (t : TypeId) (x : Value) : Option Value :=
  match P.underlying t, x with
  | some (.array n _), _ => some (goInt n)
  | some (.slice _), .slice _ n _ => some (goInt n)
  | some .string, .string s => some (goInt s.size)
  | _, _ => none
def srcCells (H : Hp) (s : Nat) : Value → Option (List Value × Nat)
  | .slice none n _ => if n = 0 then some ([], 0) else none
  | .slice (some a) n _ => match loadN H a (n * s) with
    | some l => some (l, n)
    | none => none
  | _ => none
def sliceElem (P : Program) (t : TypeId) : Option TypeId :=
  match P.underlying t with
  | some (.slice e) => some e
  | _ => none
def bigOk (need s b : Nat) : Bool := need < 1048576 && s < 1048576 && b < 1048576
def growV (st : St) (H : Hp) (len s : Nat) (c : List Value) (e : TypeId) : Value × St :=
  (.slice (some ⟨st.n, 0, none⟩) len capV, pushB { st with H := H } c e (some s))
def appendTo (st : St) (e : TypeId) (s : Nat) (a : Addr) (len cap : Nat) (old new : List Value) (n : Nat) : Option (Value × St) :=
  match Nat.blt cap capV with
  | true => match Nat.ble (len + n) cap with
    | true => match storeN st.H (addA a (len * s)) new with
      | some H => some (.slice (some a) (len + n) cap, { st with H })
      | none => none
    | false => some (growV st st.H (len + n) s (old ++ new) e)
  | false => match Nat.beq cap capV, st.H.get a.block with
    | true, some (.cells _ e' false (some s')) => match Nat.beq e' e && Nat.beq s' s && new.all leafV with
      | true => some (growV st (st.H.set a.block none) (len + n) s (old ++ new) e)
      | false => none
    | _, _ => none
def appendV (P : Program) (st : St) (t t2 : TypeId) (x y : Value) : Option (Value × St) :=
  match sliceElem P t, sliceElem P t2 with
  | some e, some _ => match szT P e, bytesT P e, zeroT P e with
    | some s, some b, some z => match srcCells st.H s y, Nat.beq (cellsV z).length s with
      | some (new, n), true => match x with
        | .slice none 0 0 => match n with
          | 0 => some (.slice none 0 0, st)
          | n + 1 => match bigOk (n + 1) s b with
            | true => some (growV st st.H (n + 1) s new e)
            | false => none
        | .slice (some a) len cap => match loadN st.H a (len * s), a.spot, bigOk (len + n) s b with
          | some old, none, true => appendTo st e s a len cap old new n
          | _, _, _ => none
        | _ => none
      | _, _ => none
    | _, _, _ => none
  | _, _ => none
def copyV (P : Program) (st : St) (t : TypeId) (x y : Value) : Option (Value × St) :=
  match sliceElem P t with
  | some e => match szT P e with
    | some s => match x, y with
      | .slice (some a) dl _, .slice (some b) sl _ => match loadN st.H b (Nat.min sl dl * s) with
        | some l => match storeN st.H a l with
          | some H => some (goInt (Nat.min sl dl), { st with H })
          | none => none
        | none => none
      | _, _ => none
    | none => none
  | none => none
def flatFs (P : Program) : List Field → Nat → Bool
  | [], _ => true
  | f :: l, i => match f.name != "_" && Nat.beq f.offset i, P.underlying f.type, isAggT P f.type with
    | true, some (.int _), some false => flatFs P l (i + 1)
    | _, _, _ => false
def flatK (P : Program) (k : TypeId) : Option Nat := match P.underlying k with
  | some (.struct fs) => match !P.stoodInHeld k && flatFs P fs.toList 0 with
    | true => some fs.toList.length
    | false => none
  | _ => none
def eqCells : List Value → List Value → Option Bool
  | [], [] => some true
  | .int k a :: l, .int k' b :: l' => match decide (k = k'), decide (a = b) with
    | true, true => eqCells l l'
    | true, false => some false
    | _, _ => none
  | _, _ => none
def aggEq (P : Program) (t : TypeId) (a b : Value) : Option Bool := match a, b with
  | .agg ⟨l⟩, .agg ⟨l'⟩ => match flatK P t with
    | some n => match Nat.beq l.length n && !P.eqGuardType P.depth t with
      | true => eqCells l l'
      | false => none
    | none => none
  | _, _ => none
def aggBin (P : Program) (op : BinOp) (t : TypeId) (a b : Value) : Option Value := match op with
  | .eql => match aggEq P t a b with
    | some r => some (.bool r)
    | none => none
  | .neq => match aggEq P t a b with
    | some r => some (.bool (!r))
    | none => none
  | _ => none
def nilEq (P : Program) (t : TypeId) (x y : Value) : Option Bool :=
  match P.underlying t, x, y with
  | some (.slice _), .slice none _ _, .slice b _ _ => some b.isNone
  | some (.slice _), .slice (some _) _ _, .slice none _ _ => some false
  | some (.pointer _), .pointer none, .pointer b => some b.isNone
  | some (.pointer _), .pointer (some _), .pointer none => some false
  | some (.func _ _ _), .nilFunc, .nilFunc => some true
  | some (.func _ _ _), .nilFunc, .func _ _ _ => some false
  | some (.func _ _ _), .func _ _ _, .nilFunc => some false
  | _, _, _ => none
def guardBin (op : BinOp) (t : TypeId) (x y : Operand) (a b : Value) : Sem Value := do eqGuard op t x y a b; binOp op t a b
def mk64 (n : Nat) : Option Value := match Nat.blt n 9223372036854775808 with
  | true => some (.int .i64 (.ofNat n))
  | false => none
def natBin (op : BinOp) (m n : Nat) : Option Value := match op with
  | .add => mk64 (m + n)
  | .mul => mk64 (m * n)
  | .sub => match Nat.ble n m with
    | true => mk64 (m - n)
    | false => none
  | .eql => some (.bool (Nat.beq m n))
  | .neq => some (.bool (!Nat.beq m n))
  | .lss => some (.bool (Nat.blt m n))
  | .leq => some (.bool (Nat.ble m n))
  | .gtr => some (.bool (Nat.blt n m))
  | .geq => some (.bool (Nat.ble n m))
  | _ => none
def quickBin (op : BinOp) (a b : Value) : Option Value := match a with
  | .int .i64 (.ofNat m) => match b with
    | .int .i64 (.ofNat n) => natBin op m n
    | _ => none
  | _ => none
def slowBin (P : Program) (op : BinOp) (t : TypeId) (x y : Operand) (a b : Value) : Option Value :=
  match pureV a && pureV b with
  | true => match aggBin P op t a b with
    | some v => some v
    | none => match semPure P (guardBin op t x y a b) with
      | some v => match pureV v with
        | true => some v
        | false => none
      | none => none
  | false => match op with
    | .eql => match nilEq P t a b with
      | some r => some (.bool r)
      | none => none
    | .neq => match nilEq P t a b with
      | some r => some (.bool (!r))
      | none => none
    | _ => none
def binV (P : Program) (op : BinOp) (t : TypeId) (x y : Operand) (a b : Value) : Option Value :=
  match quickBin op a b with
  | some v => some v
  | none => slowBin P op t x y a b
def keep (v : Option Value) (st : St) : Option (Value × St) := match v with | some v => some (v, st) | none => none
def oPick (c a b : Operand) (st : St) : Option (Value × St) := match opd c st.T with
  | some (.bool true) => keep (opd a st.T) st
  | some (.bool false) => keep (opd b st.T) st
  | _ => none
def oAlloc (P : Program) (e : TypeId) (st : St) : Option (Value × St) := match zeroT P e with
  | some z => some (ptr st.n, pushB st (cellsV z) e none)
  | none => none
def oBox (e : TypeId) (x : Operand) (st : St) : Option (Value × St) := match opd x st.T with
  | some v => some (ptr st.n, pushB st (cellsV v) e none)
  | none => none
def oBuildSlice (P : Program) (t : TypeId) (len : Nat) (parts : Array (Nat × Operand)) (st : St) : Option (Value × St) :=
  match sliceElem P t, partsV st.T parts.toList with
  | some e, some ps => match szT P e, zeroT P e with
    | some s, some z => if len * s ≤ 16777216 ∧ (cellsV z).length = s ∧ len < capV then
        match fillV (fun i => some (i * s, s)) (repl len (cellsV z)) ps with
        | some c => some (.slice (some ⟨st.n, 0, none⟩) len len, pushB st c e none)
        | none => none
      else none
    | _, _ => none
  | _, _ => none
def oLoad (P : Program) (t : TypeId) (a : Operand) (st : St) : Option (Value × St) := match opd a st.T with
  | some (.pointer (some a)) => keep (loadV P st.H t a) st
  | _ => none
def oStore (P : Program) (t : TypeId) (a x : Operand) (st : St) : Option (Value × St) := match opd a st.T, opd x st.T with
  | some (.pointer (some a)), some v => match szT P t with
    | some s => if (cellsV v).length = s then match storeN st.H a (cellsV v) with
        | some H => some (undef, { st with H })
        | none => none
      else none
    | none => none
  | _, _ => none
def oNilCheck (x : Operand) (st : St) : Option (Value × St) := match opd x st.T with
  | some (.pointer (some a)) => some (.pointer (some a), st)
  | some (.func (.func f) a b) => some (.func (.func f) a b, st)
  | _ => none
def oBin (P : Program) (op : BinOp) (t : TypeId) (x y : Operand) (st : St) : Option (Value × St) := match opd x st.T, opd y st.T with
  | some a, some b => keep (binV P op t x y a b) st
  | _, _ => none
def viaPure (P : Program) (m : Sem Value) (st : St) : Option (Value × St) := match semPure P m with
  | some u => match pureV u with
    | true => some (u, st)
    | false => none
  | none => none
def oUn (P : Program) (op : UnOp) (x : Operand) (st : St) : Option (Value × St) := match opd x st.T with
  | some v => match pureV v with
    | true => viaPure P (Op.unary op v) st
    | false => none
  | none => none
def oConvert (P : Program) (s d : TypeId) (x : Operand) (st : St) : Option (Value × St) := match opd x st.T with
  | some v => match pureV v with
    | true => viaPure P (convert s d v) st
    | false => none
  | none => none
def oMakeFunc (fn : Fn) (first cap : Array Operand) (st : St) : Option (Value × St) := match fn with
  | .func f => match opds st.T first.toList, opds st.T cap.toList with
    | some a, some b => some (.func (.func f) ⟨a⟩ ⟨b⟩, st)
    | _, _ => none
  | _ => none
def oMakeSlice (P : Program) (t : TypeId) (l c : Operand) (st : St) : Option (Value × St) := match sliceElem P t, opd l st.T, opd c st.T with
  | some e, some (.int .i64 (.ofNat l)), some (.int .i64 (.ofNat c)) => match szT P e, bytesT P e, zeroT P e with
    | some s, some b, some z => if l ≤ c ∧ bigOk c s b ∧ (cellsV z).length = s then
        some (.slice (some ⟨st.n, 0, none⟩) l c, pushB st (repl c (cellsV z)) e none)
      else none
    | _, _, _ => none
  | _, _, _ => none
def opdO : Option Operand → Tm → Option (Option Value)
  | none, _ => some none
  | some x, T => match opd x T with
    | some v => some (some v)
    | none => none
def mapOf (H : Hp) : Value → Option (List MapEntry)
  | .map none => some []
  | .map (some r) => match H.get r with
    | some (.map es _) => some es
    | _ => none
  | _ => none
def mapTy (P : Program) (t : TypeId) : Option (TypeId × TypeId) := match P.underlying t with
  | some (.map k e) => some (k, e)
  | _ => none
def lookS (key elem : TypeId) (es : List MapEntry) (x : Value) (ok : Bool) : Sem Value := do
  Instr.checkKey (Array.isEmpty ⟨es⟩) 10000 key x
  match ← Instr.findKey key x es with
  | some (_, v) => pure (if ok = true then .tuple #[v, .bool true] else v)
  | none => do
    let z ← zeroValue elem
    pure (if ok = true then .tuple #[z, .bool false] else z)
def pureO (P : Program) (m : Sem Value) : Option Value := match semPure P m with
  | some u => match pureV u with
    | true => some u
    | false => none
  | none => none
def quickFind (x : List Value) : List MapEntry → Nat → Option (Option (Nat × Value))
  | [], _ => some none
  | e :: es, i => match e.key with
    | .agg ⟨l⟩ => match eqCells x l with
      | some true => some (some (i, e.val))
      | some false => quickFind x es (i + 1)
      | none => none
    | _ => none
def quickLook (P : Program) (key : TypeId) (es : List MapEntry) (x : Value) : Option (Option (Nat × Value)) :=
  match x with
  | .agg ⟨l⟩ => match flatK P key with
    | some n => match Nat.beq l.length n with
      | true => quickFind l es 0
      | false => none
    | none => none
  | _ => none
def lookEnd (P : Program) (elem : TypeId) (ok : Bool) : Option (Nat × Value) → Option Value
  | some (_, v) => match pureV v with
    | true => some (if ok = true then .tuple #[v, .bool true] else v)
    | false => none
  | none => match zeroT P elem with
    | some z => some (if ok = true then .tuple #[z, .bool false] else z)
    | none => none
def lookupQ (P : Program) (key elem : TypeId) (es : List MapEntry) (x : Value) (ok : Bool) : Option Value :=
  match quickLook P key es x with
  | some r => lookEnd P elem ok r
  | none => pureO P (lookS key elem es x ok)
def lookupV (P : Program) (H : Hp) (t : TypeId) (m x : Value) (ok : Bool) : Option Value :=
  match mapTy P t with
  | some (key, elem) => match mapOf H m, pureV x with
    | some es, true => lookupQ P key elem es x ok
    | _, _ => none
  | none => none
def modE (es : List MapEntry) (i : Nat) (key val : Value) : List MapEntry := es.modify i fun e => { key := key, val := val, born := e.born }
def updS (keyType : TypeId) (es : List MapEntry) (clock : Nat) (key value : Value) : Sem (List MapEntry × Nat) := do
  Instr.checkKey false 10000 keyType key
  match ← Instr.findKey keyType key es with
  | some (i, _) => do
    let key ← Instr.keyThatStays ((Option.map (fun x => x.key) es[i]?).getD key) key
    pure (modE es i key value, clock)
  | none => pure (es ++ [{ key := key, val := value, born := clock }], clock + 1)
def mapUpdV (P : Program) (t : TypeId) (m x v : Value) (H : Hp) : Option Hp :=
  match mapTy P t, m with
  | some (key, _), .map (some r) => match H.get r with
    | some (.map es clock) => match pureV x && pureV v with
      | true => match semPure P (updS key es clock x v) with
        | some (es', c') => some (H.set r (some (.map es' c')))
        | none => none
      | false => none
    | _ => none
  | _, _ => none
def entS (keyType elem : TypeId) (es : List MapEntry) (clock : Nat) (key : Value) : Sem (Value × List MapEntry × Nat) := do
  Instr.checkKey false 10000 keyType key
  match ← Instr.findKey keyType key es with
  | some (i, v) => do
    let key ← Instr.keyThatStays ((Option.map (fun x => x.key) es[i]?).getD key) key
    pure (.tuple #[v, goInt ((Option.map (fun x => (x.born : Int)) es[i]?).getD 0)], es.modify i fun e => { key := key, val := e.val, born := e.born }, clock)
  | none => do
    let z ← zeroValue elem
    pure (.tuple #[z, goInt clock], es ++ [{ key := key, val := z, born := clock }], clock + 1)
def mapEntV (P : Program) (t : TypeId) (m x : Value) (H : Hp) : Option (Value × Hp) :=
  match mapTy P t, m with
  | some (key, elem), .map (some r) => match H.get r with
    | some (.map es clock) => match pureV x with
      | true => match semPure P (entS key elem es clock x) with
        | some (v, es', c') => match pureV v with
          | true => some (v, H.set r (some (.map es' c')))
          | false => none
        | none => none
      | false => none
    | _ => none
  | _, _ => none
def entStV (m s v : Value) (H : Hp) : Option Hp :=
  match m, s with
  | .map (some r), .int _ b => match H.get r with
    | some (.map es clock) => match pureV v with
      | true => match es.findIdx? (fun e => (e.born : Int) == b) with
        | some i => some (H.set r (some (.map (es.modify i fun e => { key := e.key, val := v, born := e.born }) clock)))
        | none => none
      | false => none
    | _ => none
  | _, _ => none
def oMakeMap (st : St) : Option (Value × St) := some (.map (some st.n), { st with H := st.H.set st.n (some (.map [] 0)), n := st.n + 1 })
def oLookup (P : Program) (t : TypeId) (m x : Operand) (ok : Bool) (st : St) : Option (Value × St) := match opd m st.T, opd x st.T with
  | some m, some x => keep (lookupV P st.H t m x ok) st
  | _, _ => none
def withH (o : Option Hp) (st : St) : Option (Value × St) := match o with
  | some H => some (undef, { st with H })
  | none => none
def oMapUpd (P : Program) (t : TypeId) (m x v : Operand) (st : St) : Option (Value × St) := match opd m st.T, opd x st.T, opd v st.T with
  | some m, some x, some v => withH (mapUpdV P t m x v st.H) st
  | _, _, _ => none
def oMapEnt (P : Program) (t : TypeId) (m x : Operand) (st : St) : Option (Value × St) := match opd m st.T, opd x st.T with
  | some m, some x => match mapEntV P t m x st.H with
    | some (v, H) => some (v, { st with H })
    | none => none
  | _, _ => none
def oEntSt (m s v : Operand) (st : St) : Option (Value × St) := match opd m st.T, opd s st.T, opd v st.T with
  | some m, some s, some v => withH (entStV m s v st.H) st
  | _, _, _ => none
def oSlice (P : Program) (t : TypeId) (x : Operand) (lo hi : Option Operand) (st : St) : Option (Value × St) := match opd x st.T, opdO lo st.T, opdO hi st.T with
  | some v, some l, some h => keep (sliceV P t v l h) st
  | _, _, _ => none
def oFieldAddr (P : Program) (t : TypeId) (x : Operand) (f : Nat) (st : St) : Option (Value × St) := match opd x st.T with
  | some v => keep (fieldAddrV P t v f) st
  | none => none
def oField (P : Program) (t : TypeId) (x : Operand) (f : Nat) (st : St) : Option (Value × St) := match opd x st.T with
  | some v => keep (fieldV P t v f) st
  | none => none
def oIndexAddr (P : Program) (t : TypeId) (x i : Operand) (st : St) : Option (Value × St) := match opd x st.T, opd i st.T with
  | some v, some k => keep (indexAddrV P t v k) st
  | _, _ => none
def oIndex (P : Program) (t : TypeId) (x i : Operand) (st : St) : Option (Value × St) := match opd x st.T, opd i st.T with
  | some v, some k => keep (indexV P t v k) st
  | _, _ => none
def oExtract (t : Operand) (i : Nat) (st : St) : Option (Value × St) := match opd t st.T with
  | some (.tuple vs) => keep (vs.toList[i]?) st
  | _ => none
def oLen (P : Program) (c : Call) (st : St) : Option (Value × St) := match c.args.toList, c.argTypes.toList with
  | [x], t :: _ => match opd x st.T with
    | some v => keep (lenV P t v) st
    | none => none
  | _, _ => none
def oAppend (P : Program) (c : Call) (st : St) : Option (Value × St) := match c.args.toList, c.argTypes.toList with
  | [x, y], [t, t2] => match opd x st.T, opd y st.T with
    | some v, some u => appendV P st t t2 v u
    | _, _ => none
  | _, _ => none
def oCopy (P : Program) (c : Call) (st : St) : Option (Value × St) := match c.args.toList, c.argTypes.toList with
  | [x, y], t :: _ => match opd x st.T, opd y st.T with
    | some v, some u => copyV P st t v u
    | _, _ => none
  | _, _ => none
def oMinMax (P : Program) (b : Builtin) (c : Call) (type : TypeId) (st : St) : Option (Value × St) := match opds st.T c.args.toList with
  | some vs => match pureL vs with
    | true => match semPure P (builtin b c.argTypes type (c.args.map fun | .const _ => true | _ => false) ⟨vs⟩) with
      | some (.value u) => match pureV u with
        | true => some (u, st)
        | false => none
      | _ => none
    | false => none
  | none => none
def oBuiltin (P : Program) (b : Builtin) (c : Call) (type : TypeId) (st : St) : Option (Value × St) := match b with
  | .len => oLen P c st
  | .append => oAppend P c st
  | .copy => oCopy P c st
  | .min | .max => oMinMax P b c type st
  | _ => none
def oCall (P : Program) (c : Call) (type : TypeId) (st : St) : Option (Value × St) := match c.callee with
  | .builtin b => oBuiltin P b c type st
  | _ => none
def aOp (P : Program) (op : Op) (type : TypeId) (st : St) : Option (Value × St) :=
  match op with
  | .move x | .assign x => keep (opd x st.T) st
  | .pick c a b => oPick c a b st
  | .alloc e => oAlloc P e st
  | .box e x => oBox e x st
  | .build t parts => keep (buildV P st.T t parts.toList) st
  | .buildSlice t len parts => oBuildSlice P t len parts st
  | .load t a => oLoad P t a st
  | .store t a x => oStore P t a x st
  | .nilCheck x => oNilCheck x st
  | .binOp op t x y _ => oBin P op t x y st
  | .unOp op _ x => oUn P op x st
  | .convert s d x => oConvert P s d x st
  | .makeFunc fn first cap => oMakeFunc fn first cap st
  | .makeSlice t l c => oMakeSlice P t l c st
  | .slice t x lo hi none => oSlice P t x lo hi st
  | .fieldAddr t x f => oFieldAddr P t x f st
  | .field t x f => oField P t x f st
  | .indexAddr t x i => oIndexAddr P t x i st
  | .index t x i => oIndex P t x i st
  | .extract t i => oExtract t i st
  | .call c => oCall P c type st
  | .makeMap _ none => oMakeMap st
  | .lookup t m x ok => oLookup P t m x ok st
  | .mapUpdate t m x v => oMapUpd P t m x v st
  | .mapEntry t m x => oMapEnt P t m x st
  | .entryStore _ m s v => oEntSt m s v st
  | _ => none
inductive Ex where
  | norm
  | exit (id : Nat)
  | ret
def putT (T : Tm) (dst : Option Tmp) (v : Value) : Tm :=
  match dst with
  | some d => T.set d (some v)
  | none => T
def wantedA (ops : List Oper) (g : Option (Nat × Bool)) (T : Tm) : Option Bool :=
  match g with
  | none => some true
  | some (j, want) => match ops[j]? with
    | some oj => match oj.dst with
      | some d => match T.get d with
        | some (.bool b) => some (b == want)
        | some (.tuple ⟨[]⟩) => some false
        | _ => none
      | none => none
    | none => none
def resV (P : Program) (T : Tm) (H : Hp) : List ResultVar → Option (List Value)
  | [] => some []
  | r :: l => match (match r with
      | .tmp t => T.get t
      | .cell a t => match T.get a with
        | some (.pointer (some a)) => loadV P H t a
        | _ => none) with
    | none => none
    | some v => match resV P T H l with
      | none => none
      | some vs => some (v :: vs)
def oneV : List Value → Value
  | [v] => v
  | l => .tuple ⟨l⟩
def argsT : Tm → Nat → List Value → Tm
  | T, _, [] => T
  | T, i, v :: l => argsT (T.set i (some v)) (i + 1) l
def takeD (H : Hp) : List Nat → Option Hp
  | [] => some H
  | i :: l => match H.get i with
    | some .deferred => takeD (H.set i none) l
    | _ => none
abbrev Rec := Option Nat → FuncId → Code → St → Option (Ex × St)
def callB (P : Program) (rec : Rec) (f : FuncId) (args : List Value) (st : St) : Option (Value × St) :=
  match P.funcs[f]? with
  | none => none
  | some fn => match fn.body with
    | none => none
    | some c => if fn.name == "runtime.NumGoroutine" || fn.ntmps < args.length then none else
      match rec none f c { T := argsT .nil 0 args, H := st.H, n := st.n, D := [] } with
      | some (.exit _, _) => none
      | some (_, s) => match takeD s.H s.D with
        | none => none
        | some H => match resV P s.T H fn.results.toList with
          | none => none
          | some vs => some (oneV vs, { st with H := H, n := s.n })
      | none => none
def flatV : Value → Bool
  | .bool _ | .int _ _ | .string _ => true
  | .agg ⟨l⟩ => l.all fun | .bool _ | .int _ _ | .string _ => true | _ => false
  | _ => false
def flatTs (P : Program) : List TypeId → Bool
  | [] => true
  | t :: l => match zeroT P t with
    | some z => match flatV z with
      | true => flatTs P l
      | false => false
    | none => false
def flatF (P : Program) (f : FuncId) : Bool := match P.funcs[f]? with
  | some fn => flatTs P fn.resultTypes.toList
  | none => false
def callF (P : Program) (rec : Rec) (f : FuncId) (args : List Value) (st : St) : Option (Value × St) :=
  match flatF P f && pureL args with
  | false => callB P rec f args st
  | true => match callB P rec f args { T := .nil, H := .nil, n := 0, D := [] } with
    | some (v, _) => match pureV v with
      | true => some (v, st)
      | false => none
    | none => none
def ntm (P : Program) (f : FuncId) : Nat := match P.funcs[f]? with | some fn => fn.ntmps | none => 0
def exCode : Ex → Option (Option Code)
  | .norm => some none
  | .exit id => some (some (.exit id))
  | .ret => some (some .ret)
def paramsT : Tm → Nat → List Tmp → List Value → Option Tm
  | T, _, [], [] => some T
  | T, N, t :: ts, v :: vs => if t < N then paramsT (T.set t (some v)) N ts vs else none
  | _, _, _, _ => none
def setLoop (H : Hp) (l : Nat) (s : LoopState) (pe : Option Code) : Option Hp :=
  match H.get l with
  | some (.loop _ _ fn T N ps as bd d) => some (H.set l (some (.loop s pe fn T N ps as bd d)))
  | _ => none
def isReady (H : Hp) (l : Nat) : Bool :=
  match H.get l with
  | some (.loop .ready ..) => true
  | _ => false
def pendingOf (H : Hp) (l : Nat) : Option Code :=
  match H.get l with
  | some (.loop _ pe ..) => pe
  | _ => none
def yieldF (rec : Rec) (P : Program) (l : Nat) (args : List Value) (st : St) : Option (Value × St) :=
  match st.H.get l with
  | some (.loop _ _ fn T N params assign body _) => match Nat.beq N (ntm P fn), paramsT T N params.toList args with
    | true, some T' => match rec (some l) fn assign { T := T', H := st.H, n := st.n, D := [] } with
      | some (.norm, s) => match isReady s.H l, setLoop s.H l .busy (pendingOf s.H l) with
        | true, some H1 => match rec (some l) fn body { s with H := H1 } with
          | some (ex, s2) => match exCode ex with
            | none => none
            | some j => match setLoop s2.H l (if j.isNone then .ready else .done) j with
              | some H2 => some (.bool j.isNone, { st with H := H2, n := s2.n })
              | none => none
          | none => none
        | _, _ => none
      | _ => none
    | _, _ => none
  | _ => none
def callV (P : Program) (rec : Rec) (f : Value) (args : List Value) (st : St) : Option (Value × St) :=
  match f with
  | .func (.func g) first cap => callF P rec g (first.toList ++ args ++ cap.toList) st
  | .func (.yield l) ⟨[]⟩ ⟨[]⟩ => yieldF rec P l args st
  | _ => none
def cCall (P : Program) (rec : Rec) (c : Call) (type : TypeId) (st : St) : Option (Value × St) :=
  match c.callee with
  | .value f => match opd f st.T, opds st.T c.args.toList with
    | some v, some args => callV P rec v args st
    | _, _ => none
  | _ => oCall P c type st
def cOp (P : Program) (rec : Rec) (op : Op) (type : TypeId) (st : St) : Option (Value × St) :=
  match op with
  | .call c => cCall P rec c type st
  | op => aOp P op type st
def inN (N : Nat) : Option Tmp → Bool
  | none => true
  | some d => Nat.blt d N
def evOp1 (P : Program) (rec : Rec) (dst : Option Tmp) (op : Op) (type : TypeId) (st : St) : Option St :=
  match cOp P rec op type st with
  | none => none
  | some (v, s) => some { s with T := putT s.T dst v }
def evOp (P : Program) (rec : Rec) (N : Nat) (ops : List Oper) (o : Oper) (st : St) : Option St :=
  match inN N o.dst with
  | false => none
  | true => match wantedA ops o.guard st.T with
    | none => none
    | some false => some { st with T := putT st.T o.dst undef }
    | some true => evOp1 P rec o.dst o.op o.type st
def evOps (P : Program) (rec : Rec) (N : Nat) (ops : List Oper) : List Oper → St → Option St
  | [], st => some st
  | o :: l, st => match evOp P rec N ops o st with
    | none => none
    | some s => evOps P rec N ops l s
def seqE (r : Option (Ex × St)) (k : St → Option (Ex × St)) : Option (Ex × St) :=
  match r with
  | some (.norm, s) => k s
  | r => r
def blockE (id : Nat) (r : Option (Ex × St)) : Option (Ex × St) :=
  match r with
  | some (.exit j, s) => match Nat.beq j id with
    | true => some (.norm, s)
    | false => some (.exit j, s)
  | r => r
def normE (r : Option St) : Option (Ex × St) :=
  match r with
  | some s => some (.norm, s)
  | none => none
def rangeIn (ro : Option Nat) (st : St) : Option (Nat × St) :=
  match ro with
  | none => some (st.n, { st with H := st.H.set st.n (some .deferred), n := st.n + 1, D := st.n :: st.D })
  | some l => match st.H.get l with
    | some (.loop _ _ _ _ _ _ _ _ d) => some (d, st)
    | _ => none
def rangeOut (l : Nat) (s : St) : Option (Ex × St) :=
  match s.H.get l with
  | some (.loop .busy ..) => none
  | some (.loop _ pe fn T N ps as bd d) =>
    let s : St := { s with H := s.H.set l (some (.loop .exhausted pe fn T N ps as bd d)) }
    match pe with
    | none => some (.norm, s)
    | some (.exit id) => some (.exit id, s)
    | some .ret => some (.ret, s)
    | _ => none
  | _ => none
def rangeE (P : Program) (rec : Rec) (ro : Option Nat) (f : FuncId) (x : Operand) (params : Array Tmp) (assign body : Code) (st : St) : Option (Ex × St) :=
  match opd x st.T with
  | some (.func (.func g) first cap) => match rangeIn ro st with
    | none => none
    | some (d, st) => match callF P rec g (first.toList ++ (.func (.yield st.n) #[] #[]) :: cap.toList) { st with H := st.H.set st.n (some (.loop .ready none f st.T (ntm P f) params assign body d)), n := st.n + 1 } with
      | none => none
      | some (_, s) => rangeOut st.n s
  | _ => none
abbrev Draw := FuncId → Nat → List Oper → St → Option St
end
end Go.Ev
