import Derived.Test.YtakjjillnllocaaEv27
namespace Go.Ev
noncomputable section
open Go
abbrev KC (ρ : Type) := Tm → Hp → Nat → List Nat → Option ρ
abbrev XC (ρ : Type) := Nat → KC ρ
section
variable {ρ : Type}
def fin (K : KC ρ) (X : XC ρ) (Kr : KC ρ) (o : Option (Ex × St)) : Option ρ := match o with
  | none => none
  | some (.norm, s) => K s.T s.H s.n s.D
  | some (.exit id, s) => X id s.T s.H s.n s.D
  | some (.ret, s) => Kr s.T s.H s.n s.D
def ifK (v : Value) (a b : Option ρ) : Option ρ := match v with
  | .bool true => a
  | .bool false => b
  | _ => none
def upX (id : Nat) (K : KC ρ) (X : XC ρ) : XC ρ := fun j => match Nat.beq j id with
  | true => K
  | false => X j
def labK (g : KC ρ) : KC ρ := g
def cutK : Option (List Nat) → KC ρ → KC ρ
  | none, g => g
  | some L, g => fun T H n D => labK g (restrict T L) H n D
theorem cutK_eq {c : Option (List Nat)} {g : KC ρ} {T : Tm} {H : Hp} {n : Nat} {D : List Nat} : cutK c g T H n D = g (cutT c T) H n D := by cases c <;> rfl
abbrev LpE (ρ : Type) := Lv → Option Nat → FuncId → Code → KC ρ → XC ρ → KC ρ → KC ρ
def rangeK (P : Program) (cal : Cal) (ro : Option Nat) (f : FuncId) (v : Value) (params : Array Tmp) (assign body : Code) (K : KC ρ) (X : XC ρ) (Kr : KC ρ) : KC ρ := fun T H n D =>
  match v with
  | .func (.func g) first cap => match rangeIn ro { T, H, n, D } with
    | none => none
    | some (d, st) => callFK P cal g (first.toList ++ (.func (.yield st.n) #[] #[]) :: cap.toList) (st.H.set st.n (some (.loop .ready none f st.T (ntm P f) params assign body d))) (st.n + 1)
        fun _ H n => fin K X Kr (rangeOut st.n { T := st.T, H, n, D := st.D })
  | _ => none
def codeE (P : Program) (cal : Cal) (lp : LpE ρ) (ro : Option Nat) (f : FuncId) : Code → Lv → KC ρ → XC ρ → KC ρ → KC ρ
  | .skip, _, K, _, _ => K
  | .label _, _, K, _, _ => K
  | .ret, _, _, _, Kr => Kr
  | .exit id, _, _, X, _ => X id
  | .seq a b, lv, K, X, Kr => codeE P cal lp ro f a lv.a (cutK lv.c (codeE P cal lp ro f b lv.b K X Kr)) X Kr
  | .cond c a b, lv, K, X, Kr => fun T H n D => getK (opd c T) fun v => ifK v (codeE P cal lp ro f a lv.a K X Kr T H n D) (codeE P cal lp ro f b lv.b K X Kr T H n D)
  | .block id c, lv, K, X, Kr => codeE P cal lp ro f c lv.a K (upX id K X) Kr
  | .scope c, lv, K, X, Kr => codeE P cal lp ro f c lv.a K X Kr
  | .loop c, lv, K, X, Kr => cutK lv.c (codeE P cal lp ro f c lv.a (fun T H n D => lp lv ro f (.loop c) K X Kr (cutT lv.c T) H n D) X Kr)
  | .region _ ops false, _, K, _, _ => fun T H n D => opsE P cal (ntm P f) ops.toList ops.toList T H n fun T H n => K T H n D
  | .region _ ops true, _, K, _, _ => fun T H n D => drawK P cal (ntm P f) ops.toList T H n fun T H n => K T H n D
  | .rangeFunc x params assign body, _, K, X, Kr => fun T H n D => getK (opd x T) fun v => rangeK P cal ro f v params assign body K X Kr T H n D
  | _, _, _, _, _ => fun _ _ _ _ => none
def codeF (P : Program) (cal : Cal) : Nat → LpE ρ
  | 0 => fun _ _ _ _ _ _ _ _ _ _ _ => none
  | k + 1 => fun lv ro f c K X Kr => codeE P cal (codeF P cal k) ro f c lv K X Kr
end
variable {P : Program} {cal : Cal} {rec : Rec} {ρ : Type} {r : ρ}
theorem fin_mono {K K' : KC ρ} {X : XC ρ} {Kr : KC ρ} {o : Option (Ex × St)} (h : ∀ T H n D, K T H n D = some r → K' T H n D = some r) (e : fin K X Kr o = some r) : fin K' X Kr o = some r := by
  unfold fin at e ⊢
  split at e
  · cases e
  · exact h _ _ _ _ e
  · exact e
  · exact e
theorem rangeK_ok (hc : cal.Ok P rec) {ro : Option Nat} {f : FuncId} {x : Operand} {v : Value} {params : Array Tmp} {assign body : Code} {K : KC ρ} {X : XC ρ} {Kr : KC ρ} {st : St} (hv : opd x st.T = some v)
    (e : rangeK P cal ro f v params assign body K X Kr st.T st.H st.n st.D = some r) : fin K X Kr (rangeE P rec ro f x params assign body st) = some r := by
  unfold rangeK at e
  unfold rangeE
  rw [hv]
  split at e
  · rename_i g first cap
    simp only
    have e0 : ({ T := st.T, H := st.H, n := st.n, D := st.D } : St) = st := rfl
    rw [e0] at e
    split at e
    · cases e
    · rename_i d s hin
      rw [hin]
      simp only
      obtain ⟨v', s', h, a, b, hk⟩ := callFK_ok (st := { s with H := s.H.set s.n (some (.loop .ready none f s.T (ntm P f) params assign body d)), n := s.n + 1 }) hc e
      rw [h]
      simp only
      have e1 : ({ T := s.T, H := s'.H, n := s'.n, D := s.D } : St) = s' := by
        obtain ⟨t1, t2, t3, t4⟩ := s'
        simp only at a b
        subst a; subst b; rfl
      rw [e1] at hk
      exact hk
  · cases e
theorem codeE_ok (hc : cal.Ok P rec) {lp : LpE ρ} {lp' : RecL} {ro : Option Nat} {f : FuncId}
    (hlp : ∀ lv ro f c K X Kr (st : St), lp lv ro f c K X Kr st.T st.H st.n st.D = some r → fin K X Kr (lp' lv ro f c st) = some r) :
    ∀ (c : Code) (lv : Lv) (K : KC ρ) (X : XC ρ) (Kr : KC ρ) (st : St), codeE P cal lp ro f c lv K X Kr st.T st.H st.n st.D = some r → fin K X Kr (evA P rec lp' (drawE P rec) ro f c lv st) = some r
  | .skip, lv, K, X, Kr, st, e => e
  | .label _, lv, K, X, Kr, st, e => e
  | .ret, lv, K, X, Kr, st, e => e
  | .exit _, lv, K, X, Kr, st, e => e
  | .seq a b, lv, K, X, Kr, st, e => by
    simp only [codeE] at e
    have h1 := codeE_ok hc hlp a lv.a _ X Kr st e
    have h2 := fin_mono (K' := fun T H n D => fin K X Kr (evA P rec lp' (drawE P rec) ro f b lv.b (cutS lv.c { T, H, n, D }))) (fun T H n D h => codeE_ok hc hlp b lv.b K X Kr (cutS lv.c { T, H, n, D }) (by rw [cutK_eq] at h; exact h)) h1
    simp only [evA]
    generalize evA P rec lp' (drawE P rec) ro f a lv.a st = o at h2
    match o, h2 with
    | none, h2 => exact h2
    | some (.norm, s), h2 => exact h2
    | some (.exit _, s), h2 => exact h2
    | some (.ret, s), h2 => exact h2
  | .cond c a b, lv, K, X, Kr, st, e => by
    simp only [codeE, getK_eq] at e
    obtain ⟨v, hv, e⟩ := e
    simp only [evA]
    unfold ifK at e
    rw [hv]
    split at e
    · exact codeE_ok hc hlp a lv.a K X Kr st e
    · exact codeE_ok hc hlp b lv.b K X Kr st e
    · cases e
  | .block id c, lv, K, X, Kr, st, e => by
    simp only [codeE] at e
    have h1 := codeE_ok hc hlp c lv.a K _ Kr st e
    simp only [evA]
    generalize evA P rec lp' (drawE P rec) ro f c lv.a st = o at h1
    match o, h1 with
    | none, h1 => exact h1
    | some (.norm, s), h1 => exact h1
    | some (.exit j, s), h1 =>
      simp only [fin, upX] at h1
      simp only [blockE]
      cases hj : Nat.beq j id with
      | true => rw [hj] at h1; exact h1
      | false => rw [hj] at h1; exact h1
    | some (.ret, s), h1 => exact h1
  | .scope c, lv, K, X, Kr, st, e => by
    simp only [codeE] at e
    simp only [evA]
    exact codeE_ok hc hlp c lv.a K X Kr st e
  | .loop c, lv, K, X, Kr, st, e => by
    simp only [codeE, cutK_eq] at e
    have h1 := codeE_ok hc hlp c lv.a _ X Kr (cutS lv.c st) e
    have h2 := fin_mono (K' := fun T H n D => fin K X Kr (lp' lv ro f (.loop c) (cutS lv.c { T, H, n, D }))) (fun T H n D h => hlp lv ro f (.loop c) K X Kr (cutS lv.c { T, H, n, D }) h) h1
    simp only [evA]
    generalize evA P rec lp' (drawE P rec) ro f c lv.a (cutS lv.c st) = o at h2
    match o, h2 with
    | none, h2 => exact h2
    | some (.norm, s), h2 => exact h2
    | some (.exit _, s), h2 => exact h2
    | some (.ret, s), h2 => exact h2
  | .region id ops false, lv, K, X, Kr, st, e => by
    simp only [codeE] at e
    obtain ⟨s, h, hd, hk⟩ := opsE_ok hc e
    simp only [evA, h, normE, fin, hd]
    exact hk
  | .region id ops true, lv, K, X, Kr, st, e => by
    simp only [codeE] at e
    obtain ⟨s, h, hd, hk⟩ := drawK_ok (f := f) hc e
    simp only [evA, h, normE, fin, hd]
    exact hk
  | .rangeFunc x params assign body, lv, K, X, Kr, st, e => by
    simp only [codeE, getK_eq] at e
    obtain ⟨v, hv, e⟩ := e
    simp only [evA]
    exact rangeK_ok hc hv e
  | .goto l, lv, K, X, Kr, st, e => by simp [codeE] at e
  | .refuse y, lv, K, X, Kr, st, e => by simp [codeE] at e
theorem codeF_ok (hc : cal.Ok P rec) : ∀ (k : Nat) lv ro f c (K : KC ρ) X Kr (st : St), codeF P cal k lv ro f c K X Kr st.T st.H st.n st.D = some r → fin K X Kr (evFA P rec k lv ro f c st) = some r
  | 0, lv, ro, f, c, K, X, Kr, st, e => by simp [codeF] at e
  | k + 1, lv, ro, f, c, K, X, Kr, st, e => codeE_ok hc (fun lv ro f c K X Kr st e => codeF_ok hc k lv ro f c K X Kr st e) c lv K X Kr st e
abbrev Res := Option (Value × Hp × Nat)
def doneK (P : Program) (rs : List ResultVar) : KC (Value × Hp × Nat) := fun T H n D =>
  getK (takeD H D) fun H => bindO (resV P T H rs) fun vs => some (oneV vs, H, n)
def bodyE (P : Program) (cal : Cal) (A : FuncId → Lv) (F : Nat) (f : FuncId) (args : List Value) (H : Hp) (n : Nat) : Res :=
  match P.funcs[f]? with
  | none => none
  | some fn => match fn.body with
    | none => none
    | some c => if fn.name == "runtime.NumGoroutine" || fn.ntmps < args.length then none else
      codeF P cal F (A f) none f c (doneK P fn.results.toList) (fun _ _ _ _ _ => none) (doneK P fn.results.toList) (argsT .nil 0 args) H n []
theorem doneK_eq {rs : List ResultVar} {T : Tm} {H : Hp} {n : Nat} {D : List Nat} {x : Value × Hp × Nat} (e : doneK P rs T H n D = some x) :
    ∃ H' vs, takeD H D = some H' ∧ resV P T H' rs = some vs ∧ x = (oneV vs, H', n) := by
  simp only [doneK, bindO_eq, getK_eq, Option.some.injEq] at e
  obtain ⟨H', h1, vs, h2, rfl⟩ := e
  exact ⟨H', vs, h1, h2, rfl⟩
def upE (P : Program) (A : FuncId → Lv) (F : Nat) (cal : Cal) (tbl : FuncId → Option (Cal → List Value → Hp → Nat → Res)) : Cal where
  call f args H n := match tbl f with
    | some S => S cal args H n
    | none => bodyE P cal A F f args H n
  body l f c st := codeF P cal F .leaf (some l) f c (fun T H n D => some (.norm, { T, H, n, D })) (fun id T H n D => some (.exit id, { T, H, n, D })) (fun T H n D => some (.ret, { T, H, n, D })) st.T st.H st.n st.D
def TblOk (P : Program) (A : FuncId → Lv) (F : Nat) (tbl : FuncId → Option (Cal → List Value → Hp → Nat → Res)) : Prop :=
  ∀ f S, tbl f = some S → ∀ cal args H n r, S cal args H n = some r → bodyE P cal A F f args H n = some r
def calE (P : Program) (A : FuncId → Lv) (F : Nat) (tbl : FuncId → Option (Cal → List Value → Hp → Nat → Res)) : Nat → Cal
  | 0 => { call := fun _ _ _ _ => none, body := fun _ _ _ _ => none }
  | l + 1 => upE P A F (calE P A F tbl l) tbl
theorem calE_ok {A : FuncId → Lv} {F : Nat} {tbl : FuncId → Option (Cal → List Value → Hp → Nat → Res)} (ht : TblOk P A F tbl) : ∀ l, (calE P A F tbl l).Ok P (evLA P A F l)
  | 0 => ⟨fun _ _ _ _ e => (by cases e), fun _ _ _ _ _ e => (by cases e)⟩
  | l + 1 => by
    have ih := calE_ok ht l
    refine ⟨fun f args st r e => ?_, fun l2 f c st r e => ?_⟩
    · have e' : bodyE P (calE P A F tbl l) A F f args st.H st.n = some r := by
        simp only [calE, upE] at e
        split at e
        · rename_i S hS; exact ht f S hS _ _ _ _ _ e
        · exact e
      unfold bodyE at e'
      unfold callB
      split at e'
      · cases e'
      rename_i fn hf
      split at e'
      · cases e'
      rename_i c hb
      simp only [hf, hb]
      split at e'
      · cases e'
      rename_i hcond
      rw [if_neg hcond]
      have h := codeF_ok ih F (A f) none f c _ _ _ { T := argsT .nil 0 args, H := st.H, n := st.n, D := [] } e'
      have e2 : evLA P A F (l + 1) none f c { T := argsT .nil 0 args, H := st.H, n := st.n, D := [] } = evFA P (evLA P A F l) F (A f) none f c { T := argsT .nil 0 args, H := st.H, n := st.n, D := [] } := rfl
      rw [e2]
      generalize evFA P (evLA P A F l) F (A f) none f c { T := argsT .nil 0 args, H := st.H, n := st.n, D := [] } = o at h
      match o, h with
      | none, h => cases h
      | some (.norm, s), h =>
        obtain ⟨H', vs, h1, h2, rfl⟩ := doneK_eq h
        simp only [h1, h2]
      | some (.exit _, s), h => cases h
      | some (.ret, s), h =>
        obtain ⟨H', vs, h1, h2, rfl⟩ := doneK_eq h
        simp only [h1, h2]
    · have h := codeF_ok ih F .leaf (some l2) f c _ _ _ st e
      have e2 : evLA P A F (l + 1) (some l2) f c st = evFA P (evLA P A F l) F .leaf (some l2) f c st := rfl
      rw [e2]
      generalize evFA P (evLA P A F l) F .leaf (some l2) f c st = o at h
      match o, h with
      | none, h => cases h
      | some (.norm, s), h => exact h
      | some (.exit _, s), h => exact h
      | some (.ret, s), h => exact h
end
end Go.Ev
