import Derived.Test.YtakjjillnllocaaEv11
namespace Go.Ev
open Go
variable {P : Program} {w₀ : World} {W : Sets} {φ : Phi} {st st' : St} {w : World} {H : Hp} {n : Nat}
def DR (φ : Phi) : List Nat → List Deferred → Prop
  | [], ds => ds = []
  | i :: D, ds => ∃ p ds', ds = { target := .collected p.1, args := #[] } :: ds' ∧ φ i = some p ∧ DR φ D ds'
theorem DR.mono {φ ψ : Phi} (h : φ.le ψ) : ∀ {D : List Nat} {ds : List Deferred}, DR φ D ds → DR ψ D ds
  | [], _, k => k
  | _ :: _, _, k => let ⟨p, ds', e, f, g⟩ := k; ⟨p, ds', e, h _ _ f, DR.mono h g⟩
def RO (φ : Phi) : Option Nat → Option Nat → Prop
  | none, r => r = none
  | some l, r => ∃ l' c, r = some l' ∧ φ l = some (l', c)
theorem RO.mono {φ ψ : Phi} (h : φ.le ψ) {r r' : Option Nat} (k : RO φ r r') : RO ψ r r' := by
  cases r with
  | none => exact k
  | some l => obtain ⟨l', c, e, f⟩ := k; exact ⟨l', c, e, h _ _ f⟩
def Goes (P : Program) (m : Machine) (f : FuncId) (t : Array Value) (k : List Item) (ds : List Deferred) (kd : CallKind) (ro : Option Nat) (cs : List Frame) (w : World) : Ex → Prop
  | .norm => Steps P m (lone (fr f t k ds kd ro) cs w)
  | .exit id => ∃ kk, exitTo id kk = exitTo id k ∧ Steps P m (lone (fr f t (.code (.exit id) :: kk) ds kd ro) cs w)
  | .ret => ∃ kk, Steps P m (lone (fr f t (.code .ret :: kk) ds kd ro) cs w)
theorem Goes.of_steps {m m₁ : Machine} {f : FuncId} {t : Array Value} {k : List Item} {ds : List Deferred} {kd : CallKind} {ro : Option Nat} {cs : List Frame} {ex : Ex}
    (h : Steps P m m₁) (g : Goes P m₁ f t k ds kd ro cs w ex) : Goes P m f t k ds kd ro cs w ex := by
  cases ex with
  | norm => exact h.trans g
  | exit id => obtain ⟨kk, e, s⟩ := g; exact ⟨kk, e, h.trans s⟩
  | ret => obtain ⟨kk, s⟩ := g; exact ⟨kk, h.trans s⟩
structure S (w₀ : World) (W : Sets) (φ : Phi) (st : St) (N : Nat) (t : Array Value) (ds : List Deferred) (w : World) : Prop where
  i : I w₀ W φ st.H st.n w
  tr : TR φ st.T t
  sz : t.size = N
  d : DR φ st.D ds
def CodeOk (P : Program) (ro : Option Nat) (f : FuncId) (c : Code) (st : St) (ex : Ex) (st' : St) : Prop :=
  ∀ (w₀ : World) (W : Sets) (φ : Phi) (w : World) (t : Array Value) (ds : List Deferred) (kd : CallKind) (k : List Item) (cs : List Frame) (ro' : Option Nat),
    S w₀ W φ st (ntm P f) t ds w → RO φ ro ro' →
    ∃ φ' w' t' ds', Ext φ st.n φ' st'.n ∧ S w₀ W φ' st' (ntm P f) t' ds' w' ∧ Goes P (lone (fr f t (.code c :: k) ds kd ro') cs w) f t' k ds' kd ro' cs w' ex
def Snd (P : Program) (rec : Rec) : Prop := ∀ ro f c st ex st', rec ro f c st = some (ex, st') → CodeOk P ro f c st ex st'
def CallOk (P : Program) (fr0 : World → List Value → Frame) (args : List Value) (st : St) (v : Value) (st' : St) : Prop :=
  ∀ (w₀ : World) (W : Sets) (φ : Phi) (w : World) (args' : List Value) (c : Frame) (cs : List Frame),
    I w₀ W φ st.H st.n w → VRL φ args args' →
    ∃ φ' w' v', Ext φ st.n φ' st'.n ∧ I w₀ W φ' st'.H st'.n w' ∧ VR φ' v v' ∧ Steps P (lone (fr0 w args') (c :: cs) w) (lone (c.finish v') cs w')
theorem TR.nil {t : Array Value} : TR φ .nil t := fun i v e => by rw [Tr.get_nil] at e; cases e
theorem TR.put {T : Tm} {t : Array Value} {d : Nat} {v v' : Value} (h : TR φ T t) (hd : d < t.size) (hv : VR φ v v') : TR φ (T.set d (some v)) (t.setIfInBounds d v') := by
  intro i u e
  rw [Tr.get_set] at e
  split at e
  · rename_i x; subst x; cases e; exact ⟨v', by simp [hd], hv⟩
  · rename_i x
    obtain ⟨u', a, b⟩ := h i u e
    exact ⟨u', by rw [Array.getElem?_setIfInBounds_ne (fun y => x y.symm)]; exact a, b⟩
theorem args_ok : ∀ {args args' : List Value} {T : Tm} {i : Nat} {pre : List Value} (tail : List Value), VRL φ args args' → pre.length = i → TR φ T ⟨pre ++ args' ++ tail⟩ → TR φ (argsT T i args) ⟨pre ++ args' ++ tail⟩
  | [], args', T, i, pre, tail, h, _, ht => by simpa [argsT] using ht
  | v :: l, args', T, i, pre, tail, h, hi, ht => by
    simp only [VRL] at h
    obtain ⟨v', r', rfl, hv, hr⟩ := h
    simp only [argsT]
    have e : pre ++ v' :: r' ++ tail = (pre ++ [v']) ++ r' ++ tail := by simp
    rw [e]
    refine args_ok tail hr (by simp [hi]) ?_
    rw [← e]
    intro j u hu
    rw [Tr.get_set] at hu
    split at hu
    · rename_i x; subst x; cases hu
      refine ⟨v', ?_, hv⟩
      simp [← hi]
    · exact ht j u hu
def resOne (t : Array Value) : ResultVar → Sem Value
  | .tmp x => pure (t.getD x undef)
  | .cell a ty => do loadVar ty (← asAddr (t.getD a undef))
theorem resV_ok (h : I w₀ W φ H n w) {T : Tm} {t : Array Value} (ht : TR φ T t) : ∀ {l : List ResultVar} {vs : List Value}, resV P T H l = some vs →
    ∃ vs', VRL φ vs vs' ∧ (l.mapM (m := Sem) (resOne t)).run P w = .ok vs' w
  | [], vs, e => by simp [resV] at e; subst e; exact ⟨[], VRL.nil, by simp⟩
  | r :: l, vs, e => by
    simp only [resV] at e
    split at e
    · cases e
    · rename_i v hv
      split at e
      · cases e
      · rename_i us hus
        cases e
        obtain ⟨us', h1, h2⟩ := resV_ok h ht hus
        have one : ∃ v', VR φ v v' ∧ (resOne t r).run P w = .ok v' w := by
          cases r with
          | tmp x =>
            simp only at hv
            obtain ⟨v', a, b⟩ := ht x v hv
            exact ⟨v', b, by simp [resOne, Array.getD_eq_getD_getElem?, a]⟩
          | cell x ty =>
            simp only at hv
            split at hv
            · rename_i ad hx
              obtain ⟨v0, a, b⟩ := ht x _ hx
              simp only [VR] at b
              obtain ⟨ad', rfl, har⟩ := b
              obtain ⟨v', c, d⟩ := loadV_ok (P := P) h har hv
              exact ⟨v', c, by simp [resOne, Array.getD_eq_getD_getElem?, a, asAddr, d]⟩
            · cases hv
        obtain ⟨v', c, d⟩ := one
        exact ⟨v' :: us', VRL.cons c h1, by simp only [List.mapM_cons, Sem.run_bind, d, Result.andThen_ok, h2, Sem.run_pure]⟩
theorem results_ok {fn : Func} (h : I w₀ W φ H n w) {T : Tm} {t : Array Value} (ht : TR φ T t) {vs : List Value} (e : resV P T H fn.results.toList = some vs) :
    ∃ v', VR φ (oneV vs) v' ∧ (results fn t).run P w = .ok v' w := by
  obtain ⟨vs', h1, h2⟩ := resV_ok (P := P) h ht e
  refine ⟨oneV vs', ?_, ?_⟩
  · match vs, vs', h1 with
    | [], vs', h1 => simp only [VRL] at h1; subst h1; simp only [oneV, VR]; exact ⟨_, rfl, VRL.nil (φ := φ)⟩
    | [v], vs', h1 =>
      simp only [VRL] at h1; obtain ⟨v', r', rfl, hv, rfl⟩ := h1; exact hv
    | v :: u :: l, vs', h1 =>
      have h1' := h1
      simp only [VRL] at h1; obtain ⟨v', r', rfl, hv, u', r2, rfl, hu, hr⟩ := h1
      simp only [oneV, VR]; exact ⟨_, rfl, by simpa only [VRA] using h1'⟩
  · have e1 : results fn t = (do let vs ← fn.results.mapM (resOne t); pure (if h : vs.size = 1 then vs[0] else .tuple vs)) := by
      unfold results
      congr 1
    rw [e1, Array.mapM_eq_mapM_toList]
    simp only [Sem.run_bind, Sem.run_map, h2, Result.andThen_ok, Sem.run_pure]
    congr 1
    match vs' with
    | [] => rfl
    | [v] => rfl
    | v :: u :: l => simp [oneV]
end Go.Ev
