import Derived.Test.YtakjjillnllocaaEv24
namespace Go.Ev
noncomputable section
open Go
section
variable {ρ : Type}
def guardV (ops : List Oper) (j : Nat) (T : Tm) : Option Value := match ops[j]? with
  | some oj => match oj.dst with
    | some d => T.get d
    | none => none
  | none => none
def guardK (x : Value) (want : Bool) (op : (Value → Hp → Nat → Option ρ) → Option ρ) (H : Hp) (n : Nat) (k : Value → Hp → Nat → Option ρ) : Option ρ :=
  match x with
  | .bool b => match b == want with
    | true => op k
    | false => k undef H n
  | .tuple ⟨[]⟩ => k undef H n
  | _ => none
def oneE (P : Program) (cal : Cal) (N : Nat) (ops : List Oper) (o : Oper) (T : Tm) (H : Hp) (n : Nat) (k : Value → Hp → Nat → Option ρ) : Option ρ :=
  match inN N o.dst with
  | false => none
  | true => match o.guard with
    | none => opE P cal o.op o.type T H n k
    | some (j, want) => getK (guardV ops j T) fun x => guardK x want (fun k => opE P cal o.op o.type T H n k) H n k
def opsE (P : Program) (cal : Cal) (N : Nat) (ops : List Oper) : List Oper → Tm → Hp → Nat → (Tm → Hp → Nat → Option ρ) → Option ρ
  | [], T, H, n, k => k T H n
  | o :: l, T, H, n, k => oneE P cal N ops o T H n fun v H n => opsE P cal N ops l (putT T o.dst v) H n k
end
variable {P : Program} {cal : Cal} {rec : Rec} {ρ : Type} {r : ρ} {N : Nat} {ops : List Oper}
theorem wantedA_of {g : Nat × Bool} {T : Tm} {b : Bool} (h : guardV ops g.1 T = some (.bool b)) : wantedA ops (some g) T = some (b == g.2) := by
  obtain ⟨j, w⟩ := g
  simp only [guardV] at h
  simp only [wantedA]
  split at h
  · rename_i oj hj
    split at h
    · rename_i d hd; simp only [hj, hd, h]
    · cases h
  · cases h
theorem wantedA_un {g : Nat × Bool} {T : Tm} (h : guardV ops g.1 T = some (.tuple ⟨[]⟩)) : wantedA ops (some g) T = some false := by
  obtain ⟨j, w⟩ := g
  simp only [guardV] at h
  simp only [wantedA]
  split at h
  · rename_i oj hj
    split at h
    · rename_i d hd; simp only [hj, hd, h]
    · cases h
  · cases h
theorem oneE_ok (hc : cal.Ok P rec) {o : Oper} {st : St} {k : Value → Hp → Nat → Option ρ} (e : oneE P cal N ops o st.T st.H st.n k = some r) :
    ∃ v s, evOp P rec N ops o st = some s ∧ s.T = putT st.T o.dst v ∧ s.D = st.D ∧ k v s.H s.n = some r := by
  unfold oneE at e
  unfold evOp
  split at e
  · cases e
  · rename_i hin
    rw [hin]
    have one : ∀ {k : Value → Hp → Nat → Option ρ}, opE P cal o.op o.type st.T st.H st.n k = some r → ∃ v s, evOp1 P rec o.dst o.op o.type st = some s ∧ s.T = putT st.T o.dst v ∧ s.D = st.D ∧ k v s.H s.n = some r := by
      intro k e
      obtain ⟨v, s, h, a, b, c⟩ := opE_ok hc e
      exact ⟨v, { s with T := putT s.T o.dst v }, by simp only [evOp1, h], by simp only [a], b, c⟩
    split at e
    · rename_i hg
      rw [hg]
      exact one e
    · rename_i j want hg
      rw [hg]
      simp only [getK_eq] at e
      obtain ⟨x, hx, e⟩ := e
      unfold guardK at e
      split at e
      · rename_i b
        have hw := wantedA_of (g := (j, want)) hx
        simp only [hw]
        split at e
        · rename_i hb; rw [hb]; exact one e
        · rename_i hb; rw [hb]; exact ⟨undef, { st with T := putT st.T o.dst undef }, rfl, rfl, rfl, e⟩
      · have hw := wantedA_un (g := (j, want)) hx
        simp only [hw]
        exact ⟨undef, { st with T := putT st.T o.dst undef }, rfl, rfl, rfl, e⟩
      · cases e
theorem opsE_ok (hc : cal.Ok P rec) : ∀ {l : List Oper} {st : St} {k : Tm → Hp → Nat → Option ρ}, opsE P cal N ops l st.T st.H st.n k = some r →
    ∃ s, evOps P rec N ops l st = some s ∧ s.D = st.D ∧ k s.T s.H s.n = some r
  | [], st, k, e => ⟨st, rfl, rfl, e⟩
  | o :: l, st, k, e => by
    simp only [opsE] at e
    obtain ⟨v, s, h, a, b, c⟩ := oneE_ok hc e
    rw [← a] at c
    obtain ⟨s2, h2, b2, c2⟩ := opsE_ok hc c
    exact ⟨s2, by simp only [evOps, h, h2], b2.trans b, c2⟩
end
end Go.Ev
