import Derived.Test.YtakjjillnllocaaEv17
namespace Go.Ev
open Go
variable {P : Program} {w₀ : World} {W : Sets} {φ : Phi} {st st' : St} {w : World} {H : Hp} {n : Nat} {rec : Rec}
  {f : FuncId} {t : Array Value} {k : List Item} {ds : List Deferred} {kd : CallKind} {ro : Option Nat} {cs : List Frame} {N : Nat}
def LB (A : List Nat) (x : Nat) (log : List Ent) (i : Nat) : Prop := ∃ e ∈ log, bit A x e.x = false ∧ ∃ ty a, e.k = .l ty a ∧ a.block = i
def AB (A : List Nat) (x : Nat) (log : List Ent) (i : Nat) : Prop := ∃ e ∈ log, bit A x e.x = false ∧ ∃ c ty, e.k = .a i c ty
theorem LB.cons {A : List Nat} {x i : Nat} {e : Ent} {l : List Ent} : LB A x (e :: l) i ↔ (bit A x e.x = false ∧ ∃ ty a, e.k = .l ty a ∧ a.block = i) ∨ LB A x l i := by
  unfold LB; simp
theorem AB.cons {A : List Nat} {x i : Nat} {e : Ent} {l : List Ent} : AB A x (e :: l) i ↔ (bit A x e.x = false ∧ ∃ c ty, e.k = .a i c ty) ∨ AB A x l i := by
  unfold AB; simp
theorem maskL_ok {A : List Nat} {x : Nat} {H : Hp} : ∀ {l : List Ent} {H1 : Hp}, maskL A x H l = some H1 → Sub H1 H ∧ ∀ i b, LB A x l i → H1.get i = some b → b.ro = true
  | [], H1, e => by
    simp only [maskL, Option.some.injEq] at e; subst e
    exact ⟨fun i b h => ⟨b, h, .inl rfl⟩, fun i b ⟨e, he, _⟩ => nomatch he⟩
  | e :: l, H1, h => by
    simp only [maskL] at h
    split at h
    · cases h
    · rename_i H2 h2
      obtain ⟨s1, s2⟩ := maskL_ok h2
      split at h
      · rename_i ty a hb hk
        split at h
        · rename_i c t r vec hc
          simp only [Option.some.injEq] at h; subst h
          constructor
          · intro i b hi
            rw [Tr.get_set] at hi
            split at hi
            · rename_i q; subst q
              cases hi
              obtain ⟨b0, h0, hbb⟩ := s1 _ _ hc
              rcases hbb with hbb | ⟨c', t', r', v', e1, e2⟩
              · subst hbb; exact ⟨_, h0, .inr ⟨c, t, r, vec, rfl, rfl⟩⟩
              · cases e2; exact ⟨_, h0, .inr ⟨c, t, r', vec, e1, rfl⟩⟩
            · exact s1 i b hi
          · intro i b hL hi
            rw [Tr.get_set] at hi
            split at hi
            · cases hi; rfl
            · rename_i q
              refine s2 i b ?_ hi
              rcases LB.cons.1 hL with ⟨_, ty', a', e1, e2⟩ | hL
              · rw [hk] at e1; cases e1; exact absurd e2.symm q
              · exact hL
        · rename_i c hc
          simp only [Option.some.injEq] at h; subst h
          refine ⟨s1, fun i b hL hi => ?_⟩
          rcases LB.cons.1 hL with ⟨_, ty', a', e1, e2⟩ | hL
          · rw [hk] at e1; cases e1
            rw [e2] at hc
            rw [hc] at hi; cases hi; rfl
          · exact s2 i b hL hi
        · cases h
      · rename_i hno
        simp only [Option.some.injEq] at h; subst h
        refine ⟨s1, fun i b hL hi => s2 i b ?_ hi⟩
        rcases LB.cons.1 hL with ⟨e0, ty', a', e1, e2⟩ | hL
        · exact (hno ty' a' e0 e1).elim
        · exact hL
theorem maskA_get {A : List Nat} {x : Nat} {H : Hp} (i : Nat) : ∀ (l : List Ent), (AB A x l i → (maskA A x H l).get i = none) ∧ (¬ AB A x l i → (maskA A x H l).get i = H.get i)
  | [] => ⟨fun h => absurd h (by simp [AB]), fun _ => rfl⟩
  | e :: l => by
    obtain ⟨h1, h2⟩ := maskA_get (A := A) (x := x) (H := H) i l
    simp only [maskA]
    split
    · rename_i id c ty hb hk
      rw [Tr.get_set]
      constructor
      · intro h
        split
        · rfl
        · rename_i q
          refine h1 ?_
          rcases AB.cons.1 h with ⟨_, c', t', e1⟩ | h
          · rw [hk] at e1; cases e1; exact absurd rfl q
          · exact h
      · intro h
        rw [if_neg (fun q => h (AB.cons.2 (.inl ⟨hb, c, ty, by rw [hk, q]⟩)))]
        exact h2 (fun q => h (AB.cons.2 (.inr q)))
    · rename_i hno
      constructor
      · intro h
        refine h1 ?_
        rcases AB.cons.1 h with ⟨e0, c', t', e1⟩ | h
        · exact (hno i c' t' e0 e1).elim
        · exact h
      · intro h; exact h2 (fun q => h (AB.cons.2 (.inr q)))
theorem backL_ok {A : List Nat} {x : Nat} {H0 H : Hp} : ∀ {l : List Ent} {H2 : Hp}, backL A x H0 H l = some H2 →
    ∀ i, (LB A x l i → H2.get i = H0.get i ∧ ∃ b, H.get i = some b) ∧ (¬ LB A x l i → H2.get i = H.get i)
  | [], H2, h => by
    simp only [backL, Option.some.injEq] at h; subst h
    exact fun i => ⟨fun h => absurd h (by simp [LB]), fun _ => rfl⟩
  | e :: l, H2, h => by
    simp only [backL] at h
    split at h
    · cases h
    · rename_i H3 h3
      have ih := backL_ok h3
      split at h
      · rename_i ty a hb hk
        split at h
        · rename_i b hbb
          simp only [Option.some.injEq] at h; subst h
          intro i
          rw [Tr.get_set]
          by_cases q : i = a.block
          · subst q
            simp only [if_true]
            exact ⟨fun _ => ⟨trivial, b, hbb⟩, fun hn => absurd (LB.cons.2 (.inl ⟨hb, ty, a, hk, rfl⟩)) hn⟩
          · rw [if_neg q]
            constructor
            · intro hL
              refine (ih i).1 ?_
              rcases LB.cons.1 hL with ⟨_, ty', a', e1, e2⟩ | hL
              · rw [hk] at e1; cases e1; exact absurd e2.symm q
              · exact hL
            · intro hn; exact (ih i).2 (fun q => hn (LB.cons.2 (.inr q)))
        · cases h
      · rename_i hno
        simp only [Option.some.injEq] at h; subst h
        intro i
        constructor
        · intro hL
          refine (ih i).1 ?_
          rcases LB.cons.1 hL with ⟨e0, ty', a', e1, e2⟩ | hL
          · exact (hno ty' a' e0 e1).elim
          · exact hL
        · intro hn; exact (ih i).2 (fun q => hn (LB.cons.2 (.inr q)))
theorem backA_get {A : List Nat} {x : Nat} {H0 H : Hp} (i : Nat) : ∀ (l : List Ent), (AB A x l i → (backA A x H0 H l).get i = H0.get i) ∧ (¬ AB A x l i → (backA A x H0 H l).get i = H.get i)
  | [] => ⟨fun h => absurd h (by simp [AB]), fun _ => rfl⟩
  | e :: l => by
    obtain ⟨h1, h2⟩ := backA_get (A := A) (x := x) (H0 := H0) (H := H) i l
    simp only [backA]
    split
    · rename_i id c ty hb hk
      rw [Tr.get_set]
      constructor
      · intro h
        split
        · rename_i q; rw [q]
        · rename_i q
          refine h1 ?_
          rcases AB.cons.1 h with ⟨_, c', t', e1⟩ | h
          · rw [hk] at e1; cases e1; exact absurd rfl q
          · exact h
      · intro h
        rw [if_neg (fun q => h (AB.cons.2 (.inl ⟨hb, c, ty, by rw [hk, q]⟩)))]
        exact h2 (fun q => h (AB.cons.2 (.inr q)))
    · rename_i hno
      constructor
      · intro h
        refine h1 ?_
        rcases AB.cons.1 h with ⟨e0, c', t', e1⟩ | h
        · exact (hno i c' t' e0 e1).elim
        · exact h
      · intro h; exact h2 (fun q => h (AB.cons.2 (.inr q)))
noncomputable def TF (S : List Nat) (log : List Ent) (T0 : Tm) (d : Nat) : Option Value :=
  match log.find? (fun e => e.dst == some d) with
  | some e => if e.x ∈ S then some e.v else T0.get d
  | none => T0.get d
def TRF (φ : Phi) (F : Nat → Option Value) (t : Array Value) : Prop := ∀ d v, F d = some v → ∃ v', t[d]? = some v' ∧ VR φ v v'
theorem TRF.mono {φ ψ : Phi} (h : φ.le ψ) {F : Nat → Option Value} (g : TRF φ F t) : TRF ψ F t := fun d v e => let ⟨v', a, b⟩ := g d v e; ⟨v', a, b.mono h⟩
def Pend (S : List Nat) (log : List Ent) (i : Nat) : Prop := ∃ e ∈ log, e.x ∉ S ∧ ∃ c ty, e.k = .a i c ty
def Closed (A S : List Nat) : Prop := ∀ x ∈ S, ∀ y, bit A x y = true → y ∈ S
structure Uniq (log : List Ent) : Prop where
  x : ∀ e ∈ log, ∀ e' ∈ log, e.x = e'.x → e = e'
  d : ∀ e ∈ log, ∀ e' ∈ log, ∀ d, e.dst = some d → e'.dst = some d → e = e'
  a : ∀ e ∈ log, ∀ e' ∈ log, ∀ i c ty c' ty', e.k = .a i c ty → e'.k = .a i c' ty' → e = e'
theorem find_dst {log : List Ent} (h : Uniq log) {e : Ent} (he : e ∈ log) {d : Nat} (hd : e.dst = some d) : log.find? (fun e => e.dst == some d) = some e := by
  cases hf : log.find? (fun e => e.dst == some d) with
  | none =>
    have := List.find?_eq_none.1 hf e he
    simp [hd] at this
  | some e' =>
    have h1 := List.mem_of_find?_eq_some hf
    have h2 := List.find?_some hf
    simp at h2
    rw [h.d e' h1 e he d h2 hd]
def RunOk (P : Program) (ops : List Oper) (e : Ent) (o : Oper) (r : Tm) : Prop :=
  (wantedA ops o.guard r = some false ∧ e.v = undef ∧ (e.k = .p ∨ e.k = .e)) ∨
  (wantedA ops o.guard r = some true ∧ match e.k with
    | .p => ∀ H n D, aOp P o.op o.type ⟨r, H, n, D⟩ = some (e.v, ⟨r, H, n, D⟩)
    | .l ty ad => ∃ a, o.op = .load ty a ∧ opd a r = some (.pointer (some ad))
    | .a id c ty => kindOf o.op = .a ∧ ∃ H, aOp P o.op o.type ⟨r, H, id, []⟩ = some (e.v, pushB ⟨r, H, id, []⟩ c ty none)
    | .e => True
    | .m t mv k ok v => v = e.v ∧ ∃ a b, o.op = .lookup t a b ok ∧ opd a r = some mv ∧ opd b r = some k)
def EntOk (P : Program) (N : Nat) (ops : List Oper) (A : List Nat) (T0 : Tm) (log : List Ent) (e : Ent) : Prop :=
  ∃ o r, ops[e.x]? = some o ∧ e.dst = o.dst ∧ inN N o.dst = true ∧ RunOk P ops e o r ∧ (∀ d, d ∉ e.slots → r.get d = none) ∧
    ∀ S, Closed A S → (∀ y, bit A e.x y = true → y ∈ S) → e.x ∉ S → ∀ d ∈ e.slots, TF S log T0 d = r.get d
def Cur (P : Program) (H : Hp) (n : Nat) (e : Ent) : Prop :=
  match e.k with
  | .l ty ad => loadV P H ty ad = some e.v
  | .a id c ty => H.get id = some (.cells c ty false none) ∧ id < n
  | .m t mv k ok v => lookupV P H t mv k ok = some v
  | _ => True
structure J (P : Program) (N : Nat) (ops : List Oper) (A : List Nat) (T0 : Tm) (n0 : Nat) (w₀ : World) (W : Sets) (g : Reg) (S : List Nat) (φ : Phi) (t : Array Value) (w : World) (Hm : Hp) : Prop where
  tr : TRF φ (TF S g.log T0) t
  sz : t.size = N
  i : I w₀ W φ Hm g.n w
  hm : ∀ i, (Pend S g.log i → Hm.get i = none) ∧ (¬ Pend S g.log i → Hm.get i = g.H.get i)
  pend : ∀ i, Pend S g.log i → φ i = none
  sub : ∀ x ∈ S, ∃ e ∈ g.log, e.x = x
  cl : Closed A S
  un : Uniq g.log
  ent : ∀ e ∈ g.log, EntOk P N ops A T0 g.log e
  cur : ∀ e ∈ g.log, e.x ∉ S → Cur P g.H g.n e
  eff : ∀ e ∈ g.log, e.k = .e → e.x ∈ S
  T : ∀ d, g.T.get d = match g.log.find? (fun e => e.dst == some d) with | some e => some e.v | none => T0.get d
  nle : n0 ≤ g.n
  ids : ∀ e ∈ g.log, ∀ i c ty, e.k = .a i c ty → n0 ≤ i ∧ i < g.n
end Go.Ev
