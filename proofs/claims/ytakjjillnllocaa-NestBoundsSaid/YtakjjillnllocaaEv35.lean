import Derived.Test.YtakjjillnllocaaEv34
namespace Go.Ev
open Go
variable {P : Program} {ρ : Type}
def LoadsOk (H : Hp) (ex : List Extra) : Prop := ∀ y ∈ ex, ∃ t a, y = .l t a ∧ ((∃ c e ro vec, H.get a.block = some (.cells c e ro vec)) ∨ ∃ c, H.get a.block = some (.rows c))
theorem maskXL_some {H : Hp} : ∀ {ex : List Extra}, LoadsOk H ex → ∃ H1, maskXL ex H = some H1 ∧ ∀ b, H1.get b = H.get b ∨
    ((∃ c e ro vec, H.get b = some (.cells c e ro vec) ∧ H1.get b = some (.cells c e true vec)) ∧ ∃ t a, Extra.l t a ∈ ex ∧ a.block = b)
  | [], _ => ⟨H, rfl, fun _ => .inl rfl⟩
  | y :: l, h => by
    obtain ⟨H1, e1, e2⟩ := maskXL_some (ex := l) (fun z hz => h z (List.mem_cons_of_mem _ hz))
    obtain ⟨t, a, rfl, ha⟩ := h y List.mem_cons_self
    have old : ∀ b, H1.get b = H.get b ∨ ((∃ c e ro vec, H.get b = some (.cells c e ro vec) ∧ H1.get b = some (.cells c e true vec)) ∧ ∃ t' a', Extra.l t' a' ∈ (Extra.l t a :: l) ∧ a'.block = b) := fun b => by
      rcases e2 b with q | ⟨q, t', a', q1, q2⟩
      · exact .inl q
      · exact .inr ⟨q, t', a', List.mem_cons_of_mem _ q1, q2⟩
    rcases ha with ⟨c, e, ro, vec, hc⟩ | ⟨c, hc⟩
    · have hro : ∃ ro', H1.get a.block = some (.cells c e ro' vec) := by
        rcases e2 a.block with q | ⟨⟨c', e', ro', vec', q1, q2⟩, _⟩
        · exact ⟨ro, q.trans hc⟩
        · rw [hc] at q1; cases q1; exact ⟨true, q2⟩
      obtain ⟨ro', h1⟩ := hro
      refine ⟨H1.set a.block (some (.cells c e true vec)), by simp only [maskXL, e1, h1], fun b => ?_⟩
      rw [Tr.get_set]
      by_cases hb : b = a.block
      · subst hb
        rw [if_pos rfl]
        exact .inr ⟨⟨c, e, ro, vec, hc, rfl⟩, t, a, List.mem_cons_self, rfl⟩
      · rw [if_neg hb]; exact old b
    · have h1 : H1.get a.block = some (.rows c) := by
        rcases e2 a.block with q | ⟨⟨c', e', ro', vec', q1, _⟩, _⟩
        · exact q.trans hc
        · rw [hc] at q1; cases q1
      exact ⟨H1, by simp only [maskXL, e1, h1], old⟩
theorem backXL_some {H0 H : Hp} : ∀ {ex : List Extra}, LoadsOk H0 ex → (∀ b, (H0.get b).isSome → (H.get b).isSome) → ∃ H1, backXL ex H0 H = some H1 ∧ (∀ b, (∃ t a, Extra.l t a ∈ ex ∧ a.block = b) → H1.get b = H0.get b) ∧
    ∀ b, (¬ ∃ t a, Extra.l t a ∈ ex ∧ a.block = b) → H1.get b = H.get b
  | [], _, _ => ⟨H, rfl, fun b ⟨t, a, h, _⟩ => (by cases h), fun _ _ => rfl⟩
  | y :: l, h, hs => by
    obtain ⟨H1, e1, e2, e3⟩ := backXL_some (ex := l) (fun z hz => h z (List.mem_cons_of_mem _ hz)) hs
    obtain ⟨t, a, rfl, ha⟩ := h y List.mem_cons_self
    have h1 : ∃ B, H.get a.block = some B := by
      have : (H0.get a.block).isSome := by rcases ha with ⟨c, e, ro, vec, hc⟩ | ⟨c, hc⟩ <;> rw [hc] <;> rfl
      exact Option.isSome_iff_exists.1 (hs _ this)
    obtain ⟨B, h1⟩ := h1
    refine ⟨H1.set a.block (H0.get a.block), by simp only [backXL, e1, h1], fun b hb => ?_, fun b hb => ?_⟩
    · rw [Tr.get_set]
      by_cases hab : b = a.block
      · rw [if_pos hab, hab]
      · rw [if_neg hab]
        obtain ⟨t', a', q1, q2⟩ := hb
        rcases List.mem_cons.1 q1 with q | q
        · cases q; exact absurd q2.symm hab
        · exact e2 b ⟨t', a', q, q2⟩
    · rw [Tr.get_set, if_neg (fun q => hb ⟨t, a, List.mem_cons_self, q.symm⟩)]
      exact e3 b (fun ⟨t', a', q1, q2⟩ => hb ⟨t', a', List.mem_cons_of_mem _ q1, q2⟩)
theorem loads_A {H0 H : Hp} : ∀ {ex : List Extra}, LoadsOk H0 ex → maskXA ex H = H ∧ backXA ex H0 H = H ∧ chkX P H ex = true
  | [], _ => ⟨rfl, rfl, rfl⟩
  | y :: l, h => by
    obtain ⟨h1, h2, h3⟩ := loads_A (H0 := H0) (H := H) (ex := l) (fun z hz => h z (List.mem_cons_of_mem _ hz))
    obtain ⟨t, a, rfl, _⟩ := h y List.mem_cons_self
    exact ⟨h1, h2, by simp only [chkX, chkE, h3, Bool.and_self]⟩
theorem effK_pure {ex : List Extra} {H : Hp} {n : Nat} {v : Value} {op : Hp → Nat → (Value → Hp → Nat → Option ρ) → Option ρ} (hex : LoadsOk H ex) (hop : ∀ H k, op H n k = k v H n) :
    ∃ H', (∀ b, H'.get b = H.get b) ∧ ∀ k, effK P ex H n op k = k v H' n := by
  cases ex with
  | nil => exact ⟨H, fun _ => rfl, fun k => by unfold effK; exact hop H k⟩
  | cons y l =>
    obtain ⟨H1, e1, e2⟩ := maskXL_some hex
    have hs : ∀ b, (H.get b).isSome → (H1.get b).isSome := fun b hb => by
      rcases e2 b with q | ⟨⟨c, e, ro, vec, _, q⟩, _⟩
      · rw [q]; exact hb
      · rw [q]; rfl
    obtain ⟨H3, f1, f2, f3⟩ := backXL_some hex hs
    refine ⟨H3, fun b => ?_, fun k => ?_⟩
    · by_cases hb : ∃ t a, Extra.l t a ∈ y :: l ∧ a.block = b
      · exact f2 b hb
      · rw [f3 b hb]
        rcases e2 b with q | ⟨_, q⟩
        · exact q
        · exact absurd q hb
    · unfold effK
      simp only [e1, bindO_some, (loads_A (P := P) (H0 := H) (H := H1) hex).1, hop, f1, (loads_A (P := P) (H0 := H) (H := H3) hex).2.1, (loads_A (P := P) (H0 := H) (H := H3) hex).2.2]
      rfl
end Go.Ev
