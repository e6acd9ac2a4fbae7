import Derived.Test.YtakjjillnllocaaEv36
namespace Go.Ev
open Go
variable {P : Program} {ρ : Type}
structure ExOk (H : Hp) (ex : List Extra) : Prop where
  all : ∀ y ∈ ex, (∃ t a, y = .l t a ∧ ((∃ c e ro vec, H.get a.block = some (.cells c e ro vec)) ∨ ∃ c, H.get a.block = some (.rows c))) ∨ ∃ id c e, y = .a id c e
  apart : ∀ t a id c e, Extra.l t a ∈ ex → Extra.a id c e ∈ ex → a.block ≠ id
def ldOf (ex : List Extra) (b : Nat) : Prop := ∃ t a, Extra.l t a ∈ ex ∧ a.block = b
def nwOf (ex : List Extra) (b : Nat) : Prop := ∃ id c e, Extra.a id c e ∈ ex ∧ id = b
theorem maskX_some {H : Hp} : ∀ {ex : List Extra}, (∀ y ∈ ex, (∃ t a, y = .l t a ∧ ((∃ c e ro vec, H.get a.block = some (.cells c e ro vec)) ∨ ∃ c, H.get a.block = some (.rows c))) ∨ ∃ id c e, y = .a id c e) →
    ∃ H1, maskXL ex H = some H1 ∧ ∀ b, H1.get b = H.get b ∨ ((∃ c e ro vec, H.get b = some (.cells c e ro vec) ∧ H1.get b = some (.cells c e true vec)) ∧ ldOf ex b)
  | [], _ => ⟨H, rfl, fun _ => .inl rfl⟩
  | y :: l, h => by
    obtain ⟨H1, e1, e2⟩ := maskX_some (ex := l) (fun z hz => h z (List.mem_cons_of_mem _ hz))
    have old : ∀ b, H1.get b = H.get b ∨ ((∃ c e ro vec, H.get b = some (.cells c e ro vec) ∧ H1.get b = some (.cells c e true vec)) ∧ ldOf (y :: l) b) := fun b => by
      rcases e2 b with q | ⟨q, t', a', q1, q2⟩
      · exact .inl q
      · exact .inr ⟨q, t', a', List.mem_cons_of_mem _ q1, q2⟩
    rcases h y List.mem_cons_self with ⟨t, a, rfl, ha⟩ | ⟨id, c, e, rfl⟩
    · rcases ha with ⟨c, e, ro, vec, hc⟩ | ⟨c, hc⟩
      · have hro : ∃ ro', H1.get a.block = some (.cells c e ro' vec) := by
          rcases e2 a.block with q | ⟨⟨c', e', ro', vec', q1, q2⟩, _⟩
          · exact ⟨ro, q.trans hc⟩
          · rw [hc] at q1; cases q1; exact ⟨true, q2⟩
        obtain ⟨ro', h1⟩ := hro
        refine ⟨H1.set a.block (some (.cells c e true vec)), by simp only [maskXL, e1, h1], fun b => ?_⟩
        rw [Tr.get_set]
        by_cases hb : b = a.block
        · subst hb
          rw [if_pos rfl]
          exact .inr ⟨⟨c, e, ro, vec, hc, rfl⟩, t, a, List.mem_cons_self, rfl⟩
        · rw [if_neg hb]; exact old b
      · have h1 : H1.get a.block = some (.rows c) := by
          rcases e2 a.block with q | ⟨⟨c', e', ro', vec', q1, _⟩, _⟩
          · exact q.trans hc
          · rw [hc] at q1; cases q1
        exact ⟨H1, by simp only [maskXL, e1, h1], old⟩
    · exact ⟨H1, by simp only [maskXL, e1], old⟩
theorem maskXA_get {H : Hp} : ∀ {ex : List Extra} (b : Nat), (nwOf ex b → (maskXA ex H).get b = none) ∧ (¬ nwOf ex b → (maskXA ex H).get b = H.get b)
  | [], b => ⟨fun ⟨_, _, _, h, _⟩ => (by cases h), fun _ => rfl⟩
  | y :: l, b => by
    obtain ⟨i1, i2⟩ := maskXA_get (H := H) (ex := l) b
    cases y with
    | a id c e =>
      simp only [maskXA, Tr.get_set]
      constructor
      · rintro ⟨id', c', e', h1, h2⟩
        by_cases q : b = id
        · rw [if_pos q]
        · rw [if_neg q]
          rcases List.mem_cons.1 h1 with z | z
          · cases z; exact absurd h2.symm q
          · exact i1 ⟨id', c', e', z, h2⟩
      · intro h
        rw [if_neg (fun q => h ⟨id, c, e, List.mem_cons_self, q.symm⟩)]
        exact i2 fun ⟨id', c', e', h1, h2⟩ => h ⟨id', c', e', List.mem_cons_of_mem _ h1, h2⟩
    | _ =>
      simp only [maskXA]
      refine ⟨fun ⟨id', c', e', h1, h2⟩ => i1 ?_, fun h => i2 fun ⟨id', c', e', h1, h2⟩ => h ⟨id', c', e', List.mem_cons_of_mem _ h1, h2⟩⟩
      rcases List.mem_cons.1 h1 with z | z
      · cases z
      · exact ⟨id', c', e', z, h2⟩
theorem backXA_get {H0 H : Hp} : ∀ {ex : List Extra} (b : Nat), (nwOf ex b → (backXA ex H0 H).get b = H0.get b) ∧ (¬ nwOf ex b → (backXA ex H0 H).get b = H.get b)
  | [], b => ⟨fun ⟨_, _, _, h, _⟩ => (by cases h), fun _ => rfl⟩
  | y :: l, b => by
    obtain ⟨i1, i2⟩ := backXA_get (H0 := H0) (H := H) (ex := l) b
    cases y with
    | a id c e =>
      simp only [backXA, Tr.get_set]
      constructor
      · rintro ⟨id', c', e', h1, h2⟩
        by_cases q : b = id
        · rw [if_pos q, q]
        · rw [if_neg q]
          rcases List.mem_cons.1 h1 with z | z
          · cases z; exact absurd h2.symm q
          · exact i1 ⟨id', c', e', z, h2⟩
      · intro h
        rw [if_neg (fun q => h ⟨id, c, e, List.mem_cons_self, q.symm⟩)]
        exact i2 fun ⟨id', c', e', h1, h2⟩ => h ⟨id', c', e', List.mem_cons_of_mem _ h1, h2⟩
    | _ =>
      simp only [backXA]
      refine ⟨fun ⟨id', c', e', h1, h2⟩ => i1 ?_, fun h => i2 fun ⟨id', c', e', h1, h2⟩ => h ⟨id', c', e', List.mem_cons_of_mem _ h1, h2⟩⟩
      rcases List.mem_cons.1 h1 with z | z
      · cases z
      · exact ⟨id', c', e', z, h2⟩
theorem backX_some {H0 H : Hp} : ∀ {ex : List Extra}, (∀ y ∈ ex, (∃ t a, y = .l t a ∧ (H.get a.block).isSome) ∨ ∃ id c e, y = .a id c e) → ∃ H1, backXL ex H0 H = some H1 ∧ (∀ b, ldOf ex b → H1.get b = H0.get b) ∧ ∀ b, ¬ ldOf ex b → H1.get b = H.get b
  | [], _ => ⟨H, rfl, fun b ⟨t, a, h, _⟩ => (by cases h), fun _ _ => rfl⟩
  | y :: l, h => by
    obtain ⟨H1, e1, e2, e3⟩ := backX_some (H0 := H0) (ex := l) (fun z hz => h z (List.mem_cons_of_mem _ hz))
    rcases h y List.mem_cons_self with ⟨t, a, rfl, ha⟩ | ⟨id, c, e, rfl⟩
    · obtain ⟨B, h1⟩ := Option.isSome_iff_exists.1 ha
      refine ⟨H1.set a.block (H0.get a.block), by simp only [backXL, e1, h1], fun b hb => ?_, fun b hb => ?_⟩
      · rw [Tr.get_set]
        by_cases hab : b = a.block
        · rw [if_pos hab, hab]
        · rw [if_neg hab]
          obtain ⟨t', a', q1, q2⟩ := hb
          rcases List.mem_cons.1 q1 with q | q
          · cases q; exact absurd q2.symm hab
          · exact e2 b ⟨t', a', q, q2⟩
      · rw [Tr.get_set, if_neg (fun q => hb ⟨t, a, List.mem_cons_self, q.symm⟩)]
        exact e3 b (fun ⟨t', a', q1, q2⟩ => hb ⟨t', a', List.mem_cons_of_mem _ q1, q2⟩)
    · refine ⟨H1, by simp only [backXL, e1], fun b hb => ?_, fun b hb => e3 b fun ⟨t', a', q1, q2⟩ => hb ⟨t', a', List.mem_cons_of_mem _ q1, q2⟩⟩
      obtain ⟨t', a', q1, q2⟩ := hb
      rcases List.mem_cons.1 q1 with q | q
      · cases q
      · exact e2 b ⟨t', a', q, q2⟩
theorem chk_true {H : Hp} : ∀ {ex : List Extra}, (∀ y ∈ ex, (∃ t a, y = .l t a) ∨ ∃ id c e, y = .a id c e) → chkX P H ex = true
  | [], _ => rfl
  | y :: l, h => by
    have h3 := chk_true (H := H) (ex := l) (fun z hz => h z (List.mem_cons_of_mem _ hz))
    rcases h y List.mem_cons_self with ⟨t, a, rfl⟩ | ⟨id, c, e, rfl⟩ <;> simp only [chkX, chkE, h3, Bool.and_self]
theorem effK_still {ex : List Extra} {H : Hp} {n : Nat} {v : Value} {op : Hp → Nat → (Value → Hp → Nat → Option ρ) → Option ρ} (hex : ExOk H ex) (hop : ∀ H k, op H n k = k v H n) :
    ∃ H', (∀ b, H'.get b = H.get b) ∧ ∀ k, effK P ex H n op k = k v H' n := by
  cases ex with
  | nil => exact ⟨H, fun _ => rfl, fun k => by unfold effK; exact hop H k⟩
  | cons y l =>
    obtain ⟨H1, e1, e2⟩ := maskX_some hex.all
    have hld : ∀ t a, Extra.l t a ∈ y :: l → ((maskXA (y :: l) H1).get a.block).isSome := by
      intro t a hm
      have hn : ¬ nwOf (y :: l) a.block := fun ⟨id, c, e, q1, q2⟩ => hex.apart t a id c e hm q1 q2.symm
      rw [(maskXA_get (H := H1) a.block).2 hn]
      have hs : (H.get a.block).isSome := by
        rcases hex.all _ hm with ⟨t', a', q, hc⟩ | ⟨_, _, _, q⟩
        · cases q
          rcases hc with ⟨c, e, ro, vec, hc⟩ | ⟨c, hc⟩ <;> rw [hc] <;> rfl
        · cases q
      rcases e2 a.block with q | ⟨⟨c, e, ro, vec, _, q⟩, _⟩
      · rw [q]; exact hs
      · rw [q]; rfl
    have hall : ∀ z ∈ y :: l, (∃ t a, z = .l t a ∧ ((maskXA (y :: l) H1).get a.block).isSome) ∨ ∃ id c e, z = .a id c e := by
      intro z hz
      rcases hex.all z hz with ⟨t, a, rfl, _⟩ | q
      · exact .inl ⟨t, a, rfl, hld t a hz⟩
      · exact .inr q
    obtain ⟨H3, f1, f2, f3⟩ := backX_some (H0 := H) hall
    have hck : chkX P (backXA (y :: l) H H3) (y :: l) = true := chk_true fun z hz => by
      rcases hex.all z hz with ⟨t, a, q, _⟩ | q
      · exact .inl ⟨t, a, q⟩
      · exact .inr q
    refine ⟨backXA (y :: l) H H3, fun b => ?_, fun k => ?_⟩
    · by_cases hn : nwOf (y :: l) b
      · exact (backXA_get b).1 hn
      · rw [(backXA_get b).2 hn]
        by_cases hb : ldOf (y :: l) b
        · exact f2 b hb
        · rw [f3 b hb, (maskXA_get b).2 hn]
          rcases e2 b with q | ⟨_, q⟩
          · exact q
          · exact absurd q hb
    · unfold effK
      simp only [e1, bindO_some, hop, f1, hck]
      rfl
end Go.Ev
