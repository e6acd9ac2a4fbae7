import Derived.Test.YtakjjillnllocaaEv38
namespace Go.Ev
open Go
variable {P : Program} {ρ : Type}
theorem effK_gen {ex : List Extra} {H : Hp} {n : Nat} {v : Value} {op : Hp → Nat → (Value → Hp → Nat → Option ρ) → Option ρ} {R : Hp → Nat → Prop}
    (hex : ∀ y ∈ ex, ∃ t a, y = .l t a ∧ ((∃ c e ro vec, H.get a.block = some (.cells c e ro vec)) ∨ ∃ c, H.get a.block = some (.rows c)))
    (hop : ∀ Hm, (∀ b, ¬ ldOf ex b → Hm.get b = H.get b) → ∃ H2 n2, (∀ k, op Hm n k = k v H2 n2) ∧ (∀ b, ldOf ex b → H2.get b = Hm.get b) ∧ R H2 n2) :
    ∃ H' H2 n2, (∀ k, effK P ex H n op k = k v H' n2) ∧ R H2 n2 ∧ (∀ b, ldOf ex b → H'.get b = H.get b) ∧ ∀ b, ¬ ldOf ex b → H'.get b = H2.get b := by
  cases ex with
  | nil =>
    obtain ⟨H2, n2, h1, _, h3⟩ := hop H (fun _ _ => rfl)
    exact ⟨H2, H2, n2, fun k => by unfold effK; exact h1 k, h3, fun b ⟨_, _, h, _⟩ => (by cases h), fun _ _ => rfl⟩
  | cons y l =>
    have hl : ∀ z ∈ y :: l, ∃ t a, z = .l t a := fun z hz => by obtain ⟨t, a, e, _⟩ := hex z hz; exact ⟨t, a, e⟩
    obtain ⟨H1, e1, e2⟩ := maskX_some (ex := y :: l) (H := H) fun z hz => by obtain ⟨t, a, e, h⟩ := hex z hz; exact .inl ⟨t, a, e, h⟩
    have hnw : ∀ b, ¬ nwOf (y :: l) b := fun b ⟨id, c, e, h1, _⟩ => by obtain ⟨t, a, q⟩ := hl _ h1; cases q
    obtain ⟨H2, n2, h1, h2, h3⟩ := hop (maskXA (y :: l) H1) fun b hb => by
      rw [(maskXA_get (H := H1) b).2 (hnw _)]
      rcases e2 b with q | ⟨_, q⟩
      · exact q
      · exact absurd q hb
    have hsome : ∀ z ∈ y :: l, (∃ t a, z = .l t a ∧ (H2.get a.block).isSome) ∨ ∃ id c e, z = .a id c e := by
      intro z hz
      obtain ⟨t, a, rfl, hc⟩ := hex z hz
      refine .inl ⟨t, a, rfl, ?_⟩
      rw [h2 _ ⟨t, a, hz, rfl⟩, (maskXA_get (H := H1) a.block).2 (hnw _)]
      have hs : (H.get a.block).isSome := by rcases hc with ⟨c, e, ro, vec, hc⟩ | ⟨c, hc⟩ <;> rw [hc] <;> rfl
      rcases e2 a.block with q | ⟨⟨c, e, ro, vec, _, q⟩, _⟩
      · rw [q]; exact hs
      · rw [q]; rfl
    obtain ⟨H3, f1, f2, f3⟩ := backX_some (H0 := H) hsome
    have hck : chkX P (backXA (y :: l) H H3) (y :: l) = true := chk_true fun z hz => .inl (hl z hz)
    refine ⟨backXA (y :: l) H H3, H2, n2, fun k => ?_, h3, fun b hb => ?_, fun b hb => ?_⟩
    · unfold effK
      simp only [e1, bindO_some, h1, f1, hck]
      rfl
    · rw [(backXA_get b).2 (hnw b)]; exact f2 b hb
    · rw [(backXA_get b).2 (hnw b)]; exact f3 b hb
theorem putF_one (f : Nat → Value) (o : Nat) (v : Value) (k : Nat) : putF f o [v] k = if k = o then v else f k := by
  unfold putF
  by_cases h : k = o
  · subst h; simp
  · rw [if_neg h]
    by_cases h2 : o ≤ k
    · rw [if_pos h2]
      have : k - o ≠ 0 := by omega
      cases hk : k - o with
      | zero => exact absurd hk this
      | succ m => simp
    · rw [if_neg h2]
theorem putF_in (f : Nat → Value) (o : Nat) (vs : List Value) {j : Nat} {v : Value} (h : vs[j]? = some v) : putF f o vs (o + j) = v := by
  unfold putF
  rw [if_pos (by omega), show o + j - o = j by omega, h]
theorem putF_out (f : Nat → Value) (o : Nat) (vs : List Value) {k : Nat} (h : k < o ∨ o + vs.length ≤ k) : putF f o vs k = f k := by
  unfold putF
  by_cases h2 : o ≤ k
  · rw [if_pos h2, List.getElem?_eq_none (by omega)]
  · rw [if_neg h2]
end Go.Ev
