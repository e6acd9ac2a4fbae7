import Derived.Test.YtakjjillnllocaaEv37
namespace Go.Ev
open Go
variable {P : Program} {ρ : Type}
theorem effK_grow {ex : List Extra} {H : Hp} {n : Nat} {v : Value} {op : Hp → Nat → (Value → Hp → Nat → Option ρ) → Option ρ}
    (hex : ∀ y ∈ ex, ∃ t a, y = .l t a ∧ a.block < n ∧ ((∃ c e ro vec, H.get a.block = some (.cells c e ro vec)) ∨ ∃ c, H.get a.block = some (.rows c)))
    (hop : ∀ Hm, ∃ H2 n2, (∀ k, op Hm n k = k v H2 n2) ∧ n ≤ n2 ∧ Keep n Hm H2) :
    ∃ H' n', (∀ k, effK P ex H n op k = k v H' n') ∧ n ≤ n' ∧ Keep n H H' := by
  cases ex with
  | nil =>
    obtain ⟨H2, n2, h1, h2, h3⟩ := hop H
    exact ⟨H2, n2, fun k => by unfold effK; exact h1 k, h2, h3⟩
  | cons y l =>
    have hl : ∀ z ∈ y :: l, ∃ t a, z = .l t a := fun z hz => by obtain ⟨t, a, e, _⟩ := hex z hz; exact ⟨t, a, e⟩
    obtain ⟨H1, e1, e2⟩ := maskX_some (ex := y :: l) (H := H) fun z hz => by obtain ⟨t, a, e, _, h⟩ := hex z hz; exact .inl ⟨t, a, e, h⟩
    have hnw : ∀ b, ¬ nwOf (y :: l) b := fun b ⟨id, c, e, h1, _⟩ => by obtain ⟨t, a, q⟩ := hl _ h1; cases q
    obtain ⟨H2, n2, h1, h2, h3⟩ := hop (maskXA (y :: l) H1)
    have hsome : ∀ z ∈ y :: l, (∃ t a, z = .l t a ∧ (H2.get a.block).isSome) ∨ ∃ id c e, z = .a id c e := by
      intro z hz
      obtain ⟨t, a, rfl, hn, hc⟩ := hex z hz
      refine .inl ⟨t, a, rfl, ?_⟩
      rw [h3 _ hn, (maskXA_get (H := H1) a.block).2 (hnw _)]
      have hs : (H.get a.block).isSome := by rcases hc with ⟨c, e, ro, vec, hc⟩ | ⟨c, hc⟩ <;> rw [hc] <;> rfl
      rcases e2 a.block with q | ⟨⟨c, e, ro, vec, _, q⟩, _⟩
      · rw [q]; exact hs
      · rw [q]; rfl
    obtain ⟨H3, f1, f2, f3⟩ := backX_some (H0 := H) hsome
    have hck : chkX P (backXA (y :: l) H H3) (y :: l) = true := chk_true fun z hz => .inl (hl z hz)
    refine ⟨backXA (y :: l) H H3, n2, fun k => ?_, h2, fun b hb => ?_⟩
    · unfold effK
      simp only [e1, bindO_some, h1, f1, hck]
      rfl
    · rw [(backXA_get b).2 (hnw b)]
      by_cases q : ldOf (y :: l) b
      · exact f2 b q
      · rw [f3 b q, h3 b hb, (maskXA_get b).2 (hnw b)]
        rcases e2 b with z | ⟨_, z⟩
        · exact z
        · exact absurd z q
theorem splice_two {a b : Int} : ∀ {X : List Int} {o : Nat}, o + 2 ≤ X.length → splice (ints X) o [.int .i64 a, .int .i64 b] = some (ints ((X.set o a).set (o + 1) b))
  | [], _, h => by simp at h
  | [x], 0, h => by simp at h
  | x :: x' :: X, 0, _ => by
    unfold splice
    simp [ints, splice.over]
  | x :: X, o + 1, h => by
    have ih := splice_two (a := a) (b := b) (X := X) (o := o) (by simp at h; omega)
    unfold splice
    simp only [ints, List.map_cons, List.set_cons_succ] at ih ⊢
    rw [ih]
theorem store_two {a b : Int} {X : List Int} {o g : Nat} {H : Hp} {e : TypeId} {vec : Option Nat} (h : H.get g = some (.cells (ints X) e false vec)) (ho : o + 2 ≤ X.length) :
    storeN H ⟨g, o, none⟩ [.int .i64 a, .int .i64 b] = some (H.set g (some (.cells (ints ((X.set o a).set (o + 1) b)) e false vec))) := by
  unfold storeN
  simp only [h, splice_two ho]
  rfl
end Go.Ev
