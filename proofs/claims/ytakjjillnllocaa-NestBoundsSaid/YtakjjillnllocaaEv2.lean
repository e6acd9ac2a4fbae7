import Derived.Test.YtakjjillnllocaaEv1
namespace Go.Ev
open Go
abbrev Phi := Nat → Option (Nat × Nat)
def Phi.le (φ ψ : Phi) : Prop := ∀ i p, φ i = some p → ψ i = some p
theorem Phi.le_refl (φ : Phi) : φ.le φ := fun _ _ h => h
theorem Phi.le_trans {φ ψ χ : Phi} (h : φ.le ψ) (k : ψ.le χ) : φ.le χ := fun i p e => k i p (h i p e)
def AR (φ : Phi) (a a' : Addr) : Prop := (∃ c, φ a.block = some (a'.block, c)) ∧ a'.off = a.off ∧ a'.spot = a.spot
theorem AR.mono {φ ψ : Phi} (h : φ.le ψ) {a a' : Addr} : AR φ a a' → AR ψ a a' := fun ⟨⟨c, e⟩, r⟩ => ⟨⟨c, h _ _ e⟩, r⟩
def CR (φ : Phi) (a : Addr) (n c c' : Nat) : Prop :=
  (c < capV ∧ c' = c) ∨ (c = capV ∧ a.off = 0 ∧ a.spot = none ∧ n ≤ c' ∧ ∃ b, φ a.block = some (b, c')) ∨ (c = capR ∧ n ≤ c')
theorem CR.mono {φ ψ : Phi} (h : φ.le ψ) {a : Addr} {n c c' : Nat} : CR φ a n c c' → CR ψ a n c c' := by
  rintro (e | ⟨e, f, g, i, b, j⟩ | e)
  · exact .inl e
  · exact .inr (.inl ⟨e, f, g, i, b, h _ _ j⟩)
  · exact .inr (.inr e)
def FR (φ : Phi) : Fn → Fn → Prop
  | .yield l, g => ∃ l' c, g = .yield l' ∧ φ l = some (l', c)
  | f, g => g = f
theorem FR.mono {φ ψ : Phi} (h : φ.le ψ) {f g : Fn} (k : FR φ f g) : FR ψ f g := by
  cases f <;> try exact k
  obtain ⟨l', c, e, f⟩ := k
  exact ⟨l', c, e, h _ _ f⟩
mutual
def VR (φ : Phi) : Value → Value → Prop
  | .bool b, v' => v' = .bool b
  | .int k n, v' => v' = .int k n
  | .float k n, v' => v' = .float k n
  | .complex k n m, v' => v' = .complex k n m
  | .string s, v' => v' = .string s
  | .pointer none, v' => v' = .pointer none
  | .pointer (some a), v' => ∃ a', v' = .pointer (some a') ∧ AR φ a a'
  | .slice none n c, v' => v' = .slice none n c
  | .slice (some a) n c, v' => ∃ a' c', v' = .slice (some a') n c' ∧ AR φ a a' ∧ CR φ a n c c'
  | .map none, v' => v' = .map none
  | .map (some r), v' => ∃ r' c, v' = .map (some r') ∧ φ r = some (r', c)
  | .chan _, _ => False
  | .func f a b, v' => ∃ f' a' b', v' = .func f' a' b' ∧ FR φ f f' ∧ VRA φ a a' ∧ VRA φ b b'
  | .nilFunc, v' => v' = .nilFunc
  | .iface t v, v' => ∃ u, v' = .iface t u ∧ VR φ v u
  | .nilIface, v' => v' = .nilIface
  | .agg c, v' => ∃ c', v' = .agg c' ∧ VRA φ c c'
  | .tuple c, v' => ∃ c', v' = .tuple c' ∧ VRA φ c c'
def VRA (φ : Phi) : Array Value → Array Value → Prop
  | ⟨l⟩, a => VRL φ l a.toList
def VRL (φ : Phi) : List Value → List Value → Prop
  | [], l' => l' = []
  | v :: l, l' => ∃ v' r', l' = v' :: r' ∧ VR φ v v' ∧ VRL φ l r'
end
mutual
theorem VR.mono {φ ψ : Phi} (h : φ.le ψ) : ∀ {v v' : Value}, VR φ v v' → VR ψ v v'
  | .bool _, _, k | .int _ _, _, k | .float _ _, _, k | .complex _ _ _, _, k | .string _, _, k | .pointer none, _, k
  | .slice none _ _, _, k | .map none, _, k | .nilFunc, _, k | .nilIface, _, k => by simpa only [VR] using k
  | .chan _, _, k => by simp only [VR] at k
  | .pointer (some a), v', k => by
    simp only [VR] at *
    obtain ⟨a', e, r⟩ := k
    exact ⟨a', e, r.mono h⟩
  | .slice (some a) n c, v', k => by
    simp only [VR] at *
    obtain ⟨a', c', e, r, s⟩ := k
    exact ⟨a', c', e, r.mono h, s.mono h⟩
  | .map (some r), v', k => by
    simp only [VR] at *
    obtain ⟨r', c, e, f⟩ := k
    exact ⟨r', c, e, h _ _ f⟩
  | .func f a b, v', k => by
    simp only [VR] at *
    obtain ⟨f', a', b', e, x, y, z⟩ := k
    exact ⟨f', a', b', e, x.mono h, VRA.mono h y, VRA.mono h z⟩
  | .iface t v, v', k => by
    simp only [VR] at *
    obtain ⟨u, e, x⟩ := k
    exact ⟨u, e, VR.mono h x⟩
  | .agg c, v', k => by
    simp only [VR] at *
    obtain ⟨u, e, x⟩ := k
    exact ⟨u, e, VRA.mono h x⟩
  | .tuple c, v', k => by
    simp only [VR] at *
    obtain ⟨u, e, x⟩ := k
    exact ⟨u, e, VRA.mono h x⟩
theorem VRA.mono {φ ψ : Phi} (h : φ.le ψ) : ∀ {a a' : Array Value}, VRA φ a a' → VRA ψ a a'
  | ⟨l⟩, a', k => by
    simp only [VRA] at *
    exact VRL.mono h k
theorem VRL.mono {φ ψ : Phi} (h : φ.le ψ) : ∀ {l l' : List Value}, VRL φ l l' → VRL ψ l l'
  | [], _, k => by simpa only [VRL] using k
  | v :: l, l', k => by
    simp only [VRL] at *
    obtain ⟨v', r', e, x, y⟩ := k
    exact ⟨v', r', e, VR.mono h x, VRL.mono h y⟩
end
mutual
theorem pureV.eq {φ : Phi} : ∀ {v v' : Value}, pureV v = true → VR φ v v' → v' = v
  | .bool _, _, _, k | .int _ _, _, _, k | .float _ _, _, _, k | .complex _ _ _, _, _, k | .string _, _, _, k | .pointer none, _, _, k
  | .slice none _ _, _, _, k | .map none, _, _, k | .nilFunc, _, _, k | .nilIface, _, _, k => by simpa only [VR] using k
  | .chan _, _, _, k => by simp only [VR] at k
  | .pointer (some a), v', p, k => by simp [pureV] at p
  | .slice (some a) n c, v', p, k => by simp [pureV] at p
  | .map (some r), v', p, k => by simp [pureV] at p
  | .func f a b, v', p, k => by
    simp only [VR] at k
    obtain ⟨f', a', b', rfl, x, y, z⟩ := k
    simp only [pureV, Bool.and_eq_true] at p
    rw [pureA.eq p.1.2 y, pureA.eq p.2 z]
    cases f <;> simp_all [FR]
  | .iface t v, v', p, k => by
    simp only [VR] at k
    obtain ⟨u, rfl, x⟩ := k
    rw [pureV.eq (by simpa only [pureV] using p) x]
  | .agg c, v', p, k => by
    simp only [VR] at k
    obtain ⟨u, rfl, x⟩ := k
    rw [pureA.eq (by simpa only [pureV] using p) x]
  | .tuple c, v', p, k => by
    simp only [VR] at k
    obtain ⟨u, rfl, x⟩ := k
    rw [pureA.eq (by simpa only [pureV] using p) x]
theorem pureA.eq {φ : Phi} : ∀ {v v' : Array Value}, pureA v = true → VRA φ v v' → v' = v
  | ⟨l⟩, ⟨l'⟩, p, k => by
    simp only [VRA] at k
    rw [show l' = l from pureL.eq (by simpa only [pureA] using p) k]
theorem pureL.eq {φ : Phi} : ∀ {v v' : List Value}, pureL v = true → VRL φ v v' → v' = v
  | [], _, _, k => by simpa only [VRL] using k
  | v :: l, l', p, k => by
    simp only [VRL] at k
    obtain ⟨v', r', rfl, x, y⟩ := k
    simp only [pureL, Bool.and_eq_true] at p
    rw [pureV.eq p.1 x, pureL.eq p.2 y]
end
mutual
theorem pureV.refl {φ : Phi} : ∀ {v : Value}, pureV v = true → VR φ v v
  | .bool _, _ | .int _ _, _ | .float _ _, _ | .complex _ _ _, _ | .string _, _ | .pointer none, _
  | .slice none _ _, _ | .map none, _ | .nilFunc, _ | .nilIface, _ => by simp only [VR]
  | .chan _, p => by simp [pureV] at p
  | .pointer (some a), p => by simp [pureV] at p
  | .slice (some a) n c, p => by simp [pureV] at p
  | .map (some r), p => by simp [pureV] at p
  | .func f a b, p => by
    simp only [pureV, Bool.and_eq_true] at p
    simp only [VR]
    refine ⟨f, a, b, rfl, ?_, pureA.refl p.1.2, pureA.refl p.2⟩
    cases f <;> simp_all [FR]
  | .iface t v, p => by
    simp only [VR]
    exact ⟨v, rfl, pureV.refl (by simpa only [pureV] using p)⟩
  | .agg c, p => by
    simp only [VR]
    exact ⟨c, rfl, pureA.refl (by simpa only [pureV] using p)⟩
  | .tuple c, p => by
    simp only [VR]
    exact ⟨c, rfl, pureA.refl (by simpa only [pureV] using p)⟩
theorem pureA.refl {φ : Phi} : ∀ {v : Array Value}, pureA v = true → VRA φ v v
  | ⟨l⟩, p => by
    simp only [VRA]
    exact pureL.refl (by simpa only [pureA] using p)
theorem pureL.refl {φ : Phi} : ∀ {v : List Value}, pureL v = true → VRL φ v v
  | [], _ => by simp only [VRL]
  | v :: l, p => by
    simp only [pureL, Bool.and_eq_true] at p
    simp only [VRL]
    exact ⟨v, l, rfl, pureV.refl p.1, pureL.refl p.2⟩
end
theorem VRL.length {φ : Phi} : ∀ {l l' : List Value}, VRL φ l l' → l'.length = l.length
  | [], _, k => by simp only [VRL] at k; simp [k]
  | v :: l, l', k => by
    simp only [VRL] at k
    obtain ⟨v', r', rfl, x, y⟩ := k
    simp [VRL.length y]
theorem VRL.get {φ : Phi} : ∀ {l l' : List Value}, VRL φ l l' → ∀ {i : Nat} {v : Value}, l[i]? = some v → ∃ v', l'[i]? = some v' ∧ VR φ v v'
  | [], _, k, i, v, h => by simp at h
  | v :: l, l', k, i, u, h => by
    simp only [VRL] at k
    obtain ⟨v', r', rfl, x, y⟩ := k
    cases i with
    | zero => simp at h; subst h; exact ⟨v', by simp, x⟩
    | succ i => simp at h; simpa using y.get h
theorem VRL.append {φ : Phi} : ∀ {l l' m m' : List Value}, VRL φ l l' → VRL φ m m' → VRL φ (l ++ m) (l' ++ m')
  | [], _, m, m', k, j => by simp only [VRL] at k; simpa [k] using j
  | v :: l, l', m, m', k, j => by
    simp only [VRL] at k
    obtain ⟨v', r', rfl, x, y⟩ := k
    simp only [List.cons_append, VRL]
    exact ⟨v', r' ++ m', rfl, x, y.append j⟩
theorem VRL.drop {φ : Phi} : ∀ (n : Nat) {l l' : List Value}, VRL φ l l' → VRL φ (l.drop n) (l'.drop n)
  | 0, _, _, k => by simpa using k
  | n + 1, [], _, k => by simp only [VRL] at k; simp [k, VRL]
  | n + 1, v :: l, l', k => by
    simp only [VRL] at k
    obtain ⟨v', r', rfl, x, y⟩ := k
    simpa using y.drop n
theorem VRL.take {φ : Phi} : ∀ (n : Nat) {l l' : List Value}, VRL φ l l' → VRL φ (l.take n) (l'.take n)
  | 0, _, _, _ => by simp [VRL]
  | n + 1, [], _, k => by simp only [VRL] at k; simp [k, VRL]
  | n + 1, v :: l, l', k => by
    simp only [VRL] at k
    obtain ⟨v', r', rfl, x, y⟩ := k
    simp only [List.take_succ_cons, VRL]
    exact ⟨v', _, rfl, x, y.take n⟩
theorem VRL.nil {φ : Phi} : VRL φ [] [] := by simp only [VRL]
theorem VRL.cons {φ : Phi} {v v' : Value} {l l' : List Value} (h : VR φ v v') (k : VRL φ l l') : VRL φ (v :: l) (v' :: l') := by
  simp only [VRL]; exact ⟨v', l', rfl, h, k⟩
theorem VRL.of_get {φ : Phi} : ∀ {l l' : List Value}, l'.length = l.length → (∀ (j : Nat) v, l[j]? = some v → ∃ v', l'[j]? = some v' ∧ VR φ v v') → VRL φ l l'
  | [], [], _, _ => VRL.nil
  | [], _ :: _, h, _ => by simp at h
  | _ :: _, [], h, _ => by simp at h
  | v :: l, v' :: l', h, k => by
    obtain ⟨u, a, b⟩ := k 0 v (by simp)
    simp at a; subst a
    exact VRL.cons b (VRL.of_get (by simpa using h) fun j w e => by simpa using k (j + 1) w (by simpa using e))
def Pre (φ : Phi) (l l' : List Value) : Prop := VRL φ l (l'.take l.length)
theorem Pre.mono {φ ψ : Phi} (h : φ.le ψ) {l l' : List Value} (k : Pre φ l l') : Pre ψ l l' := VRL.mono h k
theorem Pre.le {φ : Phi} {l l' : List Value} (k : Pre φ l l') : l.length ≤ l'.length := by
  have := VRL.length k; simp at this; omega
theorem Pre.of {φ : Phi} {l l' : List Value} (k : VRL φ l l') : Pre φ l l' := by
  unfold Pre; rw [List.take_of_length_le (by rw [k.length]; exact Nat.le_refl _)]; exact k
end Go.Ev
