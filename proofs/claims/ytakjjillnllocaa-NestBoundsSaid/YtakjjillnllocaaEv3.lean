import Derived.Test.YtakjjillnllocaaEv2
namespace Go.Ev
open Go
def spl (l : List Value) (k : Nat) (vs : List Value) : List Value := l.take k ++ vs ++ l.drop (k + vs.length)
theorem over_eq : ∀ (l vs r : List Value), splice.over l vs = some r → r = vs ++ l.drop vs.length ∧ vs.length ≤ l.length
  | l, [], r, h => by simp [splice.over] at h; simp [h]
  | [], v :: vs, r, h => by simp [splice.over] at h
  | x :: l, v :: vs, r, h => by
    simp only [splice.over] at h
    split at h
    · simp at h
    · rename_i q hq
      simp at h; subst h
      obtain ⟨e, f⟩ := over_eq l vs q hq
      simp [e]; exact f
theorem splice_eq : ∀ (k : Nat) (l vs r : List Value), splice l k vs = some r → r = spl l k vs ∧ k + vs.length ≤ l.length
  | 0, l, vs, r, h => by
    simp only [splice] at h
    obtain ⟨e, f⟩ := over_eq l vs r h
    simp [spl, e]; exact f
  | k + 1, [], vs, r, h => by simp [splice] at h
  | k + 1, x :: l, vs, r, h => by
    simp only [splice] at h
    split at h
    · simp at h
    · rename_i q hq
      simp at h; subst h
      obtain ⟨e, f⟩ := splice_eq k l vs q hq
      subst e
      constructor
      · simp [spl, Nat.add_right_comm k 1]
      · simp; omega
theorem spl_length (l : List Value) (k : Nat) (vs : List Value) (h : k + vs.length ≤ l.length) : (spl l k vs).length = l.length := by
  simp [spl]; omega
theorem Pre.spl {φ : Phi} {l l' vs vs' : List Value} {k : Nat} (h : Pre φ l l') (g : VRL φ vs vs') (hk : k + vs.length ≤ l.length) :
    Pre φ (spl l k vs) (spl l' k vs') := by
  have hl := g.length
  have hle := h.le
  unfold Pre at *
  rw [spl_length _ _ _ hk]
  have e : (Ev.spl l' k vs').take l.length = Ev.spl (l'.take l.length) k vs' := by
    have m1 : min l.length k = k := by omega
    have m2 : min k l'.length = k := by omega
    have m3 : min k l.length = k := by omega
    have t : vs'.take (l.length - k) = vs' := List.take_of_length_le (by omega)
    simp only [Ev.spl, List.take_append, List.take_take, List.drop_take, List.length_append, List.length_take, hl, m1, m2, m3, t]
  rw [e]
  unfold Ev.spl
  have h1 := (h.take k).append g
  have h2 := h1.append (h.drop (k + vs.length))
  rw [← hl] at h2
  simpa [hl] using h2
def TR (φ : Phi) (T : Tm) (t : Array Value) : Prop := ∀ i v, T.get i = some v → ∃ v', t[i]? = some v' ∧ VR φ v v'
theorem TR.mono {φ ψ : Phi} (h : φ.le ψ) {T : Tm} {t : Array Value} (k : TR φ T t) : TR ψ T t :=
  fun i v e => let ⟨v', a, b⟩ := k i v e; ⟨v', a, b.mono h⟩
def BR (φ : Phi) : Blk → Obj → Nat → Prop
  | .cells c e ro vec, o, cp => ∃ arr fr, o = .cells arr e fr ∧ (ro = false → fr = (0, 0)) ∧ Pre φ c arr.toList ∧ (∀ s, vec = some s → arr.size = cp * s)
  | .loop st pe fn T N ps as bd d, o, _ => ∃ r, o = .loop r ∧ r.state = st ∧ r.pending = pe ∧ r.fn = fn ∧ r.tmps.size = N ∧ TR φ T r.tmps ∧ r.params = ps ∧ r.assign = as ∧ r.body = bd ∧ ∃ c, φ d = some (r.defers, c)
  | .deferred, o, _ => o = .deferred (some [])
  | .map es c, o, _ => o = .map ⟨es⟩ c
  | .rows c, o, _ => ∃ arr e fr, o = .cells arr e fr ∧ ∀ (j : Nat) v, c[j]? = some v → noHole v = true → ∃ v', arr[j]? = some v' ∧ VR φ v v'
theorem BR.mono {φ ψ : Phi} (h : φ.le ψ) {b : Blk} {o : Obj} {c : Nat} (k : BR φ b o c) : BR ψ b o c := by
  cases b with
  | cells c e ro vec =>
    obtain ⟨arr, fr, a, b, c, d⟩ := k
    exact ⟨arr, fr, a, b, c.mono h, d⟩
  | loop st pe fn T N ps as bd d =>
    obtain ⟨r, a, b, c, d, e, f, g, i, j, u, v⟩ := k
    exact ⟨r, a, b, c, d, e, f.mono h, g, i, j, u, h _ _ v⟩
  | deferred => exact k
  | map es c => exact k
  | rows c =>
    obtain ⟨arr, e, fr, x, y⟩ := k
    exact ⟨arr, e, fr, x, fun j v a b => let ⟨v', p, q⟩ := y j v a b; ⟨v', p, q.mono h⟩⟩
def Blk.ro : Blk → Bool
  | .cells _ _ r _ => r
  | .rows _ => true
  | _ => false
structure Sets where
  w : Nat → Prop
  r : Nat → Prop
def frOb : Option Obj → Nat × Nat
  | some (.cells _ _ fr) => fr
  | _ => (0, 0)
theorem BR.fr {φ : Phi} {b : Blk} {o : Obj} {c : Nat} (h : BR φ b o c) (hr : b.ro = false) : frOb (some o) = (0, 0) := by
  cases b with
  | cells l e ro vec =>
    obtain ⟨arr, fr, rfl, g, _⟩ := h
    exact g hr
  | loop st pe fn T N ps as bd d =>
    obtain ⟨r, rfl, _⟩ := h
    rfl
  | deferred => simp only [BR] at h; subst h; rfl
  | map es c => simp only [BR] at h; subst h; rfl
  | rows c => cases hr
structure I (w₀ : World) (W : Sets) (φ : Phi) (H : Hp) (n : Nat) (w : World) : Prop where
  dom : ∀ i p, φ i = some p → i < n ∧ p.1 < w.heap.size
  rel : ∀ i b, H.get i = some b → ∃ p o, φ i = some p ∧ w.heap[p.1]? = some o ∧ BR φ b o p.2
  inj : ∀ i j b c p q, H.get i = some b → H.get j = some c → φ i = some p → φ j = some q → p.1 = q.1 → i = j
  keep : ∀ b, b < w₀.heap.size → ¬ W.w b → w.heap[b]? = w₀.heap[b]?
  size : w₀.heap.size ≤ w.heap.size
  wr : ∀ i b p, H.get i = some b → b.ro = false → φ i = some p → W.w p.1 ∨ w₀.heap.size ≤ p.1
  src : ∀ i b p, H.get i = some b → φ i = some p → W.r p.1 ∨ w₀.heap.size ≤ p.1
  os : w.os = w₀.os
  tape : w.tape = w₀.tape
  output : w.output = w₀.output
  fz : ∀ b : Nat, frOb w.heap[b]? = frOb w₀.heap[b]?
variable {w₀ : World} {W : Sets} {φ : Phi} {H : Hp} {n : Nat} {w : World}
theorem I.drew (h : I w₀ W φ H n w) (k : Nat) : I w₀ W φ H n { w with drawn := k } :=
  ⟨h.dom, h.rel, h.inj, h.keep, h.size, h.wr, h.src, h.os, h.tape, h.output, h.fz⟩
structure Ext (φ : Phi) (n : Nat) (ψ : Phi) (m : Nat) : Prop where
  le : φ.le ψ
  new : ∀ i p, ψ i = some p → φ i = some p ∨ n ≤ i
  n : n ≤ m
theorem Ext.refl (φ : Phi) (n : Nat) : Ext φ n φ n := ⟨Phi.le_refl _, fun _ _ h => .inl h, Nat.le_refl _⟩
theorem Ext.trans {φ ψ χ : Phi} {n m k : Nat} (h : Ext φ n ψ m) (g : Ext ψ m χ k) : Ext φ n χ k :=
  ⟨Phi.le_trans h.le g.le, fun i p e => by
    rcases g.new i p e with x | x
    · exact h.new i p x
    · exact .inr (Nat.le_trans h.n x), Nat.le_trans h.n g.n⟩
def ext (φ : Phi) (n : Nat) (p : Nat × Nat) : Phi := fun i => if i = n then some p else φ i
theorem ext_le {p : Nat × Nat} (h : φ n = none) : φ.le (ext φ n p) := by
  intro i q e
  unfold ext
  split
  · rename_i x; subst x; rw [h] at e; cases e
  · exact e
theorem ext_new (φ : Phi) (n : Nat) (p : Nat × Nat) : ext φ n p n = some p := by simp [ext]
theorem I.free (h : I w₀ W φ H n w) : φ n = none := by
  cases e : φ n with
  | none => rfl
  | some p => have := (h.dom n p e).1; omega
theorem I.ext_push (h : I w₀ W φ H n w) (p : Nat × Nat) : Ext φ n (ext φ n p) (n + 1) :=
  ⟨ext_le h.free, fun i q e => by
    unfold ext at e
    split at e
    · exact .inr (by omega)
    · exact .inl e, Nat.le_succ n⟩
theorem I.freeH (h : I w₀ W φ H n w) : H.get n = none := by
  cases e : H.get n with
  | none => rfl
  | some b => obtain ⟨p, o, f, _⟩ := h.rel n b e; rw [h.free] at f; cases f
theorem I.kill (h : I w₀ W φ H n w) (k : Nat) : I w₀ W φ (H.set k none) n w := by
  have g : ∀ i b, (H.set k none).get i = some b → H.get i = some b := by
    intro i b e
    rw [Tr.get_set] at e
    split at e
    · cases e
    · exact e
  exact ⟨h.dom, fun i b e => h.rel i b (g i b e), fun i j b c p q e f => h.inj i j b c p q (g i b e) (g j c f), h.keep, h.size, fun i b p e => h.wr i b p (g i b e), fun i b p e => h.src i b p (g i b e), h.os, h.tape, h.output, h.fz⟩
theorem frOb_push (h : I w₀ W φ H n w) {o : Obj} (ho : frOb (some o) = (0, 0)) (b : Nat) : frOb (w.heap.push o)[b]? = frOb w₀.heap[b]? := by
  rw [← h.fz b, Array.getElem?_push]
  split
  · rename_i q; rw [q, ho, Array.getElem?_eq_none (Nat.le_refl _)]; rfl
  · rfl
theorem frOb_set (h : I w₀ W φ H n w) {o o' : Obj} {i : Nat} (hi : w.heap[i]? = some o) (ho : frOb (some o) = (0, 0)) (ho' : frOb (some o') = (0, 0)) (b : Nat) :
    frOb (w.heap.setIfInBounds i o')[b]? = frOb w₀.heap[b]? := by
  rw [← h.fz b, Array.getElem?_setIfInBounds]
  split
  · rename_i q
    subst q
    rw [hi, ho]
    split
    · exact ho'
    · rfl
  · rfl
theorem I.push (h : I w₀ W φ H n w) {b : Blk} {o : Obj} {cp : Nat} (hb : BR φ b o cp) (hro : b.ro = false := by rfl) :
    I w₀ W (ext φ n (w.heap.size, cp)) (H.set n (some b)) (n + 1) { w with heap := w.heap.push o } := by
  have hle := ext_le (p := (w.heap.size, cp)) h.free
  refine ⟨?_, ?_, ?_, ?_, ?_, ?_, ?_, h.os, h.tape, h.output, frOb_push h (hb.fr hro)⟩
  · intro i p e
    unfold ext at e
    split at e
    · rename_i x; subst x; cases e; simp
    · have := h.dom i p e; simp; omega
  · intro i c e
    rw [Tr.get_set] at e
    split at e
    · rename_i x; subst x; cases e
      exact ⟨_, o, ext_new _ _ _, by simp, hb.mono hle⟩
    · obtain ⟨p, o', f, g, k⟩ := h.rel i c e
      refine ⟨p, o', hle _ _ f, ?_, k.mono hle⟩
      have := (h.dom i p f).2
      show (w.heap.push o)[p.1]? = _
      rw [Array.getElem?_push, if_neg (by omega)]; exact g
  · intro i j c d p q e f g k x
    rw [Tr.get_set] at e f
    have new : ∀ i c p, H.get i = some c → ext φ n (w.heap.size, cp) i = some p → i ≠ n → p.1 < w.heap.size := by
      intro i c p e g ne
      unfold ext at g; rw [if_neg ne] at g; exact (h.dom i p g).2
    split at e <;> split at f
    · rename_i a b; rw [a, b]
    · rename_i a b
      subst a; rw [ext_new] at g; cases g
      have := new j d q f k b; simp at x; omega
    · rename_i a b
      subst b; rw [ext_new] at k; cases k
      have := new i c p e g a; simp at x; omega
    · rename_i a b
      unfold ext at g k
      rw [if_neg a] at g; rw [if_neg b] at k
      exact h.inj i j c d p q e f g k x
  · intro b hb nb
    show (w.heap.push o)[b]? = _
    rw [Array.getElem?_push, if_neg (by have := h.size; omega)]; exact h.keep b hb nb
  · have := h.size; simp; omega
  · intro i c p e r g
    rw [Tr.get_set] at e
    split at e
    · rename_i x; subst x; rw [ext_new] at g; cases g
      exact .inr h.size
    · rename_i x
      unfold ext at g; rw [if_neg x] at g
      exact h.wr i c p e r g
  · intro i c p e g
    rw [Tr.get_set] at e
    split at e
    · rename_i x; subst x; rw [ext_new] at g; cases g
      exact .inr h.size
    · rename_i x
      unfold ext at g; rw [if_neg x] at g
      exact h.src i c p e g
theorem I.put (h : I w₀ W φ H n w) {i : Nat} {b b' : Blk} {o' : Obj} {p : Nat × Nat} (hi : H.get i = some b) (hp : φ i = some p) (hr : b.ro = false)
    (hb : BR φ b' o' p.2) (hro : b'.ro = false := by rfl) : I w₀ W φ (H.set i (some b')) n { w with heap := w.heap.setIfInBounds p.1 o' } := by
  have hlt := (h.dom i p hp).2
  have hold : ∃ o, w.heap[p.1]? = some o ∧ frOb (some o) = (0, 0) := by
    obtain ⟨q, o, f, g, k⟩ := h.rel i b hi
    rw [hp] at f; cases f
    exact ⟨o, g, k.fr hr⟩
  obtain ⟨o0, hold1, hold2⟩ := hold
  refine ⟨?_, ?_, ?_, ?_, ?_, ?_, ?_, h.os, h.tape, h.output, frOb_set h hold1 hold2 (hb.fr hro)⟩
  · intro j q e; have := h.dom j q e; simpa using this
  · intro j c e
    rw [Tr.get_set] at e
    split at e
    · rename_i x; subst x; cases e
      exact ⟨p, o', hp, by simp [hlt], hb⟩
    · rename_i x
      obtain ⟨q, o, f, g, k⟩ := h.rel j c e
      refine ⟨q, o, f, ?_, k⟩
      have ne : p.1 ≠ q.1 := fun y => x (h.inj i j b c p q hi e hp f y).symm
      show (w.heap.setIfInBounds p.1 o')[q.1]? = _
      rw [Array.getElem?_setIfInBounds_ne ne]; exact g
  · intro j k c d q r e f
    have g : ∀ j c, (H.set i (some b')).get j = some c → ∃ c, H.get j = some c := by
      intro j c e
      rw [Tr.get_set] at e
      split at e
      · rename_i x; subst x; exact ⟨b, hi⟩
      · exact ⟨c, e⟩
    obtain ⟨c', e'⟩ := g j c e
    obtain ⟨d', f'⟩ := g k d f
    exact h.inj j k c' d' q r e' f'
  · intro c hc nc
    have ne : p.1 ≠ c := by
      intro y; subst y
      rcases h.wr i b p hi hr hp with a | a
      · exact nc a
      · omega
    show (w.heap.setIfInBounds p.1 o')[c]? = _
    rw [Array.getElem?_setIfInBounds_ne ne]; exact h.keep c hc nc
  · simpa using h.size
  · intro j c q e r g
    rw [Tr.get_set] at e
    split at e
    · rename_i x; subst x; exact h.wr j b q hi hr g
    · exact h.wr j c q e r g
  · intro j c q e g
    rw [Tr.get_set] at e
    split at e
    · rename_i x; subst x; exact h.src j b q hi g
    · exact h.src j c q e g
end Go.Ev
