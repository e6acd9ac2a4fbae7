import Derived.Test.YtakjjillnllocaaEv33
namespace Go.Ev
open Go
variable {P : Program} {t t2 e e2 : TypeId} {ρ : Type}
def SliceR (H : Hp) (n : Nat) (s : Nat) (v : Value) (len : Nat) (xs : List Int) : Prop :=
  xs.length = len * s ∧ (∀ x ∈ xs, I64 x) ∧
  ((v = .slice none 0 0 ∧ len = 0) ∨ ∃ b o cap, v = .slice (some ⟨b, o, none⟩) len cap ∧ b < n ∧ 0 < len ∧ CellsAt H b o (ints xs))
theorem SliceR.keep {H H' : Hp} {n m s len : Nat} {v : Value} {xs : List Int} (h : SliceR H n s v len xs) (hk : Keep m H H') (hm : n ≤ m) : SliceR H' m s v len xs := by
  obtain ⟨h1, h2, h3⟩ := h
  refine ⟨h1, h2, ?_⟩
  rcases h3 with h3 | ⟨b, o, cap, e, a1, a2, a3⟩
  · exact .inl h3
  · exact .inr ⟨b, o, cap, e, by omega, a2, a3.keep hk (by omega)⟩
theorem SliceR.up {H : Hp} {n m s len : Nat} {v : Value} {xs : List Int} (h : SliceR H n s v len xs) (hm : n ≤ m) : SliceR H m s v len xs := by
  obtain ⟨h1, h2, h3⟩ := h
  refine ⟨h1, h2, ?_⟩
  rcases h3 with h3 | ⟨b, o, cap, e, a1, a2, a3⟩
  · exact .inl h3
  · exact .inr ⟨b, o, cap, e, by omega, a2, a3⟩
theorem SliceR.hole {H : Hp} {n s len : Nat} {v : Value} {xs : List Int} (h : SliceR H n s v len xs) : noHole v = true ∧ noHoles v = true := by
  rcases h.2.2 with ⟨rfl, _⟩ | ⟨b, o, cap, rfl, _⟩ <;> exact ⟨rfl, rfl⟩
theorem SliceR.leaf {H : Hp} {n s len : Nat} {v : Value} {xs : List Int} (h : SliceR H n s v len xs) : leafV v = true := by
  rcases h.2.2 with ⟨rfl, _⟩ | ⟨b, o, cap, rfl, _⟩ <;> rfl
theorem SliceR.len_eq {H : Hp} {n s len : Nat} {v : Value} {xs : List Int} (h : SliceR H n s v len xs) {e : TypeId} (ht : P.underlying t = some (.slice e)) : lenV P t v = some (goInt len) := by
  rcases h.2.2 with ⟨rfl, rfl⟩ | ⟨b, o, cap, rfl, _⟩ <;> simp [lenV, ht]
theorem SliceR.at_ {H : Hp} {n s len : Nat} {v : Value} {xs : List Int} (h : SliceR H n s v len xs) {e : TypeId} (ht : P.underlying t = some (.slice e)) (hs : szT P e = some s) {i : Nat} (hi : i < len) :
    ∃ b o, indexAddrV P t v (.int .i64 i) = some (.pointer (some ⟨b, o + i * s, none⟩)) ∧ b < n ∧ CellsAt H b o (ints xs) := by
  rcases h.2.2 with ⟨rfl, rfl⟩ | ⟨b, o, cap, rfl, h1, h2, h3⟩
  · omega
  · refine ⟨b, o, ?_, h1, h3⟩
    unfold indexAddrV
    simp only [ht, hs]
    have : idxIn (.int .i64 (i : Int)) len = some i := by
      show idxIn (.int .i64 (.ofNat i)) len = some i
      simp [idxIn, hi]
    rw [this]
    simp [addA]
theorem SliceR.nil {H : Hp} {n s len : Nat} {v : Value} {xs : List Int} (h : SliceR H n s v len xs) (hp : pureV v = true) : SliceR .nil 0 s v len xs := by
  obtain ⟨h1, h2, h3⟩ := h
  refine ⟨h1, h2, ?_⟩
  rcases h3 with h3 | ⟨b, o, cap, e, a1, a2, a3⟩
  · exact .inl h3
  · subst e; simp [pureV] at hp
def VecAt (H : Hp) (n0 n : Nat) (s : Nat) (e : TypeId) (v : Value) (len : Nat) (xs : List Int) : Prop :=
  xs.length = len * s ∧ ((v = .slice none 0 0 ∧ len = 0) ∨ ∃ b, v = .slice (some ⟨b, 0, none⟩) len capV ∧ n0 ≤ b ∧ b < n ∧ 0 < len ∧ H.get b = some (.cells (ints xs) e false (some s)))
def blockIs (v : Value) (b : Nat) : Prop := ∃ o len cap sp, v = .slice (some ⟨b, o, sp⟩) len cap
theorem VecAt.slice {H : Hp} {n0 n s len : Nat} {v : Value} {xs : List Int} (h : VecAt H n0 n s e v len xs) (hx : ∀ x ∈ xs, I64 x) : SliceR H n s v len xs := by
  obtain ⟨h1, h2⟩ := h
  refine ⟨h1, hx, ?_⟩
  rcases h2 with h2 | ⟨b, e, a1, a2, a3, a4⟩
  · exact .inl h2
  · exact .inr ⟨b, 0, capV, e, a2, a3, _, _, a4, rfl, fun k v h => by simpa using h⟩
theorem VecAt.leaf {H : Hp} {n0 n s len : Nat} {v : Value} {xs : List Int} (h : VecAt H n0 n s e v len xs) : leafV v = true ∧ noHole v = true ∧ noHoles v = true := by
  rcases h.2 with ⟨rfl, _⟩ | ⟨b, rfl, _⟩ <;> exact ⟨rfl, rfl, rfl⟩
theorem VecAt.same {H H' : Hp} {n0 n m s len : Nat} {v : Value} {xs : List Int} (h : VecAt H n0 n s e v len xs) (hm : n ≤ m) (hk : ∀ b, b < n → blockIs v b → H'.get b = H.get b) : VecAt H' n0 m s e v len xs := by
  obtain ⟨h1, h2⟩ := h
  refine ⟨h1, ?_⟩
  rcases h2 with h2 | ⟨b, e, a1, a2, a3, a4⟩
  · exact .inl h2
  · exact .inr ⟨b, e, a1, by omega, a3, by rw [hk b a2 ⟨_, _, _, _, e⟩]; exact a4⟩
theorem ints_leaf (xs : List Int) : (ints xs).all leafV = true := by simp [ints, leafV]
theorem ints_append (xs ys : List Int) : ints (xs ++ ys) = ints xs ++ ints ys := by simp [ints]
theorem take_all {α : Type} (l : List α) (n : Nat) (h : l.length = n) : (l.drop 0).take n = l := by simp [← h]
theorem append_vec {H : Hp} {n0 n s len b2 o2 cap2 bt : Nat} {v z : Value} {xs ys : List Int} (h : VecAt H n0 n s e v len xs) (h1 : sliceElem P t = some e) (h2 : sliceElem P t2 = some e2)
    (hs : szT P e = some s) (hb : bytesT P e = some bt) (hz : zeroT P e = some z) (hzl : (cellsV z).length = s) (hy : CellsAt H b2 o2 (ints ys)) (hyl : ys.length = s)
    (big : len + 1 < 1048576) (hsb : s < 1048576) (hbb : bt < 1048576) (hn : n0 ≤ n) :
    ∃ H', appendV P (bare H n) t t2 v (.slice (some ⟨b2, o2, none⟩) 1 cap2) = some (.slice (some ⟨n, 0, none⟩) (len + 1) capV, bare H' (n + 1)) ∧
      VecAt H' n0 (n + 1) s e (.slice (some ⟨n, 0, none⟩) (len + 1) capV) (len + 1) (xs ++ ys) ∧ ∀ b, b < n → ¬ blockIs v b → H'.get b = H.get b := by
  have hl2 : loadN H ⟨b2, o2, none⟩ (1 * s) = some (ints ys) := by
    have := loadN_at (s := 1 * s) (k := 0) hy (by rw [ints_length]; omega) (ints_noHole _)
    rw [Nat.add_zero] at this
    rw [this, take_all _ _ (by rw [ints_length]; omega)]
  have hsrc : srcCells H s (.slice (some ⟨b2, o2, none⟩) 1 cap2) = some (ints ys, 1) := by
    unfold srcCells
    simp only [hl2]
  have hbeq : Nat.beq (cellsV z).length s = true := by rw [hzl]; exact Nat.beq_refl s
  obtain ⟨g1, g2⟩ := h
  have hlen : (xs ++ ys).length = (len + 1) * s := by rw [List.length_append, g1, hyl, Nat.add_mul, Nat.one_mul]
  rcases g2 with ⟨rfl, rfl⟩ | ⟨b, rfl, a1, a2, a3, a4⟩
  · have hx0 : xs = [] := by simpa using g1
    subst hx0
    have hbig : bigOk (0 + 1) s bt = true := by unfold bigOk; simp [hsb, hbb]
    refine ⟨H.set n (some (.cells (ints ys) e false (some s))), ?_, ⟨hlen, .inr ⟨n, rfl, hn, by omega, by omega, by rw [Tr.get_set, if_pos rfl]; rfl⟩⟩, fun b hb _ => by rw [Tr.get_set, if_neg (by omega)]⟩
    unfold appendV
    simp only [h1, h2, hs, hb, hz, bare, hsrc, hbeq, hbig]
    rfl
  · have hbig : bigOk (len + 1) s bt = true := by unfold bigOk; simp [hsb, hbb, big]
    have hold : loadN H ⟨b, 0, none⟩ (len * s) = some (ints xs) := by
      have hc : CellsAt H b 0 (ints xs) := ⟨_, _, a4, rfl, fun k v h => by simpa using h⟩
      have := loadN_at (s := len * s) (k := 0) hc (by rw [ints_length]; omega) (ints_noHole _)
      rw [Nat.add_zero] at this
      rw [this, take_all _ _ (by rw [ints_length]; omega)]
    have c1 : Nat.blt capV capV = false := by decide +kernel
    have c2 : Nat.beq capV capV = true := Nat.beq_refl _
    have c3 : Nat.beq e e = true := Nat.beq_refl _
    have c4 : Nat.beq s s = true := Nat.beq_refl _
    refine ⟨(H.set b none).set n (some (.cells (ints xs ++ ints ys) e false (some s))), ?_, ⟨hlen, .inr ⟨n, rfl, hn, by omega, by omega, by rw [Tr.get_set, if_pos rfl, ints_append]⟩⟩, fun b' hb' hne => ?_⟩
    · unfold appendV
      simp only [h1, h2, hs, hb, hz, bare, hsrc, hbeq, hold, hbig]
      unfold appendTo
      simp only [c1, c2, a4, c3, c4, ints_leaf, Bool.and_self]
      rfl
    · rw [Tr.get_set, if_neg (by omega), Tr.get_set, if_neg (fun h => hne (by subst h; exact ⟨_, _, _, _, rfl⟩))]
def CellsF (H : Hp) (b N : Nat) (e : TypeId) (f : Nat → Value) : Prop :=
  ∃ c, H.get b = some (.cells c e false none) ∧ c.length = N ∧ ∀ k, k < N → c[k]? = some (f k)
def putF (f : Nat → Value) (o : Nat) (vs : List Value) : Nat → Value := fun k => if o ≤ k then (match vs[k - o]? with | some v => v | none => f k) else f k
theorem CellsF.new {H : Hp} {n N : Nat} {vs : List Value} (hN : vs.length = N) (f : Nat → Value) (hf : ∀ k, k < N → vs[k]? = some (f k)) : CellsF (H.set n (some (.cells vs e false none))) n N e f :=
  ⟨vs, by rw [Tr.get_set, if_pos rfl], hN, hf⟩
theorem CellsF.keep {H H' : Hp} {b N n : Nat} {f : Nat → Value} (h : CellsF H b N e f) (hk : Keep n H H') (hb : b < n) : CellsF H' b N e f := by
  obtain ⟨c, h1, h2, h3⟩ := h
  exact ⟨c, by rw [hk b hb]; exact h1, h2, h3⟩
theorem CellsF.other {H : Hp} {b N m : Nat} {f : Nat → Value} {x : Option Blk} (h : CellsF H b N e f) (hb : b ≠ m) : CellsF (H.set m x) b N e f := by
  obtain ⟨c, h1, h2, h3⟩ := h
  exact ⟨c, by rw [Tr.get_set, if_neg hb]; exact h1, h2, h3⟩
theorem CellsF.load {H : Hp} {b N k : Nat} {f : Nat → Value} (h : CellsF H b N e f) (ht : isAggT P t = some false) (hk : k < N) : loadV P H t ⟨b, k, none⟩ = some (f k) := by
  obtain ⟨c, h1, h2, h3⟩ := h
  unfold loadV
  simp only [h1, partV, ht, h3 k hk]
theorem CellsF.cut_ {N k s : Nat} {f : Nat → Value} {c : List Value} (h3 : ∀ k, k < N → c[k]? = some (f k)) (hk : k + s ≤ N) : cut c k s = some ((List.range s).map fun j => f (k + j)) := by
  have e : (c.drop k).take s = (List.range s).map fun j => f (k + j) := by
    apply List.ext_getElem?
    intro i
    rw [List.getElem?_take]
    split
    · rename_i hi
      rw [List.getElem?_drop, h3 (k + i) (by omega), List.getElem?_map, List.getElem?_range hi]
      rfl
    · rename_i hi
      rw [List.getElem?_eq_none (by simp; omega)]
  unfold cut
  simp only [e]
  rw [if_pos (by simp)]
theorem CellsF.load_agg {H : Hp} {b N k s : Nat} {f : Nat → Value} (h : CellsF H b N e f) (ht : isAggT P t = some true) (hs : szT P t = some s) (hk : k + s ≤ N) :
    loadV P H t ⟨b, k, none⟩ = some (.agg ⟨(List.range s).map fun j => f (k + j)⟩) := by
  obtain ⟨c, h1, h2, h3⟩ := h
  unfold loadV
  simp only [h1, partV, ht, hs, CellsF.cut_ h3 hk]
theorem splice_some : ∀ (c : List Value) (o : Nat) (vs : List Value), o + vs.length ≤ c.length → ∃ c', splice c o vs = some c' ∧ c'.length = c.length ∧
    ∀ k, c'[k]? = if o ≤ k then (match vs[k - o]? with | some v => some v | none => c[k]?) else c[k]? := by
  have over : ∀ (c vs : List Value), vs.length ≤ c.length → ∃ c', splice.over c vs = some c' ∧ c'.length = c.length ∧ ∀ k : Nat, c'[k]? = (match vs[k]? with | some v => some v | none => c[k]?) := by
    intro c
    induction c with
    | nil =>
      intro vs h
      cases vs with
      | nil => exact ⟨[], rfl, rfl, fun k => by simp⟩
      | cons v vs => simp at h
    | cons x c ih =>
      intro vs h
      cases vs with
      | nil => exact ⟨x :: c, rfl, rfl, fun k => by simp⟩
      | cons v vs =>
        obtain ⟨c', e1, e2, e3⟩ := ih vs (by simpa using h)
        refine ⟨v :: c', by simp [splice.over, e1], by simp [e2], fun k => ?_⟩
        cases k with
        | zero => simp
        | succ k => simpa using e3 k
  intro c o
  induction o generalizing c with
  | zero =>
    intro vs h
    obtain ⟨c', e1, e2, e3⟩ := over c vs (by omega)
    exact ⟨c', by unfold splice; exact e1, e2, fun k => by rw [if_pos (Nat.zero_le k)]; exact e3 k⟩
  | succ o ih =>
    intro vs h
    cases c with
    | nil => simp at h
    | cons x c =>
      obtain ⟨c', e1, e2, e3⟩ := ih c vs (by simp at h; omega)
      refine ⟨x :: c', by unfold splice; simp only [e1], by simp [e2], fun k => ?_⟩
      cases k with
      | zero => simp
      | succ k =>
        have := e3 k
        simp only [List.getElem?_cons_succ, Nat.add_le_add_iff_right, Nat.add_sub_add_right]
        exact this
theorem CellsF.storeN {H : Hp} {b N o : Nat} {f : Nat → Value} {vs : List Value} (h : CellsF H b N e f) (ho : o + vs.length ≤ N) (hl : vs.all leafV = true) :
    ∃ H', Ev.storeN H ⟨b, o, none⟩ vs = some H' ∧ CellsF H' b N e (putF f o vs) ∧ ∀ b', b' ≠ b → H'.get b' = H.get b' := by
  obtain ⟨c, h1, h2, h3⟩ := h
  obtain ⟨c', e1, e2, e3⟩ := splice_some c o vs (by omega)
  refine ⟨H.set b (some (.cells c' e false none)), ?_, ⟨c', by rw [Tr.get_set, if_pos rfl], by omega, fun k hk => ?_⟩, fun b' hb' => by rw [Tr.get_set, if_neg hb']⟩
  · unfold Ev.storeN
    simp only [h1, hl, if_true, e1]
  · rw [e3 k]
    unfold putF
    split
    · split
      · rfl
      · exact h3 k hk
    · exact h3 k hk
theorem CellsF.at_ {H : Hp} {b N : Nat} {f : Nat → Value} (h : CellsF H b N e f) : CellsAt H b 0 ((List.range N).map f) := by
  obtain ⟨c, h1, h2, h3⟩ := h
  refine ⟨_, c, h1, rfl, fun k v hv => ?_⟩
  rw [Nat.zero_add]
  rw [List.getElem?_map] at hv
  by_cases hk : k < N
  · rw [List.getElem?_range hk] at hv
    rw [h3 k hk]; exact hv
  · rw [List.getElem?_eq_none (by simp; omega)] at hv; cases hv
end Go.Ev
