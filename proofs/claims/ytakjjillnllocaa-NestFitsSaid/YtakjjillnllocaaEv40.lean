import Derived.Test.YtakjjillnllocaaEv39
namespace Go.Ev
open Go
variable {P : Program} {t t2 e e2 : TypeId} {ρ : Type}

/-! rows of any values, made by append -/
theorem loadN_all {H : Hp} {b o : Nat} {L : List Value} (h : CellsAt H b o L) (hn : L.all noHole = true) {m : Nat} (hm : L.length = m) : loadN H ⟨b, o, none⟩ m = some L := by
  have := loadN_at (s := m) (k := 0) h (by omega) hn
  rw [Nat.add_zero] at this
  rw [this, take_all _ _ hm]
/-- A row of append: its room is not known, and nobody else has it. -/
def VecV (H : Hp) (n0 n : Nat) (s : Nat) (e : TypeId) (v : Value) (len : Nat) (L : List Value) : Prop :=
  L.length = len * s ∧ L.all leafV = true ∧ L.all noHole = true ∧ ((v = .slice none 0 0 ∧ len = 0) ∨ ∃ b, v = .slice (some ⟨b, 0, none⟩) len capV ∧ n0 ≤ b ∧ b < n ∧ 0 < len ∧ H.get b = some (.cells L e false (some s)))
theorem VecV.leaf {H : Hp} {n0 n s len : Nat} {v : Value} {L : List Value} (h : VecV H n0 n s e v len L) : leafV v = true ∧ noHole v = true ∧ noHoles v = true := by
  rcases h.2.2.2 with ⟨rfl, _⟩ | ⟨b, rfl, _⟩ <;> exact ⟨rfl, rfl, rfl⟩
theorem VecV.same {H H' : Hp} {n0 n m s len : Nat} {v : Value} {L : List Value} (h : VecV H n0 n s e v len L) (hm : n ≤ m) (hk : ∀ b, b < n → blockIs v b → H'.get b = H.get b) : VecV H' n0 m s e v len L := by
  obtain ⟨h1, h2, h3, h4⟩ := h
  refine ⟨h1, h2, h3, ?_⟩
  rcases h4 with h4 | ⟨b, e, a1, a2, a3, a4⟩
  · exact .inl h4
  · exact .inr ⟨b, e, a1, by omega, a3, by rw [hk b a2 ⟨_, _, _, _, e⟩]; exact a4⟩
theorem VecV.low {H : Hp} {n0 n s len : Nat} {v : Value} {L : List Value} (h : VecV H n0 n s e v len L) {k : Nat} (hb : blockIs v k) : n0 ≤ k ∧ k < n := by
  obtain ⟨o, l, cp, sp, hb⟩ := hb
  rcases h.2.2.2 with ⟨rfl, _⟩ | ⟨b, rfl, h1, h2, _⟩
  · cases hb
  · cases hb; exact ⟨h1, h2⟩
theorem VecV.len_eq {H : Hp} {n0 n s len : Nat} {v : Value} {L : List Value} (h : VecV H n0 n s e v len L) (ht : P.underlying t = some (.slice e2)) : lenV P t v = some (goInt len) := by
  rcases h.2.2.2 with ⟨rfl, rfl⟩ | ⟨b, rfl, _⟩ <;> simp [lenV, ht]
theorem append_vecV {H : Hp} {n0 n s len b2 o2 cap2 bt : Nat} {v z : Value} {xs ys : List Value} (h : VecV H n0 n s e v len xs) (h1 : sliceElem P t = some e) (h2 : sliceElem P t2 = some e2)
    (hs : szT P e = some s) (hb : bytesT P e = some bt) (hz : zeroT P e = some z) (hzl : (cellsV z).length = s) (hy : CellsAt H b2 o2 ys) (hyl : ys.length = s) (hyf : ys.all leafV = true) (hyn : ys.all noHole = true)
    (big : len + 1 < 1048576) (hsb : s < 1048576) (hbb : bt < 1048576) (hn : n0 ≤ n) :
    ∃ H', appendV P (bare H n) t t2 v (.slice (some ⟨b2, o2, none⟩) 1 cap2) = some (.slice (some ⟨n, 0, none⟩) (len + 1) capV, bare H' (n + 1)) ∧
      VecV H' n0 (n + 1) s e (.slice (some ⟨n, 0, none⟩) (len + 1) capV) (len + 1) (xs ++ ys) ∧ ∀ b, b < n → ¬ blockIs v b → H'.get b = H.get b := by
  have hl2 : loadN H ⟨b2, o2, none⟩ (1 * s) = some ys := loadN_all hy hyn (by omega)
  have hsrc : srcCells H s (.slice (some ⟨b2, o2, none⟩) 1 cap2) = some (ys, 1) := by
    unfold srcCells
    simp only [hl2]
  have hbeq : Nat.beq (cellsV z).length s = true := by rw [hzl]; exact Nat.beq_refl s
  obtain ⟨g1, gf, gn, g2⟩ := h
  have hlen : (xs ++ ys).length = (len + 1) * s := by rw [List.length_append, g1, hyl, Nat.add_mul, Nat.one_mul]
  have hlf : (xs ++ ys).all leafV = true := by rw [List.all_append, gf, hyf]; rfl
  have hln : (xs ++ ys).all noHole = true := by rw [List.all_append, gn, hyn]; rfl
  rcases g2 with ⟨rfl, rfl⟩ | ⟨b, rfl, a1, a2, a3, a4⟩
  · have hx0 : xs = [] := by simpa using g1
    subst hx0
    have hbig : bigOk (0 + 1) s bt = true := by unfold bigOk; simp [hsb, hbb]
    refine ⟨H.set n (some (.cells ys e false (some s))), ?_, ⟨hlen, hlf, hln, .inr ⟨n, rfl, hn, by omega, by omega, by rw [Tr.get_set, if_pos rfl]; rfl⟩⟩, fun b hb _ => by rw [Tr.get_set, if_neg (by omega)]⟩
    unfold appendV
    simp only [h1, h2, hs, hb, hz, bare, hsrc, hbeq, hbig]
    rfl
  · have hbig : bigOk (len + 1) s bt = true := by unfold bigOk; simp [hsb, hbb, big]
    have hold : loadN H ⟨b, 0, none⟩ (len * s) = some xs := loadN_all (cells_at a4) gn g1
    have c1 : Nat.blt capV capV = false := by decide +kernel
    have c2 : Nat.beq capV capV = true := Nat.beq_refl _
    have c3 : Nat.beq e e = true := Nat.beq_refl _
    have c4 : Nat.beq s s = true := Nat.beq_refl _
    refine ⟨(H.set b none).set n (some (.cells (xs ++ ys) e false (some s))), ?_, ⟨hlen, hlf, hln, .inr ⟨n, rfl, hn, by omega, by omega, by rw [Tr.get_set, if_pos rfl]⟩⟩, fun b' hb' hne => ?_⟩
    · unfold appendV
      simp only [h1, h2, hs, hb, hz, bare, hsrc, hbeq, hold, hbig]
      unfold appendTo
      simp only [c1, c2, a4, c3, c4, hyf, Bool.and_self]
      rfl
    · rw [Tr.get_set, if_neg (by omega), Tr.get_set, if_neg (fun h => hne (by subst h; exact ⟨_, _, _, _, rfl⟩))]
end Go.Ev
