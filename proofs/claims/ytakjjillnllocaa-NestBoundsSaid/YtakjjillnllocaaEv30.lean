import Derived.Test.YtakjjillnllocaaEv29
namespace Go.Ev
open Go
variable {P : Program} {H H' : Hp} {b o s k : Nat} {t : TypeId} {vs : List Value} {v : Value}
def cellsIn : Blk → Option (List Value)
  | .cells c _ _ _ => some c
  | .rows c => some c
  | _ => none
def CellsAt (H : Hp) (b o : Nat) (vs : List Value) : Prop := ∃ B c, H.get b = some B ∧ cellsIn B = some c ∧ ∀ (k : Nat) v, vs[k]? = some v → c[o + k]? = some v
def Keep (n : Nat) (H H' : Hp) : Prop := ∀ b, b < n → H'.get b = H.get b
theorem Keep.refl (n : Nat) (H : Hp) : Keep n H H := fun _ _ => rfl
theorem Keep.trans {n m : Nat} {H1 H2 H3 : Hp} (h : Keep n H1 H2) (g : Keep m H2 H3) (hm : n ≤ m) : Keep n H1 H3 := fun b hb => (g b (by omega)).trans (h b hb)
theorem Keep.set {n m : Nat} {H1 H2 : Hp} (h : Keep n H1 H2) (hm : n ≤ m) (x : Option Blk) : Keep n H1 (H2.set m x) := fun b hb => by
  rw [Tr.get_set, if_neg (by omega)]; exact h b hb
theorem Keep.le {n m : Nat} {H1 H2 : Hp} (h : Keep m H1 H2) (hm : n ≤ m) : Keep n H1 H2 := fun b hb => h b (by omega)
theorem CellsAt.keep {n : Nat} (h : CellsAt H b o vs) (hk : Keep n H H') (hb : b < n) : CellsAt H' b o vs := by
  obtain ⟨B, c, h1, h2, h3⟩ := h
  exact ⟨B, c, by rw [hk b hb]; exact h1, h2, h3⟩
theorem CellsAt.new {n : Nat} {e : TypeId} {ro : Bool} {vec : Option Nat} : CellsAt (H.set n (some (.cells vs e ro vec))) n 0 vs :=
  ⟨_, vs, by rw [Tr.get_set, if_pos rfl], rfl, fun k v h => by simpa using h⟩
theorem CellsAt.set {n : Nat} {x : Option Blk} (h : CellsAt H b o vs) (hb : b ≠ n) : CellsAt (H.set n x) b o vs := by
  obtain ⟨B, c, h1, h2, h3⟩ := h
  exact ⟨B, c, by rw [Tr.get_set, if_neg hb]; exact h1, h2, h3⟩
theorem loadV_scalar (hc : CellsAt H b o vs) (ht : isAggT P t = some false) (hv : vs[k]? = some v) (hn : noHole v = true) (hg : noHoles v = true) : loadV P H t ⟨b, o + k, none⟩ = some v := by
  obtain ⟨B, c, h1, h2, h3⟩ := hc
  have := h3 k v hv
  unfold loadV
  simp only [h1]
  cases B with
  | cells c' e ro vec => cases h2; simp only [partV, ht, this]
  | rows c' => cases h2; simp only [partV, ht, this, hg]
  | _ => cases h2
theorem loadV_int {kd : IntKind} {x : Int} (hc : CellsAt H b o vs) (ht : isAggT P t = some false) (hv : vs[k]? = some (.int kd x)) : loadV P H t ⟨b, o + k, none⟩ = some (.int kd x) :=
  loadV_scalar hc ht hv rfl rfl
theorem cut_at {c : List Value} (h : ∀ (k : Nat) v, vs[k]? = some v → c[o + k]? = some v) (hk : k + s ≤ vs.length) : cut c (o + k) s = some ((vs.drop k).take s) := by
  have e : (c.drop (o + k)).take s = (vs.drop k).take s := by
    apply List.ext_getElem?
    intro i
    rw [List.getElem?_take, List.getElem?_take]
    split
    · rename_i hi
      rw [List.getElem?_drop, List.getElem?_drop]
      have hlt : k + i < vs.length := by omega
      rw [List.getElem?_eq_getElem hlt, ← h (k + i) _ (List.getElem?_eq_getElem hlt)]
      congr 1; omega
    · rfl
  unfold cut
  simp only [e]
  rw [if_pos]
  simp; omega
theorem loadV_agg (hc : CellsAt H b o vs) (ht : isAggT P t = some true) (hs : szT P t = some s) (hk : k + s ≤ vs.length) (hn : vs.all noHole = true) :
    loadV P H t ⟨b, o + k, none⟩ = some (.agg ⟨(vs.drop k).take s⟩) := by
  obtain ⟨B, c, h1, h2, h3⟩ := hc
  have hcut := cut_at h3 hk
  have hall : ((vs.drop k).take s).all noHole = true := by
    rw [List.all_eq_true] at hn ⊢
    intro x hx
    exact hn x (List.mem_of_mem_drop (List.mem_of_mem_take hx))
  unfold loadV
  simp only [h1]
  cases B with
  | cells c' e ro vec => cases h2; simp only [partV, ht, hs, hcut]
  | rows c' => cases h2; simp only [partV, ht, hs, hcut, noHoles, hall]
  | _ => cases h2
theorem loadN_at (hc : CellsAt H b o vs) (hk : k + s ≤ vs.length) (hn : vs.all noHole = true) : loadN H ⟨b, o + k, none⟩ s = some ((vs.drop k).take s) := by
  obtain ⟨B, c, h1, h2, h3⟩ := hc
  have hcut := cut_at h3 hk
  have hall : ((vs.drop k).take s).all noHole = true := by
    rw [List.all_eq_true] at hn ⊢
    intro x hx
    exact hn x (List.mem_of_mem_drop (List.mem_of_mem_take hx))
  unfold loadN
  simp only [h1]
  cases B with
  | cells c' e ro vec => cases h2; simp only [hcut]
  | rows c' => cases h2; simp only [hcut, hall]
  | _ => cases h2
def I64 (x : Int) : Prop := -9223372036854775808 ≤ x ∧ x < 9223372036854775808
def ints (xs : List Int) : List Value := xs.map (.int .i64)
theorem ints_get {xs : List Int} {k : Nat} {x : Int} (h : xs[k]? = some x) : (ints xs)[k]? = some (.int .i64 x) := by simp [ints, h]
theorem ints_noHole (xs : List Int) : (ints xs).all noHole = true := by simp [ints, noHole]
theorem ints_length (xs : List Int) : (ints xs).length = xs.length := by simp [ints]
theorem ints_cut (xs : List Int) (k s : Nat) : ((ints xs).drop k).take s = ints ((xs.drop k).take s) := by simp [ints, List.map_drop, List.map_take]
def SliceI (H : Hp) (n : Nat) (s : Nat) (v : Value) (len : Nat) (xs : List Int) : Prop :=
  xs.length = len * s ∧ (∀ x ∈ xs, I64 x) ∧
  ((v = .slice none 0 0 ∧ len = 0) ∨ ∃ b o cap, v = .slice (some ⟨b, o, none⟩) len cap ∧ len ≤ cap ∧ cap < capV ∧ b < n ∧ (len = 0 ∨ CellsAt H b o (ints xs)))
theorem SliceI.keep {n m : Nat} {len : Nat} {xs : List Int} (h : SliceI H n s v len xs) (hk : Keep m H H') (hm : n ≤ m) : SliceI H' m s v len xs := by
  obtain ⟨h1, h2, h3⟩ := h
  refine ⟨h1, h2, ?_⟩
  rcases h3 with h3 | ⟨b, o, cap, e, a1, a2, a3, a4⟩
  · exact .inl h3
  · exact .inr ⟨b, o, cap, e, a1, a2, by omega, a4.imp id fun z => z.keep hk (by omega)⟩
theorem SliceI.len_eq {n len : Nat} {xs : List Int} (h : SliceI H n s v len xs) {e : TypeId} (ht : P.underlying t = some (.slice e)) : lenV P t v = some (goInt len) := by
  rcases h.2.2 with ⟨rfl, rfl⟩ | ⟨b, o, cap, rfl, _⟩ <;> simp [lenV, ht]
theorem SliceI.at_ {n len : Nat} {xs : List Int} (h : SliceI H n s v len xs) {e : TypeId} (ht : P.underlying t = some (.slice e)) (hs : szT P e = some s) {i : Nat} (hi : i < len) :
    ∃ b o, indexAddrV P t v (.int .i64 i) = some (.pointer (some ⟨b, o + i * s, none⟩)) ∧ b < n ∧ CellsAt H b o (ints xs) := by
  rcases h.2.2 with ⟨rfl, rfl⟩ | ⟨b, o, cap, rfl, h1, h2, h3, h4⟩
  · omega
  · have h4 := h4.resolve_left (by omega)
    refine ⟨b, o, ?_, h3, h4⟩
    unfold indexAddrV
    simp only [ht, hs]
    have : idxIn (.int .i64 (i : Int)) len = some i := by
      show idxIn (.int .i64 (.ofNat i)) len = some i
      simp [idxIn, hi]
    rw [this]
    simp [addA]
end Go.Ev
