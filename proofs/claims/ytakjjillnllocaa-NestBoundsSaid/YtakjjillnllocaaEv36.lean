import Derived.Test.YtakjjillnllocaaEv35
namespace Go.Ev
open Go
variable {P : Program} {ρ : Type}
theorem storeN_all {H : Hp} {b : Nat} {c vs : List Value} {e : TypeId} {vec : Option Nat} (h : H.get b = some (.cells c e false vec)) (hl : vs.length = c.length) (hv : vs.all leafV = true) :
    storeN H ⟨b, 0, none⟩ vs = some (H.set b (some (.cells vs e false vec))) := by
  have key : ∀ (c vs : List Value), vs.length = c.length → splice.over c vs = some vs := by
    intro c
    induction c with
    | nil => intro vs hl; cases vs with
      | nil => rfl
      | cons v vs => simp at hl
    | cons x c ih => intro vs hl; cases vs with
      | nil => simp at hl
      | cons v vs => simp [splice.over, ih vs (by simpa using hl)]
  unfold storeN
  simp only [h, hv, if_true]
  have : splice c 0 vs = some vs := by unfold splice; exact key c vs hl
  rw [this]
theorem storeP_agg {t : TypeId} {s : Nat} {L : List Value} {a : Addr} {H : Hp} (hs : szT P t = some s) (hl : L.length = s) : storeP P t (.pointer (some a)) (.agg ⟨L⟩) H = storeN H a L := by
  unfold storeP
  simp only [hs, cellsV, hl, if_true]
theorem storeP_leaf {t : TypeId} {a : Addr} {H : Hp} {v : Value} (hs : szT P t = some 1) (h : leafV v = true) : storeP P t (.pointer (some a)) v H = storeN H a [v] := by
  unfold storeP
  simp only [hs]
  cases v <;> first | rfl | cases h
theorem load_all {t : TypeId} {s b : Nat} {L : List Value} {H : Hp} {e : TypeId} {vec : Option Nat} (h : H.get b = some (.cells L e false vec)) (ha : isAggT P t = some true) (hs : szT P t = some s) (hl : L.length = s) :
    loadV P H t ⟨b, 0, none⟩ = some (.agg ⟨L⟩) := by
  unfold loadV
  simp only [h, partV, ha, hs]
  unfold cut
  simp [hl]
  exact List.take_of_length_le (by omega)
theorem cells_at {b : Nat} {L : List Value} {H : Hp} {e : TypeId} {ro : Bool} {vec : Option Nat} (h : H.get b = some (.cells L e ro vec)) : CellsAt H b 0 L := ⟨_, L, h, rfl, fun k v hv => by simpa using hv⟩
theorem spill {t : TypeId} {s : Nat} {z : Value} {L : List Value} {H : Hp} {n : Nat} (hz : zeroT P t = some z) (hzl : (cellsV z).length = s) (hs : szT P t = some s) (hl : L.length = s) (hf : L.all leafV = true) :
    ∃ H', Keep n H H' ∧ H'.get n = some (.cells L t false none) ∧ ∀ k : Value → Hp → Nat → Option ρ,
      (allocK P t H n fun v H2 n2 => bindO (storeP P t v (.agg ⟨L⟩) H2) fun H3 => k v H3 n2) = k (.pointer (some ⟨n, 0, none⟩)) H' (n + 1) := by
  refine ⟨(H.set n (some (.cells (cellsV z) t false none))).set n (some (.cells L t false none)), ((Keep.refl n H).set (Nat.le_refl _) _).set (Nat.le_refl _) _, by rw [Tr.get_set, if_pos rfl], fun k => ?_⟩
  rw [allocK_eq hz]
  simp only [ptr]
  rw [storeP_agg hs hl, storeN_all (c := cellsV z) (by rw [Tr.get_set, if_pos rfl]) (by omega) hf]
  rfl
theorem ints_take {xs : List Int} {i s : Nat} (h : i * s + s ≤ xs.length) : (((ints xs).drop (i * s)).take s).length = s ∧ (((ints xs).drop (i * s)).take s).all leafV = true := by
  refine ⟨by simp [ints_length]; omega, ?_⟩
  rw [ints_cut]; exact ints_leaf _
theorem callVK_f {cal : Cal} {g : FuncId} {a b : List Value} {args : List Value} {H : Hp} {n : Nat} {k : Value → Hp → Nat → Option ρ} :
    callVK P cal (.func (.func g) ⟨a⟩ ⟨b⟩) args H n k = callFK P cal g (a ++ args ++ b) H n k := rfl
end Go.Ev
