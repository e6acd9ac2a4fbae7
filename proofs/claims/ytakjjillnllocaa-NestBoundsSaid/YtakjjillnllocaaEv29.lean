import Derived.Test.YtakjjillnllocaaEv28
namespace Go.Ev
open Go
variable {P : Program}
theorem mkH (g : Nat → Option Blk) : ∀ m : Nat, ∃ H : Hp, ∀ i, H.get i = if i < m then g i else none
  | 0 => ⟨.nil, fun i => by rw [Tr.get_nil]; simp⟩
  | m + 1 => by
    obtain ⟨H, h⟩ := mkH g m
    refine ⟨H.set m (g m), fun i => ?_⟩
    rw [Tr.get_set]
    by_cases e : i = m
    · subst e; simp
    · rw [if_neg e, h i]
      by_cases q : i < m
      · rw [if_pos q, if_pos (by omega)]
      · rw [if_neg q, if_neg (by omega)]
def idPhi (w : World) : Phi := fun i => if i < w.heap.size then some (i, 0) else none
open Classical in
noncomputable def hole (φ : Phi) (v : Value) : Value := if VR φ v v then v else .chan none
noncomputable def rowsOf (w : World) (i : Nat) : Option Blk := match w.heap[i]? with
  | some (.cells arr _ _) => some (.rows (arr.toList.map (hole (idPhi w))))
  | _ => none
theorem I.start (w : World) : ∃ H : Hp, (∀ i, H.get i = rowsOf w i) ∧ I w ⟨fun _ => False, fun _ => True⟩ (idPhi w) H w.heap.size w := by
  obtain ⟨H, hH⟩ := mkH (rowsOf w) w.heap.size
  have hget : ∀ i, H.get i = rowsOf w i := by
    intro i
    rw [hH i]
    split
    · rfl
    · rename_i q
      unfold rowsOf
      rw [Array.getElem?_eq_none (by omega)]
  have hφ : ∀ i p, idPhi w i = some p → i < w.heap.size ∧ p = (i, 0) := by
    intro i p e
    unfold idPhi at e
    split at e
    · rename_i q; cases e; exact ⟨q, rfl⟩
    · cases e
  have hb : ∀ i b, H.get i = some b → ∃ arr e fr, w.heap[i]? = some (.cells arr e fr) ∧ b = .rows (arr.toList.map (hole (idPhi w))) := by
    intro i b e
    rw [hget i] at e
    unfold rowsOf at e
    split at e
    · rename_i arr el fr hw; cases e; exact ⟨arr, el, fr, hw, rfl⟩
    · cases e
  refine ⟨H, hget, ⟨?_, ?_, ?_, fun _ _ _ => rfl, Nat.le_refl _, ?_, fun _ _ _ _ _ => .inl trivial, rfl, rfl, rfl, fun _ => rfl⟩⟩
  · intro i p e
    obtain ⟨h1, rfl⟩ := hφ i p e
    exact ⟨h1, h1⟩
  · intro i b e
    obtain ⟨arr, el, fr, hw, rfl⟩ := hb i b e
    have hlt : i < w.heap.size := (Array.getElem?_eq_some_iff.1 hw).1
    refine ⟨(i, 0), _, by unfold idPhi; rw [if_pos hlt], hw, arr, el, fr, rfl, ?_⟩
    intro j v hj hno
    rw [List.getElem?_map] at hj
    cases hu : arr.toList[j]? with
    | none => rw [hu] at hj; cases hj
    | some u =>
      rw [hu] at hj
      simp only [Option.map_some, Option.some.injEq] at hj
      subst hj
      unfold hole at hno ⊢
      split at hno
      · rename_i hv
        rw [if_pos hv]
        exact ⟨u, by simpa using hu, hv⟩
      · cases hno
  · intro i j b c p q _ _ hp hq e
    obtain ⟨_, rfl⟩ := hφ i p hp
    obtain ⟨_, rfl⟩ := hφ j q hq
    exact e
  · intro i b p hi hr _
    obtain ⟨arr, el, fr, _, rfl⟩ := hb i b hi
    cases hr
theorem calls_of_tower_open {A : FuncId → Lv} {F : Nat} {tbl : FuncId → Option (Cal → List Value → Hp → Nat → Res)} (ht : TblOk P A F tbl) {l : Nat} {f : FuncId} {v : Value} {args args' : List Value} {H H' : Hp} {n n' : Nat} {φ : Phi} {w : World}
    {R : Nat → Prop} (hI : I w ⟨fun _ => False, R⟩ φ H n w) (hargs : VRL φ args args')
    (e : (calE P A F tbl l).call f args H n = some (v, H', n')) (hp : pureV v = true) :
    Calls P f ⟨args'⟩ w fun en w' => en = .returned v ∧ w'.os = w.os ∧ w'.tape = w.tape ∧ w'.output = w.output ∧ w.heap.size ≤ w'.heap.size ∧ (∀ b, b < w.heap.size → w'.heap[b]? = w.heap[b]?) ∧ ∀ b : Nat, frOb w'.heap[b]? = frOb w.heap[b]? := by
  refine (calls_of (evLA_ok P A F l) ((calE_ok ht l).call f args { T := .nil, H := H, n := n, D := [] } _ e) hI hargs).mono ?_
  rintro en w' ⟨φ', v', rfl, hv, hx, h⟩
  refine ⟨by rw [pureV.eq hp hv], h.os, h.tape, h.output, h.size, fun b hb => h.keep b hb (fun z => z), h.fz⟩
end Go.Ev
