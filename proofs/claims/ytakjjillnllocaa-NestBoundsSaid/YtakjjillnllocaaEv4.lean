import Derived.Test.YtakjjillnllocaaEv3
import Derived.Laws.CopyRow
import Derived.Laws.Cells
namespace Go.Ev
open Go
variable {P : Program} {w₀ : World} {W : Sets} {φ : Phi} {st st' : St} {w : World} {a : Act}
theorem opd_ok {x : Operand} {T : Tm} {v : Value} (ht : TR φ T a.tmps) (e : opd x T = some v) : VR φ v (a.eval x) := by
  cases x with
  | tmp t =>
    obtain ⟨v', f, g⟩ := ht t v e
    simp only [Act.eval, Array.getD_eq_getD_getElem?, f]; exact g
  | const c =>
    simp only [opd] at e
    split at e
    · rename_i p; cases e; exact pureV.refl p
    · cases e
  | func f => simp only [opd] at e; cases e; simp only [VR, Act.eval]; exact ⟨_, _, _, rfl, rfl, VRL.nil (φ := φ), VRL.nil (φ := φ)⟩
  | global g => simp [opd] at e
theorem opds_ok {T : Tm} (ht : TR φ T a.tmps) : ∀ {l : List Operand} {vs : List Value}, opds T l = some vs → VRL φ vs (l.map a.eval)
  | [], vs, e => by simp [opds] at e; subst e; exact VRL.nil
  | x :: l, vs, e => by
    simp only [opds] at e
    split at e
    · cases e
    · rename_i v hv
      split at e
      · cases e
      · rename_i us hu
        cases e
        exact VRL.cons (opd_ok ht hv) (opds_ok ht hu)
def Done (P : Program) (m : Sem Next) (w₀ : World) (W : Sets) (φ : Phi) (w : World) (st : St) (v : Value) (st' : St) : Prop :=
  ∃ φ' v' w', (m.run P w = .ok (.value v') w' ∨ (m.run P w = .ok .skip w' ∧ v' = undef)) ∧ Ext φ st.n φ' st'.n ∧ I w₀ W φ' st'.H st'.n w' ∧ VR φ' v v' ∧ st'.T = st.T ∧ st'.D = st.D
theorem Done.same {m : Sem Next} {v v' : Value} (h : I w₀ W φ st.H st.n w) (hm : m.run P w = .ok (.value v') w) (hv : VR φ v v') : Done P m w₀ W φ w st v st :=
  ⟨φ, v', w, .inl hm, Ext.refl _ _, h, hv, rfl, rfl⟩
theorem keep_inv {o : Option Value} {v : Value} (e : keep o st = some (v, st')) : o = some v ∧ st' = st := by
  cases o with
  | none => simp [keep] at e
  | some u => simp [keep] at e; exact ⟨by rw [e.1], e.2.symm⟩
theorem cellsV_eq (v : Value) : cellsV v = v.cells.toList := by cases v <;> rfl
theorem VR.cells {v v' : Value} (h : VR φ v v') : VRL φ (cellsV v) (cellsV v') := by
  have one : ∀ {v v' : Value}, VR φ v v' → VRL φ [v] [v'] := fun h => VRL.cons h VRL.nil
  cases v with
  | agg c => simp only [VR] at h; obtain ⟨c', rfl, r⟩ := h; cases c; simpa only [VRA, cellsV] using r
  | pointer a => cases a <;> (have k := h; simp only [VR] at k) <;> first | (subst k; exact one h) | (obtain ⟨a', rfl, r⟩ := k; exact one h)
  | slice a n c => cases a <;> (have k := h; simp only [VR] at k) <;> first | (subst k; exact one h) | (obtain ⟨a', c', rfl, r⟩ := k; exact one h)
  | map a => cases a <;> (have k := h; simp only [VR] at k) <;> first | (subst k; exact one h) | (obtain ⟨a', c', rfl, r⟩ := k; exact one h)
  | func f b c => have k := h; simp only [VR] at k; obtain ⟨f', b', c', rfl, r⟩ := k; exact one h
  | iface t u => have k := h; simp only [VR] at k; obtain ⟨u', rfl, r⟩ := k; exact one h
  | tuple c => have k := h; simp only [VR] at k; obtain ⟨c', rfl, r⟩ := k; exact one h
  | chan c => simp only [VR] at h
  | _ => (have k := h; simp only [VR] at k; subst k; exact one h)
theorem VR.leaf {v v' : Value} (h : VR φ v v') (l : leafV v = true) : v'.oneCell' = true := by
  cases v with
  | agg c => simp [leafV] at l
  | tuple c => simp [leafV] at l
  | pointer a => cases a <;> simp only [VR] at h <;> first | (subst h; rfl) | (obtain ⟨a', rfl, r⟩ := h; rfl)
  | slice a n c => cases a <;> simp only [VR] at h <;> first | (subst h; rfl) | (obtain ⟨a', c', rfl, r⟩ := h; rfl)
  | map a => cases a <;> simp only [VR] at h <;> first | (subst h; rfl) | (obtain ⟨a', c', rfl, r⟩ := h; rfl)
  | func f b c => simp only [VR] at h; obtain ⟨f', b', c', rfl, r⟩ := h; rfl
  | iface t u => simp only [VR] at h; obtain ⟨u', rfl, r⟩ := h; rfl
  | chan c => simp only [VR] at h
  | _ => (simp only [VR] at h; subst h; rfl)
theorem VRL.leaf : ∀ {l l' : List Value}, VRL φ l l' → l.all leafV = true → ∀ v ∈ l', v.oneCell' = true
  | [], l', h, _ => by simp only [VRL] at h; subst h; simp
  | v :: l, l', h, a => by
    simp only [VRL] at h
    obtain ⟨v', r', rfl, x, y⟩ := h
    simp only [List.all_cons, Bool.and_eq_true] at a
    intro u hu
    rcases List.mem_cons.1 hu with rfl | hu
    · exact x.leaf a.1
    · exact y.leaf a.2 u hu
theorem run_zeroT {t : TypeId} {z : Value} (e : zeroT P t = some z) (w : World) : (zeroValue t).run P w = .ok z w ∧ pureV z = true := by
  unfold zeroT at e
  split at e
  · rename_i i hi
    split at e
    · rename_i v hv
      split at e
      · rename_i p; cases e
        refine ⟨?_, p⟩
        simp [zeroValue, typeInfo, hi, hv]
      · cases e
    · cases e
  · cases e
theorem run_szT {t : TypeId} {s : Nat} (e : szT P t = some s) (w : World) : (sizeOf t).run P w = .ok s w := by
  unfold szT at e
  split at e
  · rename_i i hi; cases e; simp [sizeOf, typeInfo, hi]
  · cases e
theorem run_bytesT {t : TypeId} {s : Nat} (e : bytesT P t = some s) (w : World) : ∃ i, (typeInfo t).run P w = .ok i w ∧ i.bytes = s := by
  unfold bytesT at e
  split at e
  · rename_i i hi; cases e; exact ⟨i, by simp [typeInfo, hi], rfl⟩
  · cases e
theorem run_und {t : TypeId} {d : TypeDesc} (e : P.underlying t = some d) (w : World) : (underlying t).run P w = .ok d w := by
  simp [underlying, e]
theorem run_isAggT {t : TypeId} {b : Bool} (e : isAggT P t = some b) (w : World) : (isAgg t).run P w = .ok b w := by
  unfold isAggT at e
  split at e
  · rename_i fs h; cases e; simp [isAgg, run_und h]
  · rename_i x y h; cases e; simp [isAgg, run_und h]
  · rename_i d h1 h2 h; cases e
    simp only [isAgg, Sem.run_bind, run_und h, Result.andThen_ok]
    rfl
  · cases e
theorem sliceElem_und {t e : TypeId} (h : sliceElem P t = some e) : P.underlying t = some (.slice e) := by
  unfold sliceElem at h
  split at h
  · rename_i x hx; cases h; exact hx
  · cases h
theorem cut_eq {l r : List Value} {o n : Nat} (e : cut l o n = some r) : r = (l.drop o).take n ∧ r.length = n := by
  unfold cut at e
  simp only at e
  split at e
  · rename_i h; cases e; exact ⟨rfl, h⟩
  · cases e
theorem part_ok {t : TypeId} {c c' : List Value} {o : Nat} {v : Value} (hc : VRL φ c c') (e : partV P t c o = some v) (w : World) :
    ∃ v', (part t ⟨c'⟩ o).run P w = .ok v' w ∧ VR φ v v' := by
  unfold partV at e
  split at e
  · rename_i h
    split at e
    · rename_i s hs
      split at e
      · rename_i l hl
        cases e
        obtain ⟨rfl, hlen⟩ := cut_eq hl
        refine ⟨.agg ⟨(c'.drop o).take s⟩, ?_, ?_⟩
        · simp only [part, Sem.run_bind, run_isAggT h, Result.andThen_ok, if_true, run_szT hs, Sem.run_pure]
          congr 2
          apply Array.ext'
          simp [List.extract_eq_take_drop]
        · simp only [VR]
          exact ⟨_, rfl, by simpa only [VRA] using (hc.drop o).take s⟩
      · cases e
    · cases e
  · rename_i h
    obtain ⟨v', f, g⟩ := hc.get e
    refine ⟨v', ?_, g⟩
    simp [part, run_isAggT h, f]
  · cases e
end Go.Ev
