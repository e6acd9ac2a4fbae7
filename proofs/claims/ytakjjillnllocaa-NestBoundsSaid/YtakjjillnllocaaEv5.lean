import Derived.Test.YtakjjillnllocaaEv4
namespace Go.Ev
open Go
variable {P : Program} {w₀ : World} {W : Sets} {φ : Phi} {st st' : St} {w : World} {a : Act} {H : Hp} {n : Nat}
theorem addr_add (b o i : Nat) : (⟨b, o, none⟩ : Addr).add i = ⟨b, o + i, none⟩ := by unfold Addr.add; split <;> simp_all
theorem row_of (h : I w₀ W φ H n w) {i : Nat} {c : List Value} {e : TypeId} {ro : Bool} {vec : Option Nat} (hi : H.get i = some (.cells c e ro vec)) :
    ∃ p arr fr, φ i = some p ∧ w.heap[p.1]? = some (.cells arr e fr) ∧ (ro = false → fr = (0, 0)) ∧ Pre φ c arr.toList ∧ (∀ s, vec = some s → arr.size = p.2 * s) := by
  obtain ⟨p, o, f, g, k⟩ := h.rel i _ hi
  obtain ⟨arr, fr, rfl, x, y, z⟩ := k
  exact ⟨p, arr, fr, f, g, x, y, z⟩
theorem cut_row {c l : List Value} {o m b : Nat} {arr : Array Value} {e : TypeId} {fr : Nat × Nat} (hp : Pre φ c arr.toList) (hb : w.heap[b]? = some (.cells arr e fr)) (hc : cut c o m = some l) :
    ∃ l', VRL φ l l' ∧ (loadCells ⟨b, o, none⟩ m).run P w = .ok ⟨l'⟩ w := by
  obtain ⟨rfl, hl⟩ := cut_eq hc
  refine ⟨((arr.toList.take c.length).drop o).take m, (hp.drop o).take m, ?_⟩
  have hlen := ((hp.drop o).take m).length
  rw [hl] at hlen
  have := run_loadCells_list (P := P) w ⟨b, o, none⟩ (((arr.toList.take c.length).drop o).take m) ?_
  · rw [hlen] at this; exact this
  · intro j v hj
    rw [addr_add]
    rw [List.getElem?_take] at hj
    split at hj
    · rw [List.getElem?_drop, List.getElem?_take] at hj
      split at hj
      · simp only [World.cell?, hb]
        simpa using hj
      · cases hj
    · cases hj
theorem cut_rows {c l : List Value} {o m b : Nat} {arr : Array Value} {e : TypeId} {fr : Nat × Nat} (hp : ∀ (j : Nat) v, c[j]? = some v → noHole v = true → ∃ v', arr[j]? = some v' ∧ VR φ v v')
    (hb : w.heap[b]? = some (.cells arr e fr)) (hc : cut c o m = some l) (hh : l.all noHole = true) :
    ∃ l', VRL φ l l' ∧ (loadCells ⟨b, o, none⟩ m).run P w = .ok ⟨l'⟩ w := by
  obtain ⟨rfl, hl⟩ := cut_eq hc
  have each : ∀ (j : Nat) v, ((c.drop o).take m)[j]? = some v → ∃ v', ((arr.toList.drop o).take m)[j]? = some v' ∧ VR φ v v' := by
    intro j v hj
    have hmem := List.all_eq_true.1 hh v (List.mem_of_getElem? hj)
    rw [List.getElem?_take] at hj ⊢
    split at hj
    · rename_i hlt
      rw [List.getElem?_drop] at hj
      obtain ⟨v', a, b⟩ := hp _ _ hj hmem
      exact ⟨v', by rw [if_pos hlt, List.getElem?_drop]; simpa using a, b⟩
    · cases hj
  have hlen : ((arr.toList.drop o).take m).length = m := by
    rcases Nat.eq_zero_or_pos m with h0 | h0
    · subst h0; simp
    · have hj : m - 1 < ((c.drop o).take m).length := by omega
      obtain ⟨v', a, _⟩ := each (m - 1) _ (List.getElem?_eq_getElem hj)
      have := (List.getElem?_eq_some_iff.1 a).1
      have := List.length_take_le m (arr.toList.drop o)
      omega
  refine ⟨(arr.toList.drop o).take m, VRL.of_get (by rw [hlen, hl]) each, ?_⟩
  have := run_loadCells_list (P := P) w ⟨b, o, none⟩ ((arr.toList.drop o).take m) ?_
  · rw [hlen] at this; exact this
  · intro j v hj
    rw [addr_add]
    rw [List.getElem?_take] at hj
    split at hj
    · rw [List.getElem?_drop] at hj
      simp only [World.cell?, hb]
      simpa using hj
    · cases hj
theorem spot_none {x : Addr} (h : x.spot = none) : x = ⟨x.block, x.off, none⟩ := by cases x; simp at h; subst h; rfl
theorem loadN_ok (h : I w₀ W φ H n w) {x x' : Addr} {m : Nat} {l : List Value} (hx : AR φ x x') (e : loadN H x m = some l) :
    ∃ l', VRL φ l l' ∧ (loadCells x' m).run P w = .ok ⟨l'⟩ w := by
  unfold loadN at e
  split at e
  · cases e
  · rename_i hs
    split at e
    · rename_i c el ro vec hb
      obtain ⟨p, arr, fr, f, g, _, k, _⟩ := row_of h hb
      obtain ⟨⟨cc, hx1⟩, hx2, hx3⟩ := hx
      rw [f] at hx1; cases hx1
      rw [spot_none (hx3.trans hs), hx2]
      exact cut_row k g e
    · rename_i c hb
      obtain ⟨p, o, f, g, arr, el, fr, rfl, k⟩ := h.rel _ _ hb
      obtain ⟨⟨cc, hx1⟩, hx2, hx3⟩ := hx
      rw [f] at hx1; cases hx1
      rw [spot_none (hx3.trans hs), hx2]
      split at e
      · rename_i l0 hl0
        split at e
        · rename_i hall
          cases e
          exact cut_rows k g hl0 hall
        · cases e
      · cases e
    · cases e
theorem loadV_ok (h : I w₀ W φ H n w) {x x' : Addr} {t : TypeId} {v : Value} (hx : AR φ x x') (e : loadV P H t x = some v) :
    ∃ v', VR φ v v' ∧ (loadVar t x').run P w = .ok v' w := by
  unfold loadV at e
  split at e
  · cases e
  · rename_i hs
    split at e
    · rename_i c el ro vec hb
      obtain ⟨p, arr, fr, f, g, _, k, _⟩ := row_of h hb
      obtain ⟨⟨cc, hx1⟩, hx2, hx3⟩ := hx
      rw [f] at hx1; cases hx1
      rw [spot_none (hx3.trans hs), hx2]
      unfold partV at e
      split at e
      · rename_i ha
        split at e
        · rename_i s hsz
          split at e
          · rename_i l hl
            cases e
            obtain ⟨l', hl', hr⟩ := cut_row (P := P) k g hl
            refine ⟨.agg ⟨l'⟩, ?_, ?_⟩
            · simp only [VR]; exact ⟨_, rfl, by simpa only [VRA] using hl'⟩
            · simp [loadVar, run_isAggT ha, run_szT hsz, hr]
          · cases e
        · cases e
      · rename_i ha
        obtain ⟨v', e1, e2⟩ := k.get e
        refine ⟨v', e2, ?_⟩
        rw [List.getElem?_take] at e1
        split at e1
        · have : w.cell? ⟨x'.block, x.off, none⟩ = some v' := by simp only [World.cell?, g]; simpa using e1
          simp [loadVar, run_isAggT ha, this]
        · cases e1
      · cases e
    · rename_i c hb
      obtain ⟨p, o, f, g, arr, el, fr, rfl, k⟩ := h.rel _ _ hb
      obtain ⟨⟨cc, hx1⟩, hx2, hx3⟩ := hx
      rw [f] at hx1; cases hx1
      rw [spot_none (hx3.trans hs), hx2]
      split at e
      case h_2 => cases e
      rename_i v0 hv0
      split at e
      case h_2 => cases e
      rename_i hno
      cases e
      unfold partV at hv0
      split at hv0
      · rename_i ha
        split at hv0
        · rename_i s hsz
          split at hv0
          · rename_i l hl
            cases hv0
            obtain ⟨l', hl', hr⟩ := cut_rows (P := P) k g hl (by simpa [noHoles] using hno)
            refine ⟨.agg ⟨l'⟩, ?_, ?_⟩
            · simp only [VR]; exact ⟨_, rfl, by simpa only [VRA] using hl'⟩
            · simp [loadVar, run_isAggT ha, run_szT hsz, hr]
          · cases hv0
        · cases hv0
      · rename_i ha
        have hno' : noHole v = true := by
          cases v <;> first | rfl | simpa [noHoles] using hno
        obtain ⟨v', e1, e2⟩ := k _ _ hv0 hno'
        refine ⟨v', e2, ?_⟩
        have : w.cell? ⟨x'.block, x.off, none⟩ = some v' := by simp only [World.cell?, g]; simpa using e1
        simp [loadVar, run_isAggT ha, this]
      · cases hv0
    · cases e
theorem setRow_eq (w : World) (g : Nat) (cur cs : Array Value) (t : TypeId) (fr : Nat × Nat) (hg : w.heap[g]? = some (.cells cur t fr)) :
    w.setRow g cs = { w with heap := w.heap.setIfInBounds g (.cells cs t fr) } := by
  obtain ⟨hlt, hh⟩ := Array.getElem?_eq_some_iff.1 hg
  unfold World.setRow
  congr 1
  apply Array.ext_getElem?
  intro i
  rw [Array.getElem?_modify, Array.getElem?_setIfInBounds]
  by_cases e : g = i
  · subst e; simp [hlt, hh]
  · simp [e]
theorem storeN_ok (h : I w₀ W φ H n w) {x x' : Addr} {vs vs' : List Value} {H' : Hp} (hx : AR φ x x') (hv : VRL φ vs vs') (e : storeN H x vs = some H') :
    ∃ w', (storeCells x' vs').run P w = .ok () w' ∧ I w₀ W φ H' n w' := by
  unfold storeN at e
  split at e
  · cases e
  · rename_i hs
    split at e
    · rename_i c el vec hb
      split at e
      · rename_i hall
        split at e
        · rename_i c' hc
          cases e
          obtain ⟨p, arr, fr, f, g, fr0, k, sz⟩ := row_of h hb
          obtain ⟨⟨cc, hx1⟩, hx2, hx3⟩ := hx
          rw [f] at hx1; cases hx1
          rw [spot_none (hx3.trans hs), hx2]
          obtain ⟨rfl, hle⟩ := splice_eq _ _ _ _ hc
          rw [fr0 rfl] at g
          have hl := hv.length
          have hle' := k.le
          have hrun := run_storeCells_at (P := P) x'.block x.off el vs' 0 arr w g (by simp at hle'; omega) (hv.leaf hall)
          refine ⟨_, hrun, ?_⟩
          rw [setRow_eq w _ _ _ _ _ g]
          refine h.put hb f rfl (b' := .cells (spl c x.off vs) el false vec) ⟨_, (0, 0), rfl, fun _ => rfl, ?_, ?_⟩
          · have := k.spl hv hle
            simpa [Ev.spl] using this
          · intro s hs'
            have := sz s hs'
            rw [← this]
            simp only [List.size_toArray, List.length_append, List.length_take, List.length_drop, Array.length_toList]
            simp at hle'
            omega
        · cases e
      · cases e
    · cases e
theorem fold_spl (off : Nat) : ∀ (vs : List Value) (k : Nat) (l : List Value), off + k + vs.length ≤ l.length →
    (vs.zipIdx k).foldl (fun (cs : Array Value) (x : Value × Nat) => cs.setIfInBounds (off + x.2) x.1) ⟨l⟩ = ⟨spl l (off + k) vs⟩
  | [], k, l, _ => by simp [spl]
  | v :: vs, k, l, h => by
    simp only [List.zipIdx_cons, List.foldl_cons]
    have e : (⟨l⟩ : Array Value).setIfInBounds (off + k) v = ⟨l.set (off + k) v⟩ := by
      apply Array.ext'; simp
    rw [e, fold_spl off vs (k + 1) _ (by simp at h ⊢; omega)]
    congr 1
    have := list_seg_step l (off + k) v vs (by simp at h; omega)
    simpa [spl, Nat.add_assoc, Nat.add_comm 1] using this
theorem fill_ok : ∀ {pl : Nat → Option (Nat × Nat)} {c c' r : List Value} {ps : List (Nat × Value)} {ps' : List (Nat × Value)},
    VRL φ c c' → ps'.map (·.1) = ps.map (·.1) → VRL φ (ps.map (·.2)) (ps'.map (·.2)) → fillV pl c ps = some r → ∃ r', Instr.fill pl ⟨c'⟩ ps' = some ⟨r'⟩ ∧ VRL φ r r' := by
  intro pl c c' r ps
  induction ps generalizing c c' with
  | nil =>
    intro ps' hc hi hv e
    simp [fillV] at e; subst e
    cases ps' with
    | nil => exact ⟨c', rfl, hc⟩
    | cons x xs => simp at hi
  | cons p ps ih =>
    intro ps' hc hi hv e
    cases ps' with
    | nil => simp at hi
    | cons q qs =>
      obtain ⟨i, v⟩ := p
      obtain ⟨j, v'⟩ := q
      simp only [List.map_cons, List.cons.injEq] at hi
      obtain ⟨rfl, hi⟩ := hi
      simp only [List.map_cons, VRL] at hv
      obtain ⟨u, us, hu, hv1, hv2⟩ := hv
      simp only [List.cons.injEq] at hu
      obtain ⟨rfl, rfl⟩ := hu
      simp only [fillV] at e
      split at e
      · cases e
      · rename_i off size hpl
        split at e
        · rename_i hsz
          split at e
          · rename_i c1 hc1
            obtain ⟨rfl, hle⟩ := splice_eq _ _ _ _ hc1
            have hvc := hv1.cells
            have hl := hvc.length
            have hcl := hc.length
            have hsz' : v'.cells.size = size := by rw [← hsz, ← hl, cellsV_eq]; simp
            have hfold : v'.cells.zipIdx.foldl (fun cs (x : Value × Nat) => cs.setIfInBounds (off + x.2) x.1) (⟨c'⟩ : Array Value) = ⟨spl c' off (cellsV v')⟩ := by
              have e1 : v'.cells = (cellsV v').toArray := by rw [cellsV_eq]
              rw [e1]
              have := fold_spl off (cellsV v') 0 c' (by omega)
              simpa using this
            have hpre : VRL φ (spl c off (cellsV v)) (spl c' off (cellsV v')) := by
              have h1 := (hc.take off).append hvc
              have h2 := h1.append (hc.drop (off + (cellsV v).length))
              unfold spl
              rw [hl]; exact h2
            obtain ⟨r', hr, hr2⟩ := ih hpre hi hv2 e
            refine ⟨r', ?_, hr2⟩
            simp only [Instr.fill, hpl]
            rw [if_neg]
            · rw [hfold]; exact hr
            · simp [hsz']; omega
          · cases e
        · cases e
end Go.Ev
