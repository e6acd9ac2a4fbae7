import Derived.Test.YtakjjillnllocaaEv5
namespace Go.Ev
open Go
variable {P : Program} {w₀ : World} {W : Sets} {φ : Phi} {st st' : St} {w : World} {a : Act} {H : Hp} {n : Nat}
theorem semPure_run {α : Type} : ∀ {m : Sem α} {v : α}, semPure P m = some v → ∀ w : World, m.run P w = .ok v w := by
  intro m
  induction m with
  | pure x => intro v e w; simp [semPure] at e; subst e; rfl
  | program k ih => intro v e w; simp only [semPure] at e; simp only [Sem.run]; exact ih _ e w
  | mark m k ih => intro v e w; simp only [semPure] at e; simp only [Sem.run]; exact ih e w
  | _ => intro v e w; simp [semPure] at e
def valOf (m : Sem Value) : Sem Next := do pure (.value (← m))
def unitOf (m : Sem Unit) : Sem Next := do m; pure .skip
theorem valOf_run {m : Sem Value} {v : Value} {w w' : World} (h : m.run P w = .ok v w') : (valOf m).run P w = .ok (.value v) w' := by
  simp [valOf, h]
theorem unitOf_run {m : Sem Unit} {w w' : World} (h : m.run P w = .ok () w') : (unitOf m).run P w = .ok .skip w' := by
  simp [unitOf, h]
theorem Done.val {m : Sem Value} {v v' : Value} (h : I w₀ W φ st.H st.n w) (hm : m.run P w = .ok v' w) (hv : VR φ v v') : Done P (valOf m) w₀ W φ w st v st :=
  Done.same h (valOf_run hm) hv
theorem Done.keep {m : Sem Value} {o : Option Value} {v : Value} (h : I w₀ W φ st.H st.n w) (e : keep o st = some (v, st'))
    (k : ∀ v, o = some v → ∃ v', m.run P w = .ok v' w ∧ VR φ v v') : Done P (valOf m) w₀ W φ w st v st' := by
  obtain ⟨rfl, rfl⟩ := keep_inv e
  obtain ⟨v', h1, h2⟩ := k v rfl
  exact Done.val h h1 h2
theorem VRL.singleton {v v' : Value} (h : VR φ v v') : VRL φ [v] [v'] := VRL.cons h VRL.nil
theorem Done.row {m : Sem Value} {c c' : List Value} {e : TypeId} {vec : Option Nat} {cp : Nat} {v v' : Value} {w1 : World} (h : I w₀ W φ st.H st.n w1)
    (hc : Pre φ c c') (hvec : ∀ s, vec = some s → c'.length = cp * s)
    (hm : m.run P w = .ok v' { w1 with heap := w1.heap.push (.cells ⟨c'⟩ e) })
    (hv : VR (ext φ st.n (w1.heap.size, cp)) v v') : Done P (valOf m) w₀ W φ w st v (pushB st c e vec) := by
  have hb : BR φ (.cells c e false vec) (.cells ⟨c'⟩ e) cp := ⟨⟨c'⟩, (0, 0), rfl, fun _ => rfl, hc, fun s hs => by simpa using hvec s hs⟩
  exact ⟨_, v', _, .inl (valOf_run hm), h.ext_push _, h.push hb, hv, rfl, rfl⟩
theorem VR.ptr_new {φ : Phi} {n b c : Nat} : VR (ext φ n (b, c)) (ptr n) (.pointer (some ⟨b, 0, none⟩)) := by
  simp only [ptr, VR]
  exact ⟨_, rfl, ⟨c, ext_new _ _ _⟩, rfl, rfl⟩
section
variable (h : I w₀ W φ st.H st.n w) (ht : TR φ st.T a.tmps)
include h ht
theorem pick_ok {c x y : Operand} {v : Value} (e : oPick c x y st = some (v, st')) :
    Done P (do pure (Next.value (if ← asBool (a.eval c) then a.eval x else a.eval y))) w₀ W φ w st v st' := by
  unfold oPick at e
  split at e
  · rename_i hc
    have := opd_ok ht hc; simp only [VR] at this
    obtain ⟨hx, rfl⟩ := keep_inv e
    exact Done.same h (by simp [this, asBool]) (opd_ok ht hx)
  · rename_i hc
    have := opd_ok ht hc; simp only [VR] at this
    obtain ⟨hx, rfl⟩ := keep_inv e
    exact Done.same h (by simp [this, asBool]) (opd_ok ht hx)
  · cases e
omit ht in
theorem alloc_ok {t : TypeId} {v : Value} (e : oAlloc P t st = some (v, st')) :
    Done P (valOf (Instr.alloc t true (.tuple #[]))) w₀ W φ w st v st' := by
  unfold oAlloc at e
  split at e
  · rename_i z hz
    simp only [Option.some.injEq, Prod.mk.injEq] at e
    obtain ⟨rfl, rfl⟩ := e
    obtain ⟨hr, hp⟩ := run_zeroT hz w
    refine Done.row (cp := 0) (c' := cellsV z) h (Pre.of (pureV.refl hp).cells) (fun s hs => by cases hs) ?_ VR.ptr_new
    simp [Instr.alloc, hr, newVar, newRow, cellsV_eq]
  · cases e
theorem box_ok {t : TypeId} {x : Operand} {v : Value} (e : oBox t x st = some (v, st')) :
    Done P (valOf (Instr.box t (a.eval x))) w₀ W φ w st v st' := by
  unfold oBox at e
  split at e
  · rename_i u hu
    simp only [Option.some.injEq, Prod.mk.injEq] at e
    obtain ⟨rfl, rfl⟩ := e
    refine Done.row (cp := 0) (c' := cellsV (a.eval x)) h (Pre.of (opd_ok ht hu).cells) (fun s hs => by cases hs) ?_ VR.ptr_new
    simp [Instr.box, newVar, newRow, cellsV_eq]
  · cases e
omit h in
theorem parts_ok : ∀ {l : List (Nat × Operand)} {ps : List (Nat × Value)}, partsV st.T l = some ps →
    (l.map fun (i, x) => (i, a.eval x)).map (·.1) = ps.map (·.1) ∧ VRL φ (ps.map (·.2)) ((l.map fun (i, x) => (i, a.eval x)).map (·.2))
  | [], ps, e => by simp [partsV] at e; subst e; exact ⟨rfl, VRL.nil⟩
  | (i, x) :: l, ps, e => by
    simp only [partsV] at e
    split at e
    · cases e
    · rename_i v hv
      split at e
      · cases e
      · rename_i vs hvs
        cases e
        obtain ⟨h1, h2⟩ := parts_ok hvs
        exact ⟨by simp only [List.map_cons, h1], VRL.cons (opd_ok ht hv) h2⟩
omit h ht in
theorem places_run (w : World) : ∀ {l : List Field} {pl : List (Nat × Nat)}, places P l = some pl →
    (l.mapM (m := Sem) fun f => do pure (f.offset, ← sizeOf f.type)).run P w = .ok pl w
  | [], pl, e => by simp [places] at e; subst e; simp
  | f :: l, pl, e => by
    simp only [places] at e
    split at e
    · cases e
    · rename_i s hs
      split at e
      · cases e
      · rename_i r hr
        cases e
        have ih := places_run w hr
        simp only [List.mapM_cons, Sem.run_bind, run_szT hs, Result.andThen_ok, Sem.run_pure]
        rw [show (List.mapM (m := Sem) (fun f => do pure (f.offset, ← sizeOf f.type)) l).run P w = .ok r w from ih]
        rfl
theorem build_ok {t : TypeId} {parts : Array (Nat × Operand)} {v : Value} (e : keep (buildV P st.T t parts.toList) st = some (v, st')) :
    Done P (valOf (Instr.build t (parts.map fun (i, x) => (i, a.eval x)))) w₀ W φ w st v st' := by
  refine Done.keep h e fun v hv => ?_
  unfold buildV at hv
  split at hv
  · rename_i z ps hz hps
    obtain ⟨hzr, hzp⟩ := run_zeroT hz w
    obtain ⟨h1, h2⟩ := parts_ok ht hps
    have hz2 := (pureV.refl (φ := φ) hzp).cells
    have hpl : (parts.map fun (i, x) => (i, a.eval x)).toList = parts.toList.map fun (i, x) => (i, a.eval x) := by simp
    split at hv
    · rename_i fs hu
      split at hv
      · rename_i pl hpl'
        split at hv
        · rename_i c hc
          cases hv
          obtain ⟨r', hr, hr2⟩ := fill_ok hz2 h1 h2 hc
          refine ⟨.agg ⟨r'⟩, ?_, by simp only [VR]; exact ⟨_, rfl, by simpa only [VRA] using hr2⟩⟩
          have hm : (fs.mapM (m := Sem) fun f => do pure (f.offset, ← sizeOf f.type)).run P w = .ok pl.toArray w := by
            rw [Array.mapM_eq_mapM_toList]
            simp only [Sem.run_map, places_run w hpl', Result.andThen_ok]
          simp only [Instr.build, Sem.run_bind, hzr, Result.andThen_ok, run_und hu, hm, hpl]
          have e0 : z.cells = ⟨cellsV z⟩ := by rw [cellsV_eq]
          have e1 : (fun x : Nat => pl.toArray[x]?) = (fun x : Nat => pl[x]?) := by funext x; simp
          rw [e0, e1, hr]
          rfl
        · cases hv
      · cases hv
    · rename_i k el hu
      split at hv
      · rename_i s hs
        split at hv
        · rename_i c hc
          cases hv
          obtain ⟨r', hr, hr2⟩ := fill_ok hz2 h1 h2 hc
          refine ⟨.agg ⟨r'⟩, ?_, by simp only [VR]; exact ⟨_, rfl, by simpa only [VRA] using hr2⟩⟩
          simp only [Instr.build, Sem.run_bind, hzr, Result.andThen_ok, run_und hu, run_szT hs, hpl]
          have e0 : z.cells = ⟨cellsV z⟩ := by rw [cellsV_eq]
          rw [e0, hr]
          rfl
        · cases hv
      · cases hv
    · cases hv
  · cases hv
theorem load_ok {t : TypeId} {x : Operand} {v : Value} (e : oLoad P t x st = some (v, st')) :
    Done P (valOf (Instr.loadAt t (a.eval x))) w₀ W φ w st v st' := by
  unfold oLoad at e
  split at e
  · rename_i ad hx
    have hv := opd_ok ht hx; simp only [VR] at hv
    obtain ⟨ad', hv, har⟩ := hv
    refine Done.keep h e fun v hv' => ?_
    obtain ⟨v', h1, h2⟩ := loadV_ok h har hv'
    exact ⟨v', by simp [Instr.loadAt, Instr.sureAddr, hv, h2], h1⟩
  · cases e
theorem store_ok {t : TypeId} {x y : Operand} {v : Value} (e : oStore P t x y st = some (v, st')) :
    Done P (unitOf (Instr.storeAt t (a.eval x) (a.eval y))) w₀ W φ w st v st' := by
  unfold oStore at e
  split at e
  · rename_i ad u hx hy
    have hv := opd_ok ht hx; simp only [VR] at hv
    obtain ⟨ad', hv, har⟩ := hv
    have hu := (opd_ok ht hy).cells
    split at e
    · rename_i s hs
      split at e
      · rename_i hl
        split at e
        · rename_i H hH
          simp only [Option.some.injEq, Prod.mk.injEq] at e
          obtain ⟨rfl, rfl⟩ := e
          obtain ⟨w', h1, h2⟩ := storeN_ok (P := P) h har hu hH
          have hl' := hu.length
          refine ⟨φ, undef, w', .inr ⟨unitOf_run ?_, rfl⟩, Ext.refl _ _, h2, pureV.refl rfl, rfl, rfl⟩
          rw [cellsV_eq] at h1 hl'
          simp at hl'
          simp [Instr.storeAt, Instr.sureAddr, hv, storeVar, run_szT hs, hl', hl, h1]
        · cases e
      · cases e
    · cases e
  · cases e
end
end Go.Ev
