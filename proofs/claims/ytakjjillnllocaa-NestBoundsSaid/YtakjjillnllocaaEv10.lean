import Derived.Test.YtakjjillnllocaaEv9
import Derived.WideKeyRuns
namespace Go.Ev
open Go
variable {P : Program} {w₀ : World} {W : Sets} {φ : Phi} {st st' : St} {w : World} {a : Act} {H : Hp} {n : Nat}
section
variable (h : I w₀ W φ st.H st.n w) (ht : TR φ st.T a.tmps)
include h ht
theorem len_ok {c : Call} {type : TypeId} {v : Value} (e : oLen P c st = some (v, st')) :
    Done P (valOf (Builtin.len_ c.argTypes type (c.args.map a.eval))) w₀ W φ w st v st' := by
  unfold oLen at e
  split at e
  · rename_i x t r ha ht'
    split at e
    · rename_i u hu
      refine Done.keep h e fun v hv => ?_
      have hur := opd_ok ht hu
      have e1 : (c.args.map a.eval)[0]? = some (a.eval x) := by
        have : c.args = ⟨[x]⟩ := by rw [← ha]
        rw [this]; simp
      have e2 : c.argTypes[0]? = some t := by
        have : c.argTypes = ⟨t :: r⟩ := by rw [← ht']
        rw [this]; simp
      unfold lenV at hv
      split at hv
      · rename_i k el hund
        cases hv
        refine ⟨goInt k, ?_, by simp only [goInt, VR]⟩
        simp only [Builtin.len_, e1, e2, Sem.run_bind, run_und hund, Result.andThen_ok]
        cases hx : a.eval x <;> rfl
      · rename_i el ad k cp hund
        cases hv
        cases ad with
        | none =>
          have := hur.slice_none
          refine ⟨goInt k, ?_, by simp only [goInt, VR]⟩
          simp only [Builtin.len_, e1, e2, Sem.run_bind, run_und hund, Result.andThen_ok, this]
          rfl
        | some ad =>
          obtain ⟨ad', c', e3, _⟩ := VR.slice_inv hur
          refine ⟨goInt k, ?_, by simp only [goInt, VR]⟩
          simp only [Builtin.len_, e1, e2, Sem.run_bind, run_und hund, Result.andThen_ok, e3]
          rfl
      · rename_i s hund
        cases hv
        simp only [VR] at hur
        refine ⟨goInt s.size, ?_, by simp only [goInt, VR]⟩
        simp only [Builtin.len_, e1, e2, Sem.run_bind, run_und hund, Result.andThen_ok, hur]
        rfl
      · cases hv
    · cases e
  · cases e
theorem append_op_ok {c : Call} {type : TypeId} {v : Value} (e : oAppend P c st = some (v, st')) :
    Done P (valOf (Builtin.append_ c.argTypes type (c.args.map a.eval))) w₀ W φ w st v st' := by
  unfold oAppend at e
  split at e
  · rename_i x y t t2 ha ht'
    split at e
    · rename_i u u2 hu hu2
      have e1 : c.args.map a.eval = #[a.eval x, a.eval y] := by
        have : c.args = ⟨[x, y]⟩ := by rw [← ha]
        rw [this]; simp
      have e2 : c.argTypes = #[t, t2] := by
        have : c.argTypes = ⟨[t, t2]⟩ := by rw [← ht']
        rw [this]
      rw [e1, e2]
      exact append_ok h (opd_ok ht hu) (opd_ok ht hu2) e
    · cases e
  · cases e
theorem copy_ok {c : Call} {type : TypeId} {v : Value} (e : oCopy P c st = some (v, st')) :
    Done P (valOf (Builtin.copy_ c.argTypes type (c.args.map a.eval))) w₀ W φ w st v st' := by
  unfold oCopy at e
  split at e
  · rename_i x y t r ha ht'
    split at e
    · rename_i u u2 hu hu2
      have e1 : c.args.map a.eval = #[a.eval x, a.eval y] := by
        have : c.args = ⟨[x, y]⟩ := by rw [← ha]
        rw [this]; simp
      have e2 : c.argTypes[0]? = some t := by
        have : c.argTypes = ⟨t :: r⟩ := by rw [← ht']
        rw [this]; simp
      rw [e1]
      have hx := opd_ok ht hu
      have hy := opd_ok ht hu2
      generalize a.eval x = x' at *
      generalize a.eval y = y' at *
      unfold copyV at e
      split at e
      · rename_i el hel
        have hund := sliceElem_und hel
        split at e
        · rename_i s hs
          split at e
          · rename_i ad dl dc bd sl sc
            split at e
            · rename_i l hl
              split at e
              · rename_i H' hH
                simp only [Option.some.injEq, Prod.mk.injEq] at e
                obtain ⟨rfl, rfl⟩ := e
                obtain ⟨ad', c1, rfl, har, _⟩ := VR.slice_inv hx
                obtain ⟨bd', c2, rfl, hbr, _⟩ := VR.slice_inv hy
                obtain ⟨l', l1, l2⟩ := loadN_ok (P := P) h hbr hl
                obtain ⟨w', s1, s2⟩ := storeN_ok (P := P) h har l1 hH
                refine ⟨φ, goInt (Nat.min sl dl), w', .inl (valOf_run ?_), Ext.refl _ _, s2, by simp only [goInt, VR], rfl, rfl⟩
                simp only [Builtin.copy_, e2, List.getElem?_toArray, List.getElem?_cons_zero, List.getElem?_cons_succ, Sem.run_bind, run_und hund, Result.andThen_ok, run_szT hs, Builtin.lenOf, Sem.run_pure, Builtin.firstCells, l2]
                simp only [s1, Result.andThen_ok]
              · cases e
            · cases e
          · cases e
        · cases e
      · cases e
    · cases e
  · cases e
theorem minmax_ok {b : Builtin} {c : Call} {type : TypeId} {v : Value} (e : oMinMax P b c type st = some (v, st')) :
    Done P (builtin b c.argTypes type (c.args.map fun | .const _ => true | _ => false) (c.args.map a.eval)) w₀ W φ w st v st' := by
  unfold oMinMax at e
  split at e
  · rename_i vs hvs
    split at e
    · rename_i hp
      split at e
      · rename_i u hu
        split at e
        · rename_i hpu
          simp only [Option.some.injEq, Prod.mk.injEq] at e
          obtain ⟨rfl, rfl⟩ := e
          have hl := pureL.eq hp (opds_ok ht hvs)
          have e1 : c.args.map a.eval = ⟨vs⟩ := by
            apply Array.ext'; simpa using hl
          rw [e1]
          exact Done.same h (semPure_run hu w) (pureV.refl hpu)
        · cases e
      · cases e
    · cases e
  · cases e
omit h ht in
theorem mapTy_und {t key elem : TypeId} (e : mapTy P t = some (key, elem)) : P.underlying t = some (.map key elem) := by
  unfold mapTy at e
  split at e
  · rename_i k el hu; cases e; exact hu
  · cases e
omit h ht in
theorem pureO_ok {m : Sem Value} {v : Value} (e : pureO P m = some v) (w : World) : m.run P w = .ok v w ∧ pureV v = true := by
  unfold pureO at e
  split at e
  · rename_i u hu
    split at e
    · rename_i hp; cases e; exact ⟨semPure_run hu w, hp⟩
    · cases e
  · cases e
omit h ht in
theorem run_getMap {r : Nat} {es : Array MapEntry} {c : Nat} (hb : w.heap[r]? = some (.map es c)) : (getObj r).run P w = .ok (.map es c) w := by
  simp [getObj, Sem.run, hb]
omit h ht in
theorem run_setMap {r : Nat} {es : Array MapEntry} {c : Nat} (o : Obj) (hb : w.heap[r]? = some (.map es c)) :
    (setObj r o).run P w = .ok () { w with heap := w.heap.setIfInBounds r o } := by
  simp [setObj, Sem.run, hb]
omit h ht in
theorem andThen_congr {α β : Type} {r : Result α} {f g : α → World → Result β} (e : ∀ a w, f a w = g a w) : r.andThen f = r.andThen g := by
  have : f = g := by funext a w; exact e a w
  rw [this]
omit h ht in
theorem lookS_run {key elem : TypeId} {es : List MapEntry} {x : Value} {ok : Bool} {t : TypeId} {m : Value} (hu : P.underlying t = some (.map key elem))
    (hm : m = .map none ∧ es = [] ∨ ∃ r c, m = .map (some r) ∧ w.heap[r]? = some (.map ⟨es⟩ c)) :
    (Instr.lookup t m x ok).run P w = (lookS key elem es x ok).run P w := by
  rcases hm with ⟨rfl, rfl⟩ | ⟨r, c, rfl, hb⟩
  · simp only [Instr.lookup, lookS, Sem.run_bind, run_und hu, Result.andThen_ok, Sem.run_pure]
    refine andThen_congr fun _ w1 => andThen_congr fun o w2 => ?_
    cases o with
    | none => simp only [Sem.run_bind, Sem.run_pure, Result.andThen_ok]
    | some q => simp only [Sem.run_bind, Sem.run_pure, Result.andThen_ok]
  · simp only [Instr.lookup, lookS, Sem.run_bind, run_und hu, Result.andThen_ok, Sem.run_pure, run_getMap hb]
    refine andThen_congr fun _ w1 => andThen_congr fun o w2 => ?_
    cases o with
    | none => simp only [Sem.run_bind, Sem.run_pure, Result.andThen_ok]
    | some q => simp only [Sem.run_bind, Sem.run_pure, Result.andThen_ok]
omit ht in
theorem mapOf_ok {m m' : Value} {es : List MapEntry} (hm : VR φ m m') (e : mapOf st.H m = some es) :
    m' = .map none ∧ es = [] ∨ ∃ r c, m' = .map (some r) ∧ w.heap[r]? = some (.map ⟨es⟩ c) := by
  unfold mapOf at e
  split at e
  · cases e; simp only [VR] at hm; exact .inl ⟨hm, rfl⟩
  · rename_i r
    simp only [VR] at hm
    obtain ⟨r', c', rfl, hp⟩ := hm
    split at e
    · rename_i es' c hg
      cases e
      obtain ⟨p, o, a, b, d⟩ := h.rel _ _ hg
      rw [hp] at a; cases a
      simp only [BR] at d
      subst d
      exact .inr ⟨r', c, rfl, b⟩
    · cases e
  · cases e
omit h ht in
theorem flatFs_check {xs : List Value} (em : Bool) (d : Nat) : ∀ {fs : List Field} {i : Nat}, flatFs P fs i = true → i + fs.length ≤ xs.length →
    (forIn (m := Sem) fs PUnit.unit fun f _ => do
      if f.name ≠ "_" then do
        Instr.checkKey em (d + 1) f.type (← part f.type ⟨xs⟩ f.offset)
        pure (ForInStep.yield PUnit.unit)
      else pure (ForInStep.yield PUnit.unit)).run P w = .ok PUnit.unit w
  | [], i, _, _ => by simp
  | f :: fs, i, hf, hl => by
    simp only [flatFs] at hf
    split at hf
    · rename_i k hn hu ha
      simp only [Bool.and_eq_true, bne_iff_ne, ne_eq, Nat.beq_eq] at hn
      obtain ⟨hn, rfl⟩ := hn
      simp only [List.length_cons] at hl
      have hlt : f.offset < xs.length := by omega
      have px : (part f.type ⟨xs⟩ f.offset).run P w = .ok xs[f.offset] w := by simp [part, run_isAggT ha, hlt]
      have hc : (Instr.checkKey em (d + 1) f.type xs[f.offset]).run P w = .ok () w := by
        unfold Instr.checkKey
        simp only [Sem.run_bind, run_und hu, Result.andThen_ok]
        rfl
      have ih := flatFs_check (xs := xs) em d hf (by omega)
      simp only [List.forIn_cons, Sem.run_bind, hn, ne_eq, not_false_eq_true, if_true, px, hc, Result.andThen_ok, Sem.run_pure]
      exact ih
    · cases hf
omit h ht in
theorem quickFind_eq {k : TypeId} {fs : Array Field} {x : List Value} (hu : P.underlying k = some (.struct fs)) (hp : P.stoodInHeld k = false) (hf : flatFs P fs.toList 0 = true) (hl : fs.toList.length = x.length) :
    ∀ {es : List MapEntry} {i : Nat} {r : Option (Nat × Value)}, quickFind x es i = some r → (Instr.findAsking k (.agg ⟨x⟩) es i).run P w = .ok r w
  | [], i, r, e => by simp [quickFind] at e; simp [Instr.findAsking, ← e]
  | e0 :: es, i, r, e => by
    have hfo : P.fieldsOf k = fs := by simp [Program.fieldsOf, hu]
    simp only [quickFind] at e
    split at e
    · rename_i l hk
      have run : ∀ {b : Bool}, eqCells x l = some b → (Op.equal k (.agg ⟨x⟩) e0.key).run P w = .ok b w := by
        intro b hb
        rw [hk, Op.equal, show Op.maxDepth = 9998 + 1 + 1 from rfl, run_equalIn_struct w (9998 + 1) k _ _ (by rw [hfo]; exact hu) hp, hfo]
        exact flatFs_eq 9998 hf rfl rfl hl hb
      split at e
      · rename_i hb
        cases e
        simp [Instr.findAsking, run hb]
      · rename_i hb
        simp [Instr.findAsking, run hb, quickFind_eq hu hp hf hl e]
      · cases e
    · cases e
omit h ht in
theorem quickLook_eq {k : TypeId} {es : List MapEntry} {x : Value} {r : Option (Nat × Value)} (e : quickLook P k es x = some r) (em : Bool) :
    (Instr.checkKey em 10000 k x).run P w = .ok () w ∧ (Instr.findKey k x es).run P w = .ok r w := by
  unfold quickLook at e
  split at e
  · rename_i l
    split at e
    · rename_i n hn
      obtain ⟨fs, hu, hp, hf, hl⟩ := flatK_eq hn
      split at e
      · rename_i hb
        have hb := Nat.eq_of_beq_eq_true hb
        constructor
        · rw [show (10000 : Nat) = 9998 + 1 + 1 from rfl, Instr.checkKey]
          simp only [Sem.run_bind, run_und hu, Result.andThen_ok]
          rw [← Array.forIn_toList]
          have := flatFs_check (w := w) (xs := l) em 9998 hf (by omega)
          rw [this]
          rfl
        · rw [run_findKey_eq w (by rw [hu])]
          exact quickFind_eq hu hp hf (by omega) e
      · cases e
    · cases e
  · cases e
omit h ht in
theorem lookupQ_ok {key elem : TypeId} {es : List MapEntry} {x v : Value} {ok : Bool} (e : lookupQ P key elem es x ok = some v) : (lookS key elem es x ok).run P w = .ok v w ∧ pureV v = true := by
  unfold lookupQ at e
  split at e
  · rename_i r hr
    obtain ⟨h1, h2⟩ := quickLook_eq (w := w) hr (Array.isEmpty ⟨es⟩)
    simp only [lookS, Sem.run_bind, h1, h2, Result.andThen_ok]
    unfold lookEnd at e
    split at e
    · rename_i v' 
      split at e
      · rename_i hp
        cases e
        simp only [Sem.run_pure, true_and]
        cases ok
        · exact hp
        · simp [pureV, pureA, pureL, hp]
      · cases e
    · split at e
      · rename_i z hz
        obtain ⟨hz1, hz2⟩ := run_zeroT hz w
        cases e
        simp only [Sem.run_bind, hz1, Result.andThen_ok, Sem.run_pure, true_and]
        cases ok
        · exact hz2
        · simp [pureV, pureA, pureL, hz2]
      · cases e
  · exact pureO_ok e w
omit ht in
theorem lookupV_run {t : TypeId} {m x m' x' v : Value} {ok : Bool} (hm : VR φ m m') (hk : VR φ x x') (hv : lookupV P st.H t m x ok = some v) :
    (Instr.lookup t m' x' ok).run P w = .ok v w ∧ VR φ v v := by
  unfold lookupV at hv
  split at hv
  · rename_i key elem hty
    split at hv
    · rename_i es hes hpk
      obtain ⟨h1, h2⟩ := lookupQ_ok (w := w) hv
      rw [pureV.eq hpk hk, lookS_run (mapTy_und hty) (mapOf_ok h hm hes)]
      exact ⟨h1, pureV.refl h2⟩
    · cases hv
  · cases hv
theorem lookup_ok {t : TypeId} {x y : Operand} {ok : Bool} {v : Value} (e : oLookup P t x y ok st = some (v, st')) :
    Done P (valOf (Instr.lookup t (a.eval x) (a.eval y) ok)) w₀ W φ w st v st' := by
  unfold oLookup at e
  split at e
  · rename_i m k hx hy
    have hm := opd_ok ht hx
    have hk := opd_ok ht hy
    refine Done.keep h e fun v hv => ?_
    unfold lookupV at hv
    split at hv
    · rename_i key elem hty
      split at hv
      · rename_i es hes hpk
        obtain ⟨h1, h2⟩ := lookupQ_ok (w := w) hv
        rw [pureV.eq hpk hk, lookS_run (mapTy_und hty) (mapOf_ok h hm hes)]
        exact ⟨v, h1, pureV.refl h2⟩
      · cases hv
    · cases hv
  · cases e
omit ht in
theorem makeMap_ok {t : TypeId} {v : Value} (e : oMakeMap st = some (v, st')) : Done P (valOf (Instr.makeMap t none)) w₀ W φ w st v st' := by
  unfold oMakeMap at e
  simp only [Option.some.injEq, Prod.mk.injEq] at e
  obtain ⟨rfl, rfl⟩ := e
  refine ⟨_, .map (some w.heap.size), { w with heap := w.heap.push (.map #[] 0) }, .inl (valOf_run ?_), h.ext_push (w.heap.size, 0), h.push (b := .map [] 0) rfl, ?_, rfl, rfl⟩
  · simp only [Instr.makeMap, newObj, Sem.run_bind, Sem.run, Result.andThen_ok, Sem.run_pure]
  · simp only [VR]; exact ⟨_, 0, rfl, ext_new _ _ _⟩
omit h ht in
theorem updS_run {key elem : TypeId} {es es' : List MapEntry} {c c' : Nat} {x v : Value} {t : TypeId} {r : Nat} (hu : P.underlying t = some (.map key elem))
    (hb : w.heap[r]? = some (.map ⟨es⟩ c)) (e : semPure P (updS key es c x v) = some (es', c')) :
    (Instr.mapUpdate t (.map (some r)) x v).run P w = .ok () { w with heap := w.heap.setIfInBounds r (.map ⟨es'⟩ c') } := by
  have h1 := semPure_run e w
  simp only [updS, Sem.run_bind] at h1
  simp only [Instr.mapUpdate, Sem.run_bind, run_und hu, Result.andThen_ok, run_getMap hb]
  generalize (Instr.checkKey false 10000 key x).run P w = q1 at h1 ⊢
  cases q1 with
  | ok _ w1 =>
    simp only [Result.andThen_ok] at h1 ⊢
    generalize (Instr.findKey key x es).run P w1 = q2 at h1 ⊢
    cases q2 with
    | ok o w2 =>
      simp only [Result.andThen_ok] at h1 ⊢
      cases o with
      | none =>
        simp only [Sem.run_pure, Result.ok.injEq, Prod.mk.injEq] at h1
        obtain ⟨⟨rfl, rfl⟩, rfl⟩ := h1
        simpa using run_setMap (P := P) (.map ⟨es ++ [{ key := x, val := v, born := c }]⟩ (c + 1)) hb
      | some iv =>
        obtain ⟨i, u⟩ := iv
        simp only [Sem.run_bind] at h1 ⊢
        simp only [List.getElem?_toArray] at h1 ⊢
        generalize (Instr.keyThatStays ((Option.map (fun x => x.key) es[i]?).getD x) x).run P w2 = q3 at h1 ⊢
        cases q3 with
        | ok k w3 =>
          simp only [Result.andThen_ok, Sem.run_pure, Result.ok.injEq, Prod.mk.injEq] at h1 ⊢
          obtain ⟨⟨rfl, rfl⟩, rfl⟩ := h1
          simpa [modE] using run_setMap (P := P) (.map ⟨modE es i k v⟩ c) hb
        | _ => cases h1
    | _ => cases h1
  | _ => cases h1
omit h ht in
theorem entS_run {key elem : TypeId} {es es' : List MapEntry} {c c' : Nat} {x v : Value} {t : TypeId} {r : Nat} (hu : P.underlying t = some (.map key elem))
    (hb : w.heap[r]? = some (.map ⟨es⟩ c)) (e : semPure P (entS key elem es c x) = some (v, es', c')) :
    (Instr.mapEntry t (.map (some r)) x).run P w = .ok v { w with heap := w.heap.setIfInBounds r (.map ⟨es'⟩ c') } := by
  have h1 := semPure_run e w
  simp only [entS, Sem.run_bind] at h1
  simp only [Instr.mapEntry, Sem.run_bind, run_und hu, Result.andThen_ok, run_getMap hb]
  generalize (Instr.checkKey false 10000 key x).run P w = q1 at h1 ⊢
  cases q1 with
  | ok _ w1 =>
    simp only [Result.andThen_ok] at h1 ⊢
    generalize (Instr.findKey key x es).run P w1 = q2 at h1 ⊢
    cases q2 with
    | ok o w2 =>
      simp only [Result.andThen_ok] at h1 ⊢
      cases o with
      | none =>
        simp only [Sem.run_bind] at h1 ⊢
        generalize (zeroValue elem).run P w2 = q3 at h1 ⊢
        cases q3 with
        | ok z w3 =>
          simp only [Result.andThen_ok, Sem.run_pure, Result.ok.injEq, Prod.mk.injEq] at h1 ⊢
          obtain ⟨⟨rfl, rfl, rfl⟩, rfl⟩ := h1
          have := run_setMap (P := P) (.map ⟨es ++ [{ key := x, val := z, born := c }]⟩ (c + 1)) hb
          simp only [List.push_toArray, this, Result.andThen_ok]
        | _ => cases h1
      | some iv =>
        obtain ⟨i, u⟩ := iv
        simp only [Sem.run_bind] at h1 ⊢
        simp only [List.getElem?_toArray] at h1 ⊢
        generalize (Instr.keyThatStays ((Option.map (fun x => x.key) es[i]?).getD x) x).run P w2 = q3 at h1 ⊢
        cases q3 with
        | ok k w3 =>
          simp only [Result.andThen_ok, Sem.run_pure, Result.ok.injEq, Prod.mk.injEq] at h1 ⊢
          obtain ⟨⟨rfl, rfl, rfl⟩, rfl⟩ := h1
          have := run_setMap (P := P) (.map ⟨es.modify i fun e => { key := k, val := e.val, born := e.born }⟩ c) hb
          simp only [List.modify_toArray, this, Result.andThen_ok]
        | _ => cases h1
    | _ => cases h1
  | _ => cases h1
omit ht in
theorem map_at {m' : Value} {r : Nat} {es : List MapEntry} {c : Nat} (hm : VR φ (.map (some r)) m') (hg : st.H.get r = some (.map es c)) :
    ∃ r' cp, m' = .map (some r') ∧ φ r = some (r', cp) ∧ w.heap[r']? = some (.map ⟨es⟩ c) := by
  simp only [VR] at hm
  obtain ⟨r', c', rfl, hp⟩ := hm
  obtain ⟨p, o, a, b, d⟩ := h.rel _ _ hg
  rw [hp] at a; cases a
  simp only [BR] at d
  subst d
  exact ⟨r', c', rfl, hp, b⟩
omit h ht in
theorem withH_inv {o : Option Hp} {v : Value} (e : withH o st = some (v, st')) : ∃ H, o = some H ∧ v = undef ∧ st' = { st with H } := by
  cases o with
  | none => cases e
  | some H => simp only [withH, Option.some.injEq, Prod.mk.injEq] at e; exact ⟨H, rfl, e.1.symm, e.2.symm⟩
theorem mapUpd_ok {t : TypeId} {x y z : Operand} {v : Value} (e : oMapUpd P t x y z st = some (v, st')) :
    Done P (unitOf (Instr.mapUpdate t (a.eval x) (a.eval y) (a.eval z))) w₀ W φ w st v st' := by
  unfold oMapUpd at e
  split at e
  · rename_i m k u hx hy hz
    have hm := opd_ok ht hx
    have hk := opd_ok ht hy
    have hu := opd_ok ht hz
    obtain ⟨H, hH, rfl, rfl⟩ := withH_inv e
    unfold mapUpdV at hH
    split at hH
    · rename_i key elem r hty
      split at hH
      · rename_i es c hg
        split at hH
        · rename_i hp
          rw [Bool.and_eq_true] at hp
          split at hH
          · rename_i es' c' hs
            cases hH
            obtain ⟨r', cp, h1, h2, h3⟩ := map_at h hm hg
            rw [h1, pureV.eq hp.1 hk, pureV.eq hp.2 hu]
            exact ⟨φ, undef, _, .inr ⟨unitOf_run (updS_run (mapTy_und hty) h3 hs), rfl⟩, Ext.refl _ _, h.put (p := (r', cp)) hg h2 rfl rfl, pureV.refl rfl, rfl, rfl⟩
          · cases hH
        · cases hH
      · cases hH
    · cases hH
  · cases e
theorem mapEnt_ok {t : TypeId} {x y : Operand} {v : Value} (e : oMapEnt P t x y st = some (v, st')) :
    Done P (valOf (Instr.mapEntry t (a.eval x) (a.eval y))) w₀ W φ w st v st' := by
  unfold oMapEnt at e
  split at e
  · rename_i m k hx hy
    have hm := opd_ok ht hx
    have hk := opd_ok ht hy
    split at e
    · rename_i u H hH
      simp only [Option.some.injEq, Prod.mk.injEq] at e
      obtain ⟨rfl, rfl⟩ := e
      unfold mapEntV at hH
      split at hH
      · rename_i key elem r hty
        split at hH
        · rename_i es c hg
          split at hH
          · rename_i hp
            split at hH
            · rename_i v' es' c' hs
              split at hH
              · rename_i hpv
                simp only [Option.some.injEq, Prod.mk.injEq] at hH
                obtain ⟨rfl, rfl⟩ := hH
                obtain ⟨r', cp, h1, h2, h3⟩ := map_at h hm hg
                rw [h1, pureV.eq hp hk]
                exact ⟨φ, v', _, .inl (valOf_run (entS_run (mapTy_und hty) h3 hs)), Ext.refl _ _, h.put (p := (r', cp)) hg h2 rfl rfl, pureV.refl hpv, rfl, rfl⟩
              · cases hH
            · cases hH
          · cases hH
        · cases hH
      · cases hH
    · cases e
  · cases e
theorem entSt_ok {t : TypeId} {x y z : Operand} {v : Value} (e : oEntSt x y z st = some (v, st')) :
    Done P (unitOf (Instr.entryStore t (a.eval x) (a.eval y) (a.eval z))) w₀ W φ w st v st' := by
  unfold oEntSt at e
  split at e
  · rename_i m k u hx hy hz
    have hm := opd_ok ht hx
    have hk := opd_ok ht hy
    have hu := opd_ok ht hz
    obtain ⟨H, hH, rfl, rfl⟩ := withH_inv e
    unfold entStV at hH
    split at hH
    · rename_i r kd b
      split at hH
      · rename_i es c hg
        split at hH
        · rename_i hp
          split at hH
          · rename_i i hi
            cases hH
            obtain ⟨r', cp, h1, h2, h3⟩ := map_at h hm hg
            simp only [VR] at hk
            rw [h1, hk, pureV.eq hp hu]
            refine ⟨φ, undef, _, .inr ⟨unitOf_run ?_, rfl⟩, Ext.refl _ _, h.put (p := (r', cp)) hg h2 rfl rfl, pureV.refl rfl, rfl, rfl⟩
            have := run_setMap (P := P) (.map ⟨es.modify i fun e => { key := e.key, val := u, born := e.born }⟩ c) h3
            simp only [Instr.entryStore, Sem.run_bind, run_getMap h3, Result.andThen_ok, asInt, asIntOf, Sem.run_pure, List.findIdx?_toArray, hi, List.modify_toArray, this]
          · cases hH
        · cases hH
      · cases hH
    · cases hH
  · cases e
theorem aOp_ok (o : Oper) {v : Value} (e : aOp P o.op o.type st = some (v, st')) : Done P (execOp a.eval o) w₀ W φ w st v st' := by
  obtain ⟨dst, op, type, pos, after, guard⟩ := o
  simp only at e
  cases op with
  | move x => obtain ⟨h1, rfl⟩ := keep_inv e; exact Done.same h rfl (opd_ok ht h1)
  | assign x => obtain ⟨h1, rfl⟩ := keep_inv e; exact Done.same h rfl (opd_ok ht h1)
  | pick c x y => exact pick_ok h ht e
  | alloc t => exact alloc_ok h e
  | box t x => exact box_ok h ht e
  | build t ps => exact build_ok h ht e
  | buildSlice t n ps => exact buildSlice_ok h ht e
  | load t x => exact load_ok h ht e
  | store t x y => exact store_ok h ht e
  | nilCheck x => exact nilCheck_ok h ht _ rfl e
  | binOp op t x y t2 => exact bin_ok h ht e
  | unOp op t x => exact un_ok h ht e
  | convert s d x => exact convert_ok h ht e
  | makeFunc f x y => exact makeFunc_ok h ht e
  | makeSlice t x y => exact makeSlice_ok h ht e
  | slice t x lo hi mx => cases mx with
    | none => exact slice_ok h ht e
    | some m => simp [aOp] at e
  | fieldAddr t x f => exact fieldAddr_ok h ht e
  | field t x f => exact field_ok h ht e
  | indexAddr t x i => exact indexAddr_ok h ht e
  | index t x i => exact index_ok h ht e
  | extract x i => exact extract_ok h ht e
  | call c =>
    simp only [aOp, oCall] at e
    obtain ⟨cal, args, tys⟩ := c
    cases cal with
    | value f => cases e
    | invoke r m => cases e
    | builtin b =>
      cases b with
      | len => exact len_ok h ht e
      | append => exact append_op_ok h ht e
      | copy => exact copy_ok h ht e
      | min => exact minmax_ok h ht (b := .min) e
      | max => exact minmax_ok h ht (b := .max) e
      | _ => simp [oBuiltin] at e
  | makeMap t r => cases r with
    | none => exact makeMap_ok h e
    | some m => simp [aOp] at e
  | lookup t x y ok => exact lookup_ok h ht e
  | mapUpdate t x y z => exact mapUpd_ok h ht e
  | mapEntry t x y => exact mapEnt_ok h ht e
  | entryStore t x y z => exact entSt_ok h ht e
  | _ => simp [aOp] at e
end
end Go.Ev
