import Derived.Test.YtakjjillnllocaaEv23
namespace Go.Ev
open Go
variable {P : Program} {cal : Cal} {rec : Rec} {ρ : Type} {r : ρ}
def lift (st : St) (o : Option (Value × St)) : Option (Value × St) := match o with
  | some r => some (r.1, { st with H := r.2.H, n := r.2.n })
  | none => none
theorem appendTo_st {st : St} {e s a len cap old new n} : appendTo st e s a len cap old new n = lift st (appendTo (bare st.H st.n) e s a len cap old new n) := by
  simp only [appendTo, bare]
  cases Nat.blt cap capV with
  | true =>
    simp only
    cases Nat.ble (len + n) cap with
    | true =>
      simp only
      cases storeN st.H (addA a (len * s)) new <;> rfl
    | false => rfl
  | false =>
    simp only
    split
    · split <;> rfl
    · rfl
theorem appendV_st {st : St} {t t2 : TypeId} {x y : Value} : appendV P st t t2 x y = lift st (appendV P (bare st.H st.n) t t2 x y) := by
  have e1 : (bare st.H st.n).H = st.H := rfl
  simp only [appendV, appendTo_st (st := st), e1]
  split
  · split
    · split
      · split
        · split
          · rfl
          · split <;> rfl
        · split <;> rfl
        · rfl
      · rfl
    · rfl
  · rfl
theorem copyV_st {st : St} {t : TypeId} {x y : Value} : copyV P st t x y = lift st (copyV P (bare st.H st.n) t x y) := by
  simp only [copyV]
  split
  · split
    · split
      · simp only [bare]
        split
        · split <;> rfl
        · rfl
      · rfl
    · rfl
  · rfl
theorem makeSlice_st {st : St} {t : TypeId} {x y : Value} : makeSliceP P t x y st = lift st (makeSliceP P t x y (bare st.H st.n)) := by
  simp only [makeSliceP]
  split
  · split
    · split <;> rfl
    · rfl
  · rfl
theorem lift_eq {st : St} {o : Option (Value × St)} {k : Value → Hp → Nat → Option ρ} (e : stK o k = some r) : ∃ v s, lift st o = some (v, s) ∧ s.T = st.T ∧ s.D = st.D ∧ k v s.H s.n = some r := by
  simp only [stK, bindO_eq] at e
  obtain ⟨⟨v, s⟩, rfl, h⟩ := e
  exact ⟨v, _, rfl, rfl, rfl, h⟩
theorem opds_cons {T : Tm} {x : Operand} {l : List Operand} {vs : List Value} (h : opds T (x :: l) = some vs) : ∃ v vs', vs = v :: vs' ∧ opd x T = some v ∧ opds T l = some vs' := by
  simp only [opds] at h
  split at h
  · cases h
  · rename_i v hv
    split at h
    · cases h
    · rename_i us hus; cases h; exact ⟨v, us, rfl, hv, hus⟩
theorem opds_one {T : Tm} {l : List Operand} {v : Value} (h : opds T l = some [v]) : ∃ x, l = [x] ∧ opd x T = some v := by
  cases l with
  | nil => simp [opds] at h
  | cons x l =>
    obtain ⟨_, _, e, h1, h2⟩ := opds_cons h
    cases e
    cases l with
    | nil => exact ⟨x, rfl, h1⟩
    | cons y l => obtain ⟨_, _, e, _⟩ := opds_cons h2; cases e
theorem opds_two {T : Tm} {l : List Operand} {v u : Value} (h : opds T l = some [v, u]) : ∃ x y, l = [x, y] ∧ opd x T = some v ∧ opd y T = some u := by
  cases l with
  | nil => simp [opds] at h
  | cons x l =>
    obtain ⟨_, _, e, h1, h2⟩ := opds_cons h
    cases e
    obtain ⟨y, rfl, h3⟩ := opds_one h2
    exact ⟨x, y, rfl, h1, h3⟩
theorem pureSem_eq {v : Value} {m : Sem Value} {u : Value} (h : pureSem P v m = some u) : pureV v = true ∧ semPure P m = some u ∧ pureV u = true := by
  unfold pureSem at h
  split at h
  · rename_i hv
    split at h
    · rename_i x hx
      split at h
      · rename_i hu; cases h; exact ⟨hv, hx, hu⟩
      · cases h
    · cases h
  · cases h
theorem callFK_ok (hc : cal.Ok P rec) {f : FuncId} {args : List Value} {st : St} {k : Value → Hp → Nat → Option ρ} (e : callFK P cal f args st.H st.n k = some r) :
    ∃ v s, callF P rec f args st = some (v, s) ∧ s.T = st.T ∧ s.D = st.D ∧ k v s.H s.n = some r := by
  unfold callFK at e
  unfold callF
  split at e
  · rename_i hp
    rw [hp]
    simp only [bindO_eq] at e
    obtain ⟨x, hx, hk⟩ := e
    exact ⟨_, _, hc.call _ _ st _ hx, rfl, rfl, hk⟩
  · rename_i hp
    rw [hp]
    simp only [bindO_eq] at e
    obtain ⟨x, hx, hk⟩ := e
    split at hk
    · rename_i hpv
      have := hc.call f args { T := .nil, H := .nil, n := 0, D := [] } _ hx
      simp only [this, hpv]
      exact ⟨_, _, rfl, rfl, rfl, hk⟩
    · cases hk
theorem yieldF_ok' (hc : cal.Ok P rec) {l : Nat} {args : List Value} {st : St} {k : Value → Hp → Nat → Option ρ}
    (e : stK (yieldF (fun | some l => cal.body l | none => fun _ _ _ => none) P l args (bare st.H st.n)) k = some r) :
    ∃ v s, yieldF rec P l args st = some (v, s) ∧ s.T = st.T ∧ s.D = st.D ∧ k v s.H s.n = some r := by
  simp only [stK, bindO_eq] at e
  obtain ⟨⟨v, s⟩, h, hk⟩ := e
  unfold yieldF at h ⊢
  have e1 : (bare st.H st.n).H = st.H := rfl
  have e2 : (bare st.H st.n).n = st.n := rfl
  simp only [e1, e2] at h
  split at h
  · split at h
    · split at h
      · rename_i s1 h1
        have h1' := hc.body _ _ _ _ _ h1
        split at h
        · rename_i H1 hr1 hs1
          split at h
          · rename_i ex s2 h2
            have h2' := hc.body _ _ _ _ _ h2
            split at h
            · cases h
            · rename_i j hj
              split at h
              · rename_i H2 hH2
                simp only [Option.some.injEq, Prod.mk.injEq] at h
                obtain ⟨rfl, rfl⟩ := h
                refine ⟨.bool j.isNone, { st with H := H2, n := s2.n }, ?_, rfl, rfl, hk⟩
                simp only [*]
              · cases h
          · cases h
        · cases h
      · cases h
    · cases h
  · cases h
theorem callVK_ok (hc : cal.Ok P rec) {v : Value} {args : List Value} {st : St} {k : Value → Hp → Nat → Option ρ} (e : callVK P cal v args st.H st.n k = some r) :
    ∃ v' s, callV P rec v args st = some (v', s) ∧ s.T = st.T ∧ s.D = st.D ∧ k v' s.H s.n = some r := by
  unfold callVK at e
  unfold callV
  split at e
  · exact callFK_ok hc e
  · exact yieldF_ok' hc e
  · cases e
theorem builtinK_ok {b : Builtin} {c : Call} {type : TypeId} {st : St} {vs : List Value} {k : Value → Hp → Nat → Option ρ} (hv : opds st.T c.args.toList = some vs)
    (e : builtinK P b c.argTypes.toList c type vs st.H st.n k = some r) :
    ∃ v' s, oBuiltin P b c type st = some (v', s) ∧ s.T = st.T ∧ s.D = st.D ∧ k v' s.H s.n = some r := by
  unfold builtinK at e
  split at e
  · rename_i t _ v hts
    obtain ⟨x, hx, hv⟩ := opds_one hv
    simp only [bindO_eq] at e
    obtain ⟨u, hu, hk⟩ := e
    exact ⟨u, st, by simp only [oBuiltin, oLen, hx, hts, hv, hu, keep], rfl, rfl, hk⟩
  · rename_i t t2 v u hts
    obtain ⟨x, y, hx, hv, hu⟩ := opds_two hv
    obtain ⟨v', s, h, a, b, c⟩ := lift_eq e
    exact ⟨v', s, by simp only [oBuiltin, oAppend, hx, hts, hv, hu]; rw [appendV_st]; exact h, a, b, c⟩
  · rename_i t _ v u hts
    obtain ⟨x, y, hx, hv, hu⟩ := opds_two hv
    obtain ⟨v', s, h, a, b, c⟩ := lift_eq e
    exact ⟨v', s, by simp only [oBuiltin, oCopy, hx, hts, hv, hu]; rw [copyV_st]; exact h, a, b, c⟩
  all_goals first
    | (cases e; done)
    | (simp only [oBuiltin, oMinMax, hv]
       split at e
       · rename_i hp
         split at e
         · rename_i u hu
           split at e
           · rename_i hq
             refine ⟨u, st, ?_, rfl, rfl, e⟩
             simp only [hp]
             erw [hu]
             simp only [hq]
           · cases e
         · cases e
       · cases e)
theorem opE_ok (hc : cal.Ok P rec) {op : Op} {type : TypeId} {st : St} {k : Value → Hp → Nat → Option ρ} (e : opE P cal op type st.T st.H st.n k = some r) :
    ∃ v s, cOp P rec op type st = some (v, s) ∧ s.T = st.T ∧ s.D = st.D ∧ k v s.H s.n = some r := by
  unfold opE at e
  split at e
  case h_22 =>
    rename_i c
    simp only [cOp, cCall]
    unfold callE at e
    split at e
    · rename_i f hf
      simp only [getK_eq] at e
      obtain ⟨v, hv, vs, hvs, e⟩ := e
      simp only [hf, hv, hvs]
      exact callVK_ok hc e
    · rename_i b hb
      simp only [getK_eq] at e
      obtain ⟨vs, hvs, e⟩ := e
      obtain ⟨v', s, h, r⟩ := builtinK_ok hvs e
      exact ⟨v', s, by simp only [hb, oCall]; exact h, r⟩
    · cases e
  all_goals simp only [cOp, aOp]
  all_goals try simp only [allocK, boxK, rowK, newK, binK, bindO_eq, getK_eq] at e
  · obtain ⟨v, hv, hk⟩ := e; exact ⟨v, st, by rw [hv]; rfl, rfl, rfl, hk⟩
  · obtain ⟨v, hv, hk⟩ := e; exact ⟨v, st, by rw [hv]; rfl, rfl, rfl, hk⟩
  · obtain ⟨c, hc, a, ha, b, hb, v, hv, hk⟩ := e
    refine ⟨v, st, ?_, rfl, rfl, hk⟩
    unfold pickV at hv
    unfold oPick
    rw [hc]
    split at hv
    · cases hv; simp only [ha]; rfl
    · cases hv; simp only [hb]; rfl
    · cases hv
  · obtain ⟨z, hz, hk⟩ := e
    exact ⟨_, pushB st (cellsV z) _ none, by simp only [oAlloc, hz], rfl, rfl, hk⟩
  · obtain ⟨v, hv, hk⟩ := e
    exact ⟨_, pushB st (cellsV v) _ none, by simp only [oBox, hv], rfl, rfl, hk⟩
  · obtain ⟨ps, hps, v, hv, hk⟩ := e
    exact ⟨v, st, by rw [buildV_of hps hv]; rfl, rfl, rfl, hk⟩
  · obtain ⟨ps, hps, ⟨c, e1⟩, hr, hk⟩ := e
    unfold rowOf at hr
    unfold oBuildSlice
    split at hr
    · rename_i el hel
      simp only [hel, hps]
      split at hr
      · rename_i s z hs hz
        split at hr
        · rename_i hh
          split at hr
          · rename_i cc hcc
            cases hr
            exact ⟨_, pushB st c e1 none, by simp only [hs, hz, if_pos hh, hcc], rfl, rfl, hk⟩
          · cases hr
        · cases hr
      · cases hr
    · cases hr
  · obtain ⟨p, hp, a, ha, v, hv, hk⟩ := e
    unfold addrV at ha
    split at ha
    · cases ha
      exact ⟨v, st, by simp only [oLoad, hp, hv]; rfl, rfl, rfl, hk⟩
    · cases ha
  · obtain ⟨a, ha, v, hv, H', hH, hk⟩ := e
    unfold storeP at hH
    split at hH
    · split at hH
      · rename_i s hs
        split at hH
        · rename_i hl
          exact ⟨undef, { st with H := H' }, by simp only [oStore, ha, hv, hs, if_pos hl, hH], rfl, rfl, hk⟩
        · cases hH
      · cases hH
    · cases hH
  · obtain ⟨v, hv, u, hu, hk⟩ := e
    unfold nilV at hu
    unfold oNilCheck
    rw [hv]
    split at hu
    · cases hu; exact ⟨_, st, rfl, rfl, rfl, hk⟩
    · cases hu; exact ⟨_, st, rfl, rfl, rfl, hk⟩
    · cases hu
  · obtain ⟨a, ha, b, hb, v, hv, hk⟩ := e
    exact ⟨v, st, by simp only [oBin, ha, hb, hv]; rfl, rfl, rfl, hk⟩
  · obtain ⟨a, ha, v, hv, hk⟩ := e
    obtain ⟨h1, h2, h3⟩ := pureSem_eq hv
    exact ⟨v, st, by simp only [oUn, ha, h1, viaPure, h2, h3], rfl, rfl, hk⟩
  · obtain ⟨a, ha, v, hv, hk⟩ := e
    obtain ⟨h1, h2, h3⟩ := pureSem_eq hv
    exact ⟨v, st, by simp only [oConvert, ha, h1, viaPure, h2, h3], rfl, rfl, hk⟩
  · split at e
    · simp only [getK_eq] at e
      obtain ⟨a, ha, b, hb, hk⟩ := e
      exact ⟨_, st, by simp only [oMakeFunc, ha, hb], rfl, rfl, hk⟩
    · cases e
  · obtain ⟨l, hl, c, hcc, e⟩ := e
    obtain ⟨v', s, h, a, b, c⟩ := lift_eq e
    refine ⟨v', s, ?_, a, b, c⟩
    rw [← makeSlice_st] at h
    unfold makeSliceP at h
    unfold oMakeSlice
    rw [hl, hcc]
    split at h
    · rename_i el l1 c1 hel
      simp only [hel]
      exact h
    · cases h
  · obtain ⟨v, hv, l, hl, h, hh, u, hu, hk⟩ := e
    exact ⟨u, st, by simp only [oSlice, hv, hl, hh, hu]; rfl, rfl, rfl, hk⟩
  · obtain ⟨v, hv, u, hu, hk⟩ := e
    exact ⟨u, st, by simp only [oFieldAddr, hv, hu]; rfl, rfl, rfl, hk⟩
  · obtain ⟨v, hv, u, hu, hk⟩ := e
    exact ⟨u, st, by simp only [oField, hv, hu]; rfl, rfl, rfl, hk⟩
  · obtain ⟨v, hv, i, hi, u, hu, hk⟩ := e
    exact ⟨u, st, by simp only [oIndexAddr, hv, hi, hu]; rfl, rfl, rfl, hk⟩
  · obtain ⟨v, hv, i, hi, u, hu, hk⟩ := e
    exact ⟨u, st, by simp only [oIndex, hv, hi, hu]; rfl, rfl, rfl, hk⟩
  · obtain ⟨v, hv, u, hu, hk⟩ := e
    unfold tupV at hu
    split at hu
    · exact ⟨u, st, by simp only [oExtract, hv, hu]; rfl, rfl, rfl, hk⟩
    · cases hu
  · exact ⟨_, { st with H := st.H.set st.n (some (.map [] 0)), n := st.n + 1 }, rfl, rfl, rfl, e⟩
  · obtain ⟨m, hm, x, hx, u, hu, hk⟩ := e
    exact ⟨u, st, by simp only [oLookup, hm, hx, hu]; rfl, rfl, rfl, hk⟩
  · obtain ⟨m, hm, x, hx, v, hv, H', hH, hk⟩ := e
    exact ⟨undef, { st with H := H' }, by simp only [oMapUpd, hm, hx, hv, hH]; rfl, rfl, rfl, hk⟩
  · obtain ⟨m, hm, x, hx, r, hr, hk⟩ := e
    exact ⟨r.1, { st with H := r.2 }, by simp only [oMapEnt, hm, hx, hr], rfl, rfl, hk⟩
  · obtain ⟨m, hm, x, hx, v, hv, H', hH, hk⟩ := e
    exact ⟨undef, { st with H := H' }, by simp only [oEntSt, hm, hx, hv, hH]; rfl, rfl, rfl, hk⟩
  · cases e
end Go.Ev
