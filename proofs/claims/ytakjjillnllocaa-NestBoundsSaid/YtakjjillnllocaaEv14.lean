import Derived.Test.YtakjjillnllocaaEv13
namespace Go.Ev
open Go
variable {P : Program} {w₀ : World} {W : Sets} {φ : Phi} {st st' : St} {w : World} {H : Hp} {n : Nat} {rec : Rec}
  {f : FuncId} {t : Array Value} {k : List Item} {ds : List Deferred} {kd : CallKind} {ro : Option Nat} {cs : List Frame} {N : Nat}
theorem wanted_ok {ops : Array Oper} {o : Oper} {T : Tm} {b : Bool} (ht : TR φ T t) (e : wantedA ops.toList o.guard T = some b) : Region.wanted o (yielded ops t) = b := by
  unfold wantedA at e
  unfold Region.wanted
  split at e
  · rename_i hg; cases e; simp [hg]
  · rename_i j want hg
    simp only [hg]
    split at e
    · rename_i oj hj
      split at e
      · rename_i d hd
        split at e
        · rename_i c hc
          cases e
          obtain ⟨v', a, b⟩ := ht d _ hc
          simp only [VR] at b; subst b
          have hj' : ops[j]? = some oj := by simpa using hj
          simp [yielded, hj', hd, a]
        · rename_i hc
          cases e
          obtain ⟨v', a, b⟩ := ht d _ hc
          simp only [VR, VRA, VRL] at b
          obtain ⟨c', rfl, b⟩ := b
          have hj' : ops[j]? = some oj := by simpa using hj
          simp [yielded, hj', hd, a]
        · cases e
      · cases e
    · cases e
theorem put_ok {T : Tm} {dst : Option Tmp} {v v' : Value} (ht : TR φ T t) (hN : inN t.size dst = true) (hv : VR φ v v') :
    TR φ (putT T dst v) ((⟨t, []⟩ : Act).put dst v').tmps ∧ ((⟨t, []⟩ : Act).put dst v').tmps.size = t.size := by
  cases dst with
  | none => exact ⟨ht, rfl⟩
  | some d =>
    simp only [inN, Nat.blt_eq] at hN
    exact ⟨ht.put hN hv, by simp [Act.put]⟩
theorem evOp_ok (hs : Snd P rec) {ops : Array Oper} {i : Nat} {rest : List Nat} {o : Oper} (hS : S w₀ W φ st N t ds w) (ho : ops[i]? = some o) (e : evOp P rec N ops.toList o st = some st') :
    ∃ φ' w' t', Ext φ st.n φ' st'.n ∧ S w₀ W φ' st' N t' ds w' ∧ Steps P (lone (fr f t (.inRegion ops (i :: rest) :: k) ds kd ro) cs w) (lone (fr f t' (.inRegion ops rest :: k) ds kd ro) cs w') := by
  unfold evOp at e
  split at e
  · cases e
  rename_i hN
  rw [← hS.sz] at hN
  split at e
  · cases e
  · rename_i hwa
    cases e
    obtain ⟨p1, p2⟩ := put_ok (v := undef) (v' := undef) hS.tr hN (pureV.refl rfl)
    exact ⟨φ, w, _, Ext.refl _ _, ⟨hS.i, p1, p2.trans hS.sz, hS.d⟩, .one (st_op_skip ho (wanted_ok hS.tr hwa))⟩
  · rename_i hwa
    have hw := wanted_ok hS.tr hwa
    unfold evOp1 at e
    split at e
    · cases e
    rename_i v s hc
    cases e
    -- the value goes into the slot
    have fin : ∀ {φ' : Phi} {w' : World} {v' : Value}, Ext φ st.n φ' s.n → I w₀ W φ' s.H s.n w' → VR φ' v v' → s.T = st.T → s.D = st.D →
        Steps P (lone (fr f t (.inRegion ops (i :: rest) :: k) ds kd ro) cs w) (lone (fr f ((⟨t, []⟩ : Act).put o.dst v').tmps (.inRegion ops rest :: k) ds kd ro) cs w') →
        ∃ φ' w' t', Ext φ st.n φ' s.n ∧ S w₀ W φ' { s with T := putT s.T o.dst v } N t' ds w' ∧ Steps P (lone (fr f t (.inRegion ops (i :: rest) :: k) ds kd ro) cs w) (lone (fr f t' (.inRegion ops rest :: k) ds kd ro) cs w') := by
      intro φ' w' v' hle hI hv hT hD hst
      obtain ⟨p1, p2⟩ := put_ok (dst := o.dst) (v := v) (v' := v') (hS.tr.mono hle.le) hN hv
      exact ⟨φ', w', _, hle, ⟨hI, by rw [hT]; exact p1, p2.trans hS.sz, by rw [hD]; exact hS.d.mono hle.le⟩, hst⟩
    have plain : aOp P o.op o.type st = some (v, s) → (∀ c, o.op ≠ .defer c) →
        ∃ φ' w' t', Ext φ st.n φ' s.n ∧ S w₀ W φ' { s with T := putT s.T o.dst v } N t' ds w' ∧ Steps P (lone (fr f t (.inRegion ops (i :: rest) :: k) ds kd ro) cs w) (lone (fr f t' (.inRegion ops rest :: k) ds kd ro) cs w') := by
      intro h hd
      obtain ⟨φ', v', w', hr, hle, hI, hv, hT, hD⟩ := aOp_ok (a := ⟨t, []⟩) hS.i hS.tr o h
      exact fin hle hI hv hT hD (.one (st_op_value ho hw hd hr))
    unfold cOp at hc
    split at hc
    · rename_i c hop
      have hd : ∀ c, o.op ≠ .defer c := by intro c x; rw [hop] at x; cases x
      unfold cCall at hc
      split at hc
      · rename_i fo hcal
        split at hc
        · rename_i vf args hvf hargs
          have hf' := opd_ok (a := ⟨t, []⟩) hS.tr hvf
          have ha' := opds_ok (a := ⟨t, []⟩) hS.tr hargs
          unfold callV at hc
          split at hc
          · rename_i g first cap
            simp only [VR] at hf'
            obtain ⟨f', a', b', e1, e2, e3, e4⟩ := hf'
            simp only [FR] at e2; subst e2
            have l1 : VRL φ first.toList a'.toList := by cases first; simpa only [VRA] using e3
            have l2 : VRL φ cap.toList b'.toList := by cases cap; simpa only [VRA] using e4
            obtain ⟨hok, ⟨fn, cb, q1, q2, q3⟩, hT, hD⟩ := callF_ok hs hc
            obtain ⟨φ', w', v', hle, hI, hv, hst⟩ := hok w₀ W φ w _ (fr f t (.inRegion ops (i :: rest) :: k) ds kd ro) cs hS.i ((l1.append ha').append l2)
            refine fin hle hI hv hT hD (.head (st_op_enter ho hw hd (args := ⟨a'.toList ++ List.map (⟨t, []⟩ : Act).eval c.args.toList ++ b'.toList⟩) (g := g) (w' := w) ?_) ?_)
            · have hn : ¬ fn.name = "runtime.NumGoroutine" := by simpa using q3
              have e5 : a' ++ Array.map (⟨t, []⟩ : Act).eval c.args ++ b' = ⟨a'.toList ++ List.map (⟨t, []⟩ : Act).eval c.args.toList ++ b'.toList⟩ := by apply Array.ext'; simp
              simp [execOp, hop, resolve, hcal, e1, Deferred.ofValue, invoke, callFunc, q1, q2, hn]
            · rw [← fr_finish ho]; exact hst
          · rename_i l
            simp only [VR] at hf'
            obtain ⟨f', a', b', e1, ⟨l', cp, e2, e5⟩, e3, e4⟩ := hf'
            subst e2
            have n1 : a' = #[] := by simp only [VRA, VRL] at e3; apply Array.ext'; simpa using e3
            have n2 : b' = #[] := by simp only [VRA, VRL] at e4; apply Array.ext'; simpa using e4
            subst n1 n2
            obtain ⟨g, tm, as, bd, hr, hT, hD, hok⟩ := yieldF_ok hs hc hS.i ha' e5
            obtain ⟨φ', w', v', hle, hI, hv, hst⟩ := hok (fr f t (.inRegion ops (i :: rest) :: k) ds kd ro) cs
            refine fin hle hI hv hT hD (.head (st_op_round ho hw hd (l := l') (g := g) (tm := tm) (as := as) (bd := bd) (w' := w) ?_) ?_)
            · have e6 : Array.map (⟨t, []⟩ : Act).eval c.args = ⟨List.map (⟨t, []⟩ : Act).eval c.args.toList⟩ := by apply Array.ext'; simp
              simp only [execOp, hop, resolve, hcal, e1, Deferred.ofValue, pure_bind, invoke, e6, Array.empty_append]
              exact hr
            · rw [← fr_finish ho]; exact hst
          · cases hc
        · cases hc
      · refine plain ?_ hd
        rw [hop]; simp only [aOp]; exact hc
    · rename_i x hop
      refine plain hc ?_
      intro c x
      rw [x] at hc; simp [aOp] at hc
theorem evOps_ok (hs : Snd P rec) {ops : Array Oper} : ∀ {l : List Oper} {pre : List Oper} {st : St} {φ : Phi} {w : World} {t : Array Value}, ops.toList = pre ++ l → S w₀ W φ st N t ds w →
    evOps P rec N ops.toList l st = some st' →
    ∃ φ' w' t', Ext φ st.n φ' st'.n ∧ S w₀ W φ' st' N t' ds w' ∧ Steps P (lone (fr f t (.inRegion ops (List.range' pre.length l.length) :: k) ds kd ro) cs w) (lone (fr f t' k ds kd ro) cs w')
  | [], pre, st, φ, w, t, hl, hS, e => by
    simp only [evOps, Option.some.injEq] at e; subst e
    exact ⟨φ, w, t, Ext.refl _ _, hS, .one st_region_end⟩
  | o :: l, pre, st, φ, w, t, hl, hS, e => by
    simp only [evOps] at e
    split at e
    · cases e
    · rename_i s h1
      have ho : ops[pre.length]? = some o := by rw [← Array.getElem?_toList, hl]; simp
      obtain ⟨φ1, w1, t1, hle, hS1, hst⟩ := evOp_ok (f := f) (k := k) (kd := kd) (ro := ro) (cs := cs) (rest := List.range' (pre.length + 1) l.length) hs hS ho h1
      obtain ⟨φ2, w2, t2, hle2, hS2, hst2⟩ := evOps_ok hs (l := l) (pre := pre ++ [o]) (by simp [hl]) hS1 e
      refine ⟨φ2, w2, t2, hle.trans hle2, hS2, ?_⟩
      simp only [List.length_append, List.length_cons, List.length_nil, Nat.zero_add] at hst2
      exact Steps.trans hst hst2
end Go.Ev
