import Derived.Test.YtakjjillnllocaaEv7
namespace Go.Ev
open Go
variable {P : Program} {w₀ : World} {W : Sets} {φ : Phi} {st st' : St} {w : World} {a : Act} {H : Hp} {n : Nat}
theorem pureL_cells {z : Value} (h : pureV z = true) : pureL (cellsV z) = true := by
  cases z <;> simp_all [cellsV, pureL, pureV]
  rename_i cs; cases cs; simpa [pureA] using h
theorem pureL_append : ∀ {l m : List Value}, pureL l = true → pureL m = true → pureL (l ++ m) = true
  | [], m, _, h => h
  | x :: l, m, h, k => by
    simp only [pureL, List.cons_append, Bool.and_eq_true] at *
    exact ⟨h.1, pureL_append h.2 k⟩
theorem pureL_repl {z : List Value} (h : pureL z = true) : ∀ n, pureL (repl n z) = true
  | 0 => rfl
  | n + 1 => pureL_append h (pureL_repl h n)
theorem repl_length (z : List Value) : ∀ n, (repl n z).length = n * z.length
  | 0 => by simp [repl]
  | n + 1 => by simp [repl, repl_length z n, Nat.succ_mul]; omega
theorem bigOk_inv {a b c : Nat} (h : bigOk a b c = true) : a < 1048576 ∧ b < 1048576 ∧ c < 1048576 := by
  simp [bigOk] at h; exact ⟨h.1.1, h.1.2, h.2⟩
theorem wrap_nat (n : Nat) (h : n < 1048576) : IntKind.i64.wrap (n : Int) = n := by
  have e : (n : Int) % 18446744073709551616 = n := by omega
  simp [IntKind.wrap, IntKind.bits, IntKind.signed, e]
  omega
section
variable (h : I w₀ W φ st.H st.n w) (ht : TR φ st.T a.tmps)
include h ht
theorem makeSlice_ok {t : TypeId} {l c : Operand} {v : Value} (e : oMakeSlice P t l c st = some (v, st')) :
    Done P (valOf (Instr.makeSlice t (a.eval l) (a.eval c))) w₀ W φ w st v st' := by
  unfold oMakeSlice at e
  split at e
  · rename_i el l c hel hl hc
    split at e
    · rename_i s b z hs hb hz
      split at e
      · rename_i hcond
        simp only [Option.some.injEq, Prod.mk.injEq] at e
        obtain ⟨rfl, rfl⟩ := e
        obtain ⟨hlc, hbig, hzl⟩ := hcond
        obtain ⟨hb1, hb2, hb3⟩ := bigOk_inv hbig
        obtain ⟨hzr, hzp⟩ := run_zeroT hz w
        obtain ⟨i, hir, rfl⟩ := run_bytesT hb w
        have e1 := opd_ok ht hl; simp only [VR] at e1
        have e2 := opd_ok ht hc; simp only [VR] at e2
        refine Done.row (cp := 0) (c' := repl c (cellsV z)) h (Pre.of (pureL.refl (pureL_repl (pureL_cells hzp) c))) (fun s hs => by cases hs) (v' := .slice (some ⟨w.heap.size, 0, none⟩) l c) ?_ ?_
        · have w1 := wrap_nat l (by omega)
          have w2 := wrap_nat c hb1
          have hz2 : z.cells.size = s := by rw [← hzl, cellsV_eq]; simp
          have hmul : (i.bytes : Int) * (c : Int) ≤ 2 ^ 48 := by
            have : i.bytes * c ≤ 1048576 * 1048576 := Nat.mul_le_mul (by omega) (by omega)
            have := Int.ofNat_le.2 this
            rw [Int.natCast_mul] at this
            omega
          have hno : ((decide ((c : Int) < 0) || decide ((i.bytes : Int) * (c : Int) > 2 ^ 48)) || decide ((l : Int) < 0) || decide ((l : Int) > (c : Int))) = false := by
            have q1 : ¬ ((c : Int) < 0) := by omega
            have q2 : ¬ ((i.bytes : Int) * (c : Int) > 2 ^ 48) := by omega
            have q3 : ¬ ((l : Int) < 0) := by omega
            have q4 : ¬ ((l : Int) > (c : Int)) := by omega
            simp only [decide_eq_false q1, decide_eq_false q2, decide_eq_false q3, decide_eq_false q4, Bool.or_false]
          simp only [Instr.makeSlice, Sem.run_bind, run_und (sliceElem_und hel), Result.andThen_ok, e1, e2, asInt, asIntOf, Sem.run_pure, hir, Int.ofNat_eq_natCast, w1, w2]
          rw [hno]
          simp only [Bool.false_eq_true, if_false, Sem.run_bind, run_askRoom, Result.andThen_ok, run_szT hs, Int.toNat_natCast]
          by_cases h0 : c * s = 0
          · have : repl c (cellsV z) = [] := by rw [repl_eq, hzl, h0]; rfl
            have e0 : (Array.map (fun x => (#[] : Array Value)[x % (#[] : Array Value).size]!) (Array.range 0)) = ⟨[]⟩ := by simp
            simp only [h0, if_true, pure_bind]
            rw [e0, this]
            simp [newRow]
          · simp only [h0, if_false, Sem.run_bind, hzr, Result.andThen_ok, Sem.run_pure]
            have e0 := zeroCells_eq z.cells c
            rw [hz2] at e0
            rw [hz2, e0, ← cellsV_eq]
            simp [newRow]
        · simp only [VR]
          exact ⟨_, _, rfl, ⟨⟨0, ext_new _ _ _⟩, rfl, rfl⟩, .inl ⟨by unfold capV; omega, rfl⟩⟩
      · cases e
    · cases e
  · cases e
omit h in
theorem opdO_ok {x : Option Operand} {v : Option Value} (e : opdO x st.T = some v) : (v = none ∧ x.map a.eval = none) ∨ ∃ u u', v = some u ∧ x.map a.eval = some u' ∧ VR φ u u' := by
  cases x with
  | none => simp [opdO] at e; exact .inl ⟨e.symm, rfl⟩
  | some x =>
    simp only [opdO] at e
    split at e
    · rename_i u hu; cases e; exact .inr ⟨u, _, rfl, rfl, opd_ok ht hu⟩
    · cases e
omit h ht in
theorem VR.slice_inv {x : Addr} {n c : Nat} {v' : Value} (k : VR φ (.slice (some x) n c) v') : ∃ x' c', v' = .slice (some x') n c' ∧ AR φ x x' ∧ CR φ x n c c' := by
  simpa only [VR] using k
omit h ht in
theorem bounds_ok {isS : Bool} {len m l r : Nat} {lo hi lo' hi' : Option Value} (hlo : (lo = none ∧ lo' = none) ∨ ∃ u u', lo = some u ∧ lo' = some u' ∧ VR φ u u')
    (hhi : (hi = none ∧ hi' = none) ∨ ∃ u u', hi = some u ∧ hi' = some u' ∧ VR φ u u') {m' : Nat} (hm : m ≤ m') (e : boundsV len m lo hi = some (l, r)) (hlen : len ≤ m) (w : World) :
    (Instr.sliceBounds isS len m' lo' hi' none).run P w = .ok (l, r, m') w ∧ l ≤ r ∧ r ≤ m := by
  have one : ∀ {v v' : Value} {y y' k : Nat} {code : BoundsCode}, VR φ v v' → bndIn v y = some k → y ≤ y' → (Instr.sliceBound v' y' code).run P w = .ok k w ∧ k ≤ y := by
    intro v v' y y' k code hv hk hy
    obtain ⟨q, rfl, hle⟩ := bndIn_inv hk
    simp only [VR] at hv; subst hv
    refine ⟨?_, hle⟩
    have : (k : Int) ≤ y' := by omega
    simp [Instr.sliceBound, asIntOf, this]
  unfold boundsV at e
  split at e
  · cases e
  · rename_i r' hr
    split at e
    · cases e
    · rename_i l' hl
      simp only [Option.some.injEq, Prod.mk.injEq] at e
      obtain ⟨rfl, rfl⟩ := e
      rcases hhi with ⟨rfl, rfl⟩ | ⟨u, u', rfl, rfl, hu⟩
      · simp only [hiV, Option.some.injEq] at hr; subst hr
        rcases hlo with ⟨rfl, rfl⟩ | ⟨x, x', rfl, rfl, hx⟩
        · simp only [loV, Option.some.injEq] at hl; subst hl
          exact ⟨by simp [Instr.sliceBounds], Nat.zero_le _, hlen⟩
        · simp only [loV] at hl
          obtain ⟨h1, h2⟩ := one (code := .sliceB) hx hl (Nat.le_refl _)
          exact ⟨by simp [Instr.sliceBounds, h1], h2, hlen⟩
      · simp only [hiV] at hr
        obtain ⟨g1, g2⟩ := one (code := if isS then .sliceAcap else .sliceAlen) hu hr hm
        rcases hlo with ⟨rfl, rfl⟩ | ⟨x, x', rfl, rfl, hx⟩
        · simp only [loV, Option.some.injEq] at hl; subst hl
          exact ⟨by simp [Instr.sliceBounds, g1], Nat.zero_le _, g2⟩
        · simp only [loV] at hl
          obtain ⟨h1, h2⟩ := one (code := .sliceB) hx hl (Nat.le_refl _)
          exact ⟨by simp [Instr.sliceBounds, g1, h1], h2, g2⟩
theorem slice_ok {t : TypeId} {x : Operand} {lo hi : Option Operand} {v : Value} (e : oSlice P t x lo hi st = some (v, st')) :
    Done P (valOf (Instr.sliceAt t (a.eval x) (lo.map a.eval) (hi.map a.eval) none)) w₀ W φ w st v st' := by
  unfold oSlice at e
  split at e
  · rename_i u l0 h0 hu hl0 hh0
    refine Done.keep h e fun v hv => ?_
    have hlo := opdO_ok ht hl0
    have hhi := opdO_ok ht hh0
    have hur := opd_ok ht hu
    unfold sliceV at hv
    split at hv
    · rename_i el ad len cap hund
      split at hv
      · rename_i s hsp hs
        obtain ⟨ad', c', e1, har, hcr⟩ := VR.slice_inv hur
        have hrun : ∀ {l r m : Nat}, (Instr.sliceBounds true len c' (lo.map a.eval) (hi.map a.eval) none).run P w = .ok (l, r, m) w →
            (Instr.sliceAt t (a.eval x) (lo.map a.eval) (hi.map a.eval) none).run P w = .ok (.slice (some (if m = l then ad' else ad'.add (l * s))) (r - l) (m - l)) w := by
          intro l r m hb
          have : (Instr.slice t (a.eval x) (lo.map a.eval) (hi.map a.eval) none).run P w = .ok (.slice (some (if m = l then ad' else ad'.add (l * s))) (r - l) (m - l)) w := by
            simp only [Instr.slice, Sem.run_bind, run_und hund, Result.andThen_ok, e1, hb, run_szT hs, Sem.run_pure]
            by_cases q : m = l <;> simp [q]
          simp only [Instr.sliceAt, Sem.run_bind, run_und hund, Result.andThen_ok]
          exact this
        split at hv
        · rename_i hcap
          have hc' : c' = cap := by
            rcases hcr with ⟨_, q⟩ | ⟨q, _⟩ | ⟨q, _⟩
            · exact q
            · unfold capV at *; omega
            · unfold capV capR at *; omega
          subst hc'
          split at hv
          · rename_i hlen
            split at hv
            · rename_i l r hb
              cases hv
              obtain ⟨b1, b2, b3⟩ := bounds_ok (P := P) (isS := true) hlo hhi (Nat.le_refl c') hb hlen w
              refine ⟨_, hrun b1, ?_⟩
              simp only [VR]
              refine ⟨_, _, rfl, ?_, .inl ⟨by omega, rfl⟩⟩
              split
              · exact har
              · exact har.add hsp _
            · cases hv
          · cases hv
        · rename_i hcap
          have hlc : len ≤ c' := by
            rcases hcr with ⟨q, _⟩ | ⟨_, _, _, q, _⟩ | ⟨_, q⟩
            · exact absurd q hcap
            · exact q
            · exact q
          split at hv
          · rename_i l r hb
            obtain ⟨b1, b2, b3⟩ := bounds_ok (P := P) (isS := true) hlo hhi hlc hb (Nat.le_refl _) w
            split at hv
            · rename_i hl
              subst hl
              split at hv
              · rename_i hcv
                split at hv
                · cases hv
                · rename_i hr
                  cases hv
                  refine ⟨_, hrun b1, ?_⟩
                  have hne : ¬ c' = 0 := by omega
                  simp only [VR, Nat.zero_mul, Nat.sub_zero, if_neg hne]
                  refine ⟨_, _, rfl, ?_, ?_⟩
                  · have := har.add hsp 0
                    have e2 : addA ad 0 = ad := by rw [spot_none hsp]; rfl
                    rwa [e2] at this
                  · rcases hcr with ⟨q, _⟩ | ⟨q1, q2, q3, q4, q5⟩ | ⟨q, _⟩
                    · exact absurd q hcap
                    · exact .inr (.inl ⟨rfl, q2, q3, by omega, q5⟩)
                    · unfold capV capR at *; omega
              · split at hv
                · cases hv
                · rename_i hr
                  cases hv
                  refine ⟨_, hrun b1, ?_⟩
                  have hne : ¬ c' = 0 := by omega
                  simp only [VR, Nat.zero_mul, Nat.sub_zero, if_neg hne]
                  refine ⟨_, _, rfl, ?_, .inr (.inr ⟨rfl, by omega⟩)⟩
                  have := har.add hsp 0
                  have e2 : addA ad 0 = ad := by rw [spot_none hsp]; rfl
                  rwa [e2] at this
            · split at hv
              · rename_i hl hlr
                cases hv
                refine ⟨_, hrun b1, ?_⟩
                have hne : ¬ c' = l := by omega
                simp only [VR, if_neg hne]
                exact ⟨_, _, rfl, har.add hsp _, .inr (.inr ⟨rfl, by omega⟩)⟩
              · cases hv
          · cases hv
      · cases hv
    · rename_i k el ad hund
      split at hv
      · rename_i s hsp hs
        split at hv
        · rename_i l r hb
          split at hv
          case isFalse => cases hv
          rename_i hkc
          cases hv
          simp only [VR] at hur
          obtain ⟨ad', e1, har⟩ := hur
          obtain ⟨b1, b2, b3⟩ := bounds_ok (P := P) (isS := false) hlo hhi (Nat.le_refl k) hb (Nat.le_refl _) w
          refine ⟨.slice (some (if k = l then ad' else ad'.add (l * s))) (r - l) (k - l), ?_, ?_⟩
          · simp only [Instr.sliceAt, Sem.run_bind, run_und hund, Result.andThen_ok, e1, Instr.sureAddr, Sem.run_pure, b1, run_szT hs]
          · simp only [VR]
            refine ⟨_, _, rfl, ?_, .inl ⟨?_, rfl⟩⟩
            · split
              · exact har
              · exact har.add hsp _
            · omega
        · cases hv
      · cases hv
    · cases hv
  · cases e
end
end Go.Ev
