import Derived.Test.YtakjjillnllocaaEv14
namespace Go.Ev
open Go
variable {P : Program} {w₀ : World} {W : Sets} {φ : Phi} {st st' : St} {w : World} {H : Hp} {n : Nat} {rec : Rec}
  {f : FuncId} {t : Array Value} {k : List Item} {ds : List Deferred} {kd : CallKind} {cs : List Frame} {N : Nat}
theorem rangeIn_ok {ro ro' : Option Nat} {d : Nat} {s : St} (hS : S w₀ W φ st N t ds w) (hro : RO φ ro ro') (e : rangeIn ro st = some (d, s)) (params : Array Tmp) (assign body : Code) :
    ∃ φ' l mark w', Ext φ st.n φ' (s.n + 1) ∧ S w₀ W φ' { s with H := s.H.set s.n (some (.loop .ready none f s.T N params assign body d)), n := s.n + 1 } N t (mark ++ ds) w' ∧
      φ' s.n = some (l, 0) ∧ (Instr.enterLoop f t params assign body ro').run P w = .ok (l, mark) w' := by
  -- the loop's record
  have rec1 : ∀ {φ1 : Phi} {w1 : World} {ds1 : List Deferred} {dr c : Nat}, S w₀ W φ1 s N t ds1 w1 → φ1 d = some (dr, c) →
      S w₀ W (ext φ1 s.n (w1.heap.size, 0)) { s with H := s.H.set s.n (some (.loop .ready none f s.T N params assign body d)), n := s.n + 1 } N t ds1
        { w1 with heap := w1.heap.push (.loop { state := .ready, pending := none, fn := f, tmps := t, params, assign, body, defers := dr }) } := by
    intro φ1 w1 ds1 dr c h hd
    have hle := ext_le (p := (w1.heap.size, 0)) h.i.free
    refine ⟨h.i.push ⟨_, rfl, rfl, rfl, rfl, h.sz, h.tr, rfl, rfl, rfl, c, hd⟩, h.tr.mono hle, h.sz, h.d.mono hle⟩
  cases ro with
  | none =>
    simp only [rangeIn, Option.some.injEq, Prod.mk.injEq] at e
    obtain ⟨rfl, rfl⟩ := e
    simp only [RO] at hro; subst hro
    have hle := ext_le (p := (w.heap.size, 0)) hS.i.free
    have h1 : S w₀ W (ext φ st.n (w.heap.size, 0)) { st with H := st.H.set st.n (some .deferred), n := st.n + 1, D := st.n :: st.D } N t ({ target := .collected w.heap.size, args := #[] } :: ds) { w with heap := w.heap.push (.deferred (some [])) } :=
      ⟨hS.i.push rfl, hS.tr.mono hle, hS.sz, ⟨(w.heap.size, 0), ds, rfl, ext_new _ _ _, hS.d.mono hle⟩⟩
    refine ⟨_, _, [{ target := .collected w.heap.size, args := #[] }], _, (hS.i.ext_push _).trans (h1.i.ext_push _), rec1 h1 (ext_new _ _ _), ext_new _ _ _, ?_⟩
    simp [Instr.enterLoop]; rfl
  | some l0 =>
    simp only [rangeIn] at e
    split at e
    · rename_i x1 x2 x3 x4 x5 x6 x7 x8 d' hl0
      simp only [Option.some.injEq, Prod.mk.injEq] at e
      obtain ⟨rfl, rfl⟩ := e
      obtain ⟨l', c, rfl, hl'⟩ := hro
      obtain ⟨p, r, hp, hr, _, _, _, _, _, _, _, _, c2, hd⟩ := loop_of hS.i hl0
      rw [hl'] at hp; cases hp
      simp only at hr
      refine ⟨_, _, [], _, hS.i.ext_push _, rec1 hS hd, ext_new _ _ _, ?_⟩
      simp [Instr.enterLoop, run_getLoop hr]
    · cases e
theorem rangeE_ok (hs : Snd P rec) {ro : Option Nat} {x : Operand} {params : Array Tmp} {assign body : Code} {ex : Ex} (e : rangeE P rec ro f x params assign body st = some (ex, st')) :
    CodeOk P ro f (.rangeFunc x params assign body) st ex st' := by
  intro w₀ W φ w t ds kd k cs ro' hS hro
  unfold rangeE at e
  split at e
  case h_2 => cases e
  rename_i g first cap hx
  split at e
  · cases e
  rename_i d s hin
  split at e
  · cases e
  rename_i v s2 hcall
  obtain ⟨φ1, l, mark, w1, hle1, hS1, hl, hrun⟩ := rangeIn_ok (P := P) (f := f) hS hro hin params assign body
  have hx' := opd_ok (a := ⟨t, []⟩) hS.tr hx
  simp only [VR] at hx'
  obtain ⟨f', a', b', e1, e2, e3, e4⟩ := hx'
  simp only [FR] at e2; subst e2
  have l1 : VRL φ first.toList a'.toList := by cases first; simpa only [VRA] using e3
  have l2 : VRL φ cap.toList b'.toList := by cases cap; simpa only [VRA] using e4
  have ly : VR φ1 (.func (.yield s.n) #[] #[]) (.func (.yield l) #[] #[]) := by
    simp only [VR]
    exact ⟨_, _, _, rfl, ⟨l, 0, rfl, hl⟩, VRL.nil (φ := φ1), VRL.nil (φ := φ1)⟩
  obtain ⟨hok, ⟨fn, cb, q1, q2, q3⟩, hT, hD⟩ := callF_ok hs hcall
  obtain ⟨φ2, w2, v', hle2, hI2, hv, hst⟩ := hok w₀ W φ1 w1 _ (fr f t (.inRangeFunc l :: k) (mark ++ ds) kd ro') cs hS1.i ((l1.mono hle1.le).append (VRL.cons ly (l2.mono hle1.le)))
  have hstep := st_range (f := f) (k := k) (ds := ds) (kd := kd) (cs := cs) hrun e1 q1 q2 q3
  have e6 : a' ++ #[Value.func (.yield l) #[] #[]] ++ b' = ⟨a'.toList ++ Value.func (.yield l) #[] #[] :: b'.toList⟩ := by apply Array.ext'; simp
  rw [e6] at hstep
  have hfin : (fr f t (.inRangeFunc l :: k) (mark ++ ds) kd ro').finish v' = fr f t (.endRangeFunc l :: k) (mark ++ ds) kd ro' := rfl
  rw [hfin] at hst
  have hS2 : S w₀ W φ2 s2 (ntm P f) t (mark ++ ds) w2 := ⟨hI2, by rw [hT]; exact hS1.tr.mono hle2.le, hS1.sz, by rw [hD]; exact hS1.d.mono hle2.le⟩
  have hl2 := hle2.le _ _ hl
  -- the loop's end
  unfold rangeOut at e
  split at e
  · cases e
  · rename_i stt pe fn' T' N' ps as bd d' hnb hlp
    obtain ⟨p, r, hp, hr, r1, r2, _⟩ := loop_of hI2 hlp
    rw [hl2] at hp; cases hp
    simp only at hr
    have hend : (Instr.endLoop l).run P w2 = .ok pe { w2 with heap := w2.heap.setIfInBounds l (.loop { r with state := .exhausted }) } := by
      have hb : (r.state == LoopState.busy) = false := by
        rw [r1]
        cases stt <;> first | rfl | exact (hnb rfl).elim
      simp only [Instr.endLoop, Sem.run_bind, run_getLoop hr, Result.andThen_ok, hb, Bool.false_eq_true, if_false, run_setObj hr (fun a b c x => by cases x), Sem.run_pure, r2]
    have hI3 := hI2.loop hlp hl2 hr .exhausted pe
    have r2' : ({ r with state := .exhausted, pending := pe } : Loop) = { r with state := .exhausted } := by rw [← r2]
    rw [r2'] at hI3
    have hS3 : S w₀ W φ2 { s2 with H := s2.H.set s.n (some (.loop .exhausted pe fn' T' N' ps as bd d')) } (ntm P f) t (mark ++ ds) { w2 with heap := w2.heap.setIfInBounds l (.loop { r with state := .exhausted }) } :=
      ⟨hI3, hS2.tr, hS2.sz, hS2.d⟩
    have hall : Steps P (lone (fr f t (.code (.rangeFunc x params assign body) :: k) ds kd ro') cs w) (lone (fr f t ((pe.map Item.code).toList ++ k) (mark ++ ds) kd ro') cs { w2 with heap := w2.heap.setIfInBounds l (.loop { r with state := .exhausted }) }) :=
      .head hstep (Steps.trans hst (.one (st_range_end hend)))
    simp only at e
    split at e
    · simp only [Option.some.injEq, Prod.mk.injEq] at e
      obtain ⟨rfl, rfl⟩ := e
      exact ⟨φ2, _, t, _, hle1.trans hle2, hS3, hall⟩
    · simp only [Option.some.injEq, Prod.mk.injEq] at e
      obtain ⟨rfl, rfl⟩ := e
      exact ⟨φ2, _, t, _, hle1.trans hle2, hS3, k, rfl, hall⟩
    · simp only [Option.some.injEq, Prod.mk.injEq] at e
      obtain ⟨rfl, rfl⟩ := e
      exact ⟨φ2, _, t, _, hle1.trans hle2, hS3, k, hall⟩
    · cases e
  · cases e
def DrawOk (P : Program) (draw : Draw) : Prop := ∀ (f : FuncId) (ops : Array Oper) (st st' : St), draw f (ntm P f) ops.toList st = some st' →
  ∀ (w₀ : World) (W : Sets) (φ : Phi) (w : World) (t : Array Value) (ds : List Deferred) (kd : CallKind) (k : List Item) (cs : List Frame) (ro' : Option Nat) (tp : Nat),
    S w₀ W φ st (ntm P f) t ds w →
    ∃ φ' w' t', Ext φ st.n φ' st'.n ∧ S w₀ W φ' st' (ntm P f) t' ds w' ∧
      Steps P (lone (fr f t (.inRegion ops (Region.schedule (P.follows .mixedOrders) ops tp) :: k) ds kd ro') cs w) (lone (fr f t' k ds kd ro') cs w')
theorem CodeOk.then {ro : Option Nat} {a b : Code} {s s' : St} {ex : Ex} (ha : CodeOk P ro f a st .norm s) (hb : CodeOk P ro f b s ex s') : CodeOk P ro f (.seq a b) st ex s' := by
  intro w₀ W φ w t ds kd k cs ro' hS hro
  obtain ⟨φ1, w1, t1, ds1, hle1, hS1, g1⟩ := ha w₀ W φ w t ds kd (.code b :: k) cs ro' hS hro
  obtain ⟨φ2, w2, t2, ds2, hle2, hS2, g2⟩ := hb w₀ W φ1 w1 t1 ds1 kd k cs ro' hS1 (hro.mono hle1.le)
  exact ⟨φ2, w2, t2, ds2, hle1.trans hle2, hS2, .of_steps (.head st_seq g1) g2⟩
theorem exit_cons {id : Nat} {x : Item} {k : List Item} (h : ∀ j, x ≠ .inBlock j) : exitTo id (x :: k) = exitTo id k := by
  cases x <;> first | rfl | exact absurd rfl (h _)
theorem CodeOk.out {ro : Option Nat} {a b : Code} {s : St} {ex : Ex} (hne : ex ≠ .norm) (ha : CodeOk P ro f a st ex s) : CodeOk P ro f (.seq a b) st ex s := by
  intro w₀ W φ w t ds kd k cs ro' hS hro
  obtain ⟨φ1, w1, t1, ds1, hle1, hS1, g1⟩ := ha w₀ W φ w t ds kd (.code b :: k) cs ro' hS hro
  refine ⟨φ1, w1, t1, ds1, hle1, hS1, .of_steps (.one st_seq) ?_⟩
  cases ex with
  | norm => exact absurd rfl hne
  | exit id => obtain ⟨kk, e, s⟩ := g1; exact ⟨kk, e.trans (exit_cons (fun j x => by cases x)), s⟩
  | ret => exact g1
theorem steps_peel {m m' X : Machine} (h : Steps P m m') (hne : m' ≠ m) (hx : step P m = .next X) : Steps P X m' := by
  obtain ⟨n, hn⟩ := h
  cases n with
  | zero => simp only [runN, Stepped.next.injEq] at hn; exact absurd hn.symm hne
  | succ n => simp only [runN, hx] at hn; exact ⟨n, hn⟩
theorem fr_todo {t' : Array Value} {ds' : List Deferred} {k' : List Item} {w' : World} {ro : Option Nat} (h : lone (fr f t' k' ds' kd ro) cs w' = lone (fr f t k ds kd ro) cs w) : k' = k := by
  simp only [lone, Machine.mk.injEq, Array.mk.injEq, List.cons.injEq, Goroutine.mk.injEq, fr, Frame.mk.injEq] at h
  exact h.2.1.1.1.2.2.1
theorem Goes.again {c : Code} {ro : Option Nat} {t' : Array Value} {ds' : List Deferred} {w' : World} {ex : Ex} (g : Goes P (lone (fr f t (.code (.loop c) :: k) ds kd ro) cs w) f t' k ds' kd ro cs w' ex) :
    Goes P (lone (fr f t (.inLoop c :: k) ds kd ro) cs w) f t' k ds' kd ro cs w' ex := by
  refine .of_steps (.one st_inLoop) ?_
  cases ex with
  | norm =>
    refine steps_peel g (fun h => ?_) st_loop
    have := fr_todo h
    have := congrArg List.length this
    simp at this
  | exit id =>
    obtain ⟨kk, hk, g⟩ := g
    refine ⟨kk, hk, steps_peel g (fun h => ?_) st_loop⟩
    have := fr_todo h
    simp at this
  | ret =>
    obtain ⟨kk, g⟩ := g
    refine ⟨kk, steps_peel g (fun h => ?_) st_loop⟩
    have := fr_todo h
    simp at this
end Go.Ev
