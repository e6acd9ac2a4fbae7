import Derived.Test.YtakjjillnllocaaEv12
namespace Go.Ev
open Go
variable {P : Program} {w₀ : World} {W : Sets} {φ : Phi} {st st' : St} {w : World} {H : Hp} {n : Nat} {rec : Rec}
theorem I.void (h : I w₀ W φ H n w) {i : Nat} {b : Blk} {o' : Obj} {p : Nat × Nat} (hi : H.get i = some b) (hp : φ i = some p) (hr : b.ro = false) (hf : frOb (some o') = (0, 0) := by rfl) :
    I w₀ W φ (H.set i none) n { w with heap := w.heap.setIfInBounds p.1 o' } := by
  have hk := h.kill i
  have hold : ∃ o, w.heap[p.1]? = some o ∧ frOb (some o) = (0, 0) := by
    obtain ⟨q, o, f, g, k⟩ := h.rel i b hi
    rw [hp] at f; cases f
    exact ⟨o, g, k.fr hr⟩
  obtain ⟨o0, hold1, hold2⟩ := hold
  refine ⟨fun j q e => by have := h.dom j q e; simpa using this, ?_, hk.inj, ?_, by simpa using h.size, hk.wr, hk.src, h.os, h.tape, h.output, frOb_set h hold1 hold2 hf⟩
  · intro j c e
    obtain ⟨q, o, f, g, k⟩ := hk.rel j c e
    have hj : j ≠ i := by
      intro x; subst x; rw [Tr.get_set, if_pos rfl] at e; cases e
    have e' : H.get j = some c := by rw [Tr.get_set, if_neg hj] at e; exact e
    refine ⟨q, o, f, ?_, k⟩
    have ne : p.1 ≠ q.1 := fun y => hj (h.inj i j b c p q hi e' hp f y).symm
    show (w.heap.setIfInBounds p.1 o')[q.1]? = _
    rw [Array.getElem?_setIfInBounds_ne ne]; exact g
  · intro c hc nc
    have ne : p.1 ≠ c := by
      intro y; subst y
      rcases h.wr i b p hi hr hp with a | a
      · exact nc a
      · omega
    show (w.heap.setIfInBounds p.1 o')[c]? = _
    rw [Array.getElem?_setIfInBounds_ne ne]; exact h.keep c hc nc
theorem run_getObj {r : Nat} {o : Obj} (h : w.heap[r]? = some o) (hc : ∀ a b c, o ≠ .cells a b c) : (getObj r).run P w = .ok o w := by
  simp only [getObj, Sem.run, h]
theorem run_setObj {r : Nat} {o o' : Obj} (h : w.heap[r]? = some o) (hc : ∀ a b c, o ≠ .cells a b c) : (setObj r o').run P w = .ok () { w with heap := w.heap.setIfInBounds r o' } := by
  simp only [setObj, Sem.run, h]
theorem unwind_ok {f : FuncId} {t : Array Value} {k : List Item} {kd : CallKind} {ro : Option Nat} {cs : List Frame} : ∀ {D : List Nat} {ds : List Deferred} {H H' : Hp} {w : World},
    I w₀ W φ H n w → DR φ D ds → takeD H D = some H' →
    ∃ w', I w₀ W φ H' n w' ∧ Steps P (lone { fr f t k ds kd ro with mode := .returning } cs w) (lone { fr f t k [] kd ro with mode := .returning } cs w')
  | [], ds, H, H', w, h, hd, e => by
    simp only [DR] at hd; subst hd
    simp [takeD] at e; subst e
    exact ⟨w, h, .refl _ _⟩
  | i :: D, ds, H, H', w, h, hd, e => by
    simp only [DR] at hd
    obtain ⟨p, ds', rfl, hp, hd⟩ := hd
    simp only [takeD] at e
    split at e
    · rename_i hi
      obtain ⟨q, o, f1, g, k1⟩ := h.rel i _ hi
      rw [hp] at f1; cases f1
      simp only [BR] at k1; subst k1
      have h2 := h.void (o' := .deferred none) hi hp rfl
      obtain ⟨w', h3, s⟩ := unwind_ok (f := f) (t := t) (k := k) (kd := kd) (ro := ro) (cs := cs) h2 hd e
      refine ⟨w', h3, .head (st_unwind ?_) s⟩
      have nc : ∀ a b c, Obj.deferred (some []) ≠ .cells a b c := fun a b c x => by cases x
      simp only [Instr.takeDeferred, Sem.run_bind, run_getObj g nc, Result.andThen_ok, run_setObj g nc, Sem.run_pure]
    · cases e
theorem enter_eq {f : FuncId} {fn : Func} {c : Code} {args : Array Value} (hf : P.funcs[f]? = some fn) (hb : fn.body = some c) :
    Frame.enter P f args .normal = fr f (args ++ Array.replicate (fn.ntmps - args.size) undef) [.code c] [] .normal none := by
  simp [Frame.enter, fr, hf, hb]
theorem ntm_eq {f : FuncId} {fn : Func} (hf : P.funcs[f]? = some fn) : ntm P f = fn.ntmps := by simp [ntm, hf]
theorem callB_ok (hs : Snd P rec) {f : FuncId} {args : List Value} {v : Value} (e : callB P rec f args st = some (v, st')) :
    CallOk P (fun _ args' => Frame.enter P f ⟨args'⟩ .normal) args st v st' ∧ (∃ fn c, P.funcs[f]? = some fn ∧ fn.body = some c ∧ (fn.name == "runtime.NumGoroutine") = false) ∧ st'.T = st.T ∧ st'.D = st.D := by
  unfold callB at e
  split at e
  · cases e
  · rename_i fn hf
    split at e
    · cases e
    · rename_i c hb
      split at e
      · cases e
      · rename_i hcond
        simp only [Bool.or_eq_true, not_or, Bool.not_eq_true] at hcond
        obtain ⟨hname, hlt⟩ := hcond
        have hlt : args.length ≤ fn.ntmps := by simpa using hlt
        split at e
        · cases e
        · rename_i ex s hne hrec
          split at e
          · cases e
          · rename_i H' hH
            split at e
            · cases e
            · rename_i vs hvs
              simp only [Option.some.injEq, Prod.mk.injEq] at e
              obtain ⟨rfl, rfl⟩ := e
              refine ⟨?_, ⟨fn, c, hf, hb, hname⟩, rfl, rfl⟩
              intro w₀ W φ w args' cfr cs hI hargs
              have hal := hargs.length
              have h0 : S w₀ W φ { T := argsT .nil 0 args, H := st.H, n := st.n, D := [] } (ntm P f) (⟨args'⟩ ++ Array.replicate (fn.ntmps - (⟨args'⟩ : Array Value).size) undef) [] w := by
                refine ⟨hI, ?_, ?_, rfl⟩
                · have := args_ok (φ := φ) (T := .nil) (i := 0) (pre := []) (List.replicate (fn.ntmps - args'.length) undef) hargs rfl TR.nil
                  have e1 : ((⟨args'⟩ : Array Value) ++ Array.replicate (fn.ntmps - (⟨args'⟩ : Array Value).size) undef) = ⟨[] ++ args' ++ List.replicate (fn.ntmps - args'.length) undef⟩ := by
                    apply Array.ext'; simp
                  rw [e1]; exact this
                · rw [ntm_eq hf]; simp; omega
              obtain ⟨φ1, w1, t1, ds1, hle, hS, hg⟩ := hs _ _ _ _ _ _ hrec w₀ W φ w _ [] .normal [] (cfr :: cs) none h0 rfl
              have fin : ∀ kk, ∃ w2 v', I w₀ W φ1 H' s.n w2 ∧ VR φ1 (oneV vs) v' ∧ Steps P (lone { fr f t1 kk ds1 .normal none with mode := .returning } (cfr :: cs) w1) (lone (cfr.finish v') cs w2) := by
                intro kk
                obtain ⟨w2, hI2, hun⟩ := unwind_ok (P := P) (f := f) (t := t1) (k := kk) (kd := .normal) (ro := none) (cs := cfr :: cs) hS.i hS.d hH
                obtain ⟨v', hv', hres⟩ := results_ok (fn := fn) hI2 hS.tr hvs
                exact ⟨w2, v', hI2, hv', hun.trans (.one (st_return hf hres))⟩
              cases ex with
              | exit id => exact absurd rfl (hne id)
              | norm =>
                obtain ⟨w2, v', a1, a2, a3⟩ := fin []
                refine ⟨φ1, w2, v', hle, a1, a2, ?_⟩
                simp only
                rw [enter_eq hf hb]
                exact Steps.trans hg (.head st_leave a3)
              | ret =>
                obtain ⟨kk, hg⟩ := hg
                obtain ⟨w2, v', a1, a2, a3⟩ := fin (.code .ret :: kk)
                refine ⟨φ1, w2, v', hle, a1, a2, ?_⟩
                simp only
                rw [enter_eq hf hb]
                exact Steps.trans hg (.head st_leave_ret a3)
        · cases e
theorem I.later {w1 : World} (h : I w₀ W φ H n w) (hk : ∀ b, b < w.heap.size → w1.heap[b]? = w.heap[b]?) (hsz : w.heap.size ≤ w1.heap.size) (ho : w1.os = w.os) (htp : w1.tape = w.tape) (hout : w1.output = w.output) (hfz : ∀ b : Nat, frOb w1.heap[b]? = frOb w.heap[b]?) :
    I w₀ W φ H n w1 := by
  refine ⟨fun i p e => ⟨(h.dom i p e).1, Nat.lt_of_lt_of_le (h.dom i p e).2 hsz⟩, ?_, h.inj, ?_, Nat.le_trans h.size hsz, h.wr, h.src, ho.trans h.os, htp.trans h.tape, hout.trans h.output, fun b => (hfz b).trans (h.fz b)⟩
  · intro i b e
    obtain ⟨p, o, f, g, k⟩ := h.rel i b e
    exact ⟨p, o, f, (hk p.1 (h.dom i p f).2).trans g, k⟩
  · intro b hb nb
    exact (hk b (by have := h.size; omega)).trans (h.keep b hb nb)
theorem I.empty (w : World) : I w ⟨fun _ => False, fun _ => False⟩ (fun _ => none) (.nil : Hp) 0 w := by
  have hn : ∀ i b, (Tr.nil : Hp).get i ≠ some b := by intro i b z; rw [Tr.get_nil] at z; cases z
  exact ⟨(fun i p z => by cases z), (fun i b z => absurd z (hn i b)), (fun i j b c p q z => absurd z (hn i b)), (fun _ _ _ => rfl), Nat.le_refl _, (fun i b p z => absurd z (hn i b)), (fun i b p z => absurd z (hn i b)), rfl, rfl, rfl, fun _ => rfl⟩
theorem callF_ok (hs : Snd P rec) {f : FuncId} {args : List Value} {v : Value} (e : callF P rec f args st = some (v, st')) :
    CallOk P (fun _ args' => Frame.enter P f ⟨args'⟩ .normal) args st v st' ∧ (∃ fn c, P.funcs[f]? = some fn ∧ fn.body = some c ∧ (fn.name == "runtime.NumGoroutine") = false) ∧ st'.T = st.T ∧ st'.D = st.D := by
  unfold callF at e
  split at e
  · exact callB_ok hs e
  · rename_i hc
    simp only [Bool.and_eq_true] at hc
    split at e
    · rename_i v0 s hb
      split at e
      · rename_i hp
        simp only [Option.some.injEq, Prod.mk.injEq] at e
        obtain ⟨rfl, rfl⟩ := e
        obtain ⟨hok, hx, _⟩ := callB_ok hs hb
        refine ⟨?_, hx, rfl, rfl⟩
        intro w₀ W φ w args' cfr cs hI ha
        have := pureL.eq hc.2 ha; subst this
        obtain ⟨φ1, w1, v', hext, hI1, hv, hst⟩ := hok w _ _ w args' cfr cs (I.empty w) (pureL.refl hc.2)
        have hv' := pureV.eq hp hv; subst hv'
        exact ⟨φ, w1, v', Ext.refl _ _, hI.later (fun b hb => hI1.keep b hb (fun z => z)) hI1.size hI1.os hI1.tape hI1.output hI1.fz, pureV.refl hp, hst⟩
      · cases e
    · cases e
theorem paramsT_ok : ∀ {ts : List Tmp} {vs vs' : List Value} {T T' : Tm} {t : Array Value} {N : Nat}, TR φ T t → t.size = N → VRL φ vs vs' → paramsT T N ts vs = some T' →
    TR φ T' ((ts.zip vs').foldl (fun (t : Array Value) (x : Tmp × Value) => t.setIfInBounds x.1 x.2) t) ∧ ((ts.zip vs').foldl (fun (t : Array Value) (x : Tmp × Value) => t.setIfInBounds x.1 x.2) t).size = N ∧ ts.length = vs'.length
  | [], [], vs', T, T', t, N, ht, hn, hv, e => by
    simp only [paramsT, Option.some.injEq] at e; subst e
    simp only [VRL] at hv; subst hv
    exact ⟨ht, hn, rfl⟩
  | [], v :: vs, vs', T, T', t, N, ht, hn, hv, e => by simp [paramsT] at e
  | d :: ts, [], vs', T, T', t, N, ht, hn, hv, e => by simp [paramsT] at e
  | d :: ts, v :: vs, vs', T, T', t, N, ht, hn, hv, e => by
    simp only [paramsT] at e
    by_cases hd : d < N
    · rw [if_pos hd] at e
      simp only [VRL] at hv
      obtain ⟨v', r', rfl, hv1, hv2⟩ := hv
      have hd' : (d : Nat) < t.size := by rw [hn]; exact hd
      have := paramsT_ok (t := t.setIfInBounds d v') (ht.put hd' hv1) (by simpa using hn) hv2 e
      simpa using this
    · rw [if_neg hd] at e; cases e
theorem loop_of (h : I w₀ W φ H n w) {l : Nat} {s : LoopState} {pe : Option Code} {fn : FuncId} {T : Tm} {N : Nat} {ps : Array Tmp} {as bd : Code} {d : Nat}
    (hl : H.get l = some (.loop s pe fn T N ps as bd d)) : ∃ p r, φ l = some p ∧ w.heap[p.1]? = some (.loop r) ∧ r.state = s ∧ r.pending = pe ∧ r.fn = fn ∧ r.tmps.size = N ∧ TR φ T r.tmps ∧ r.params = ps ∧ r.assign = as ∧ r.body = bd ∧ ∃ c, φ d = some (r.defers, c) := by
  obtain ⟨p, o, f, g, k⟩ := h.rel l _ hl
  obtain ⟨r, rfl, x⟩ := k
  exact ⟨p, r, f, g, x⟩
theorem run_getLoop {l : Nat} {r : Loop} (h : w.heap[l]? = some (.loop r)) : (Instr.getLoop l).run P w = .ok r w := by
  simp only [Instr.getLoop, Sem.run_bind, run_getObj h (fun a b c x => by cases x), Result.andThen_ok, Sem.run_pure]
theorem I.loop (h : I w₀ W φ H n w) {l : Nat} {s : LoopState} {pe : Option Code} {fn : FuncId} {T : Tm} {N : Nat} {ps : Array Tmp} {as bd : Code} {d : Nat}
    (hl : H.get l = some (.loop s pe fn T N ps as bd d)) {p : Nat × Nat} {r : Loop} (hp : φ l = some p) (hr : w.heap[p.1]? = some (.loop r)) (s' : LoopState) (pe' : Option Code) :
    I w₀ W φ (H.set l (some (.loop s' pe' fn T N ps as bd d))) n { w with heap := w.heap.setIfInBounds p.1 (.loop { r with state := s', pending := pe' }) } := by
  obtain ⟨q, r', f, g, x⟩ := loop_of h hl
  rw [hp] at f; cases f
  rw [hr] at g; cases g
  obtain ⟨x1, x2, x3, x4, x5, x6, x7, x8, x9⟩ := x
  exact h.put hl hp rfl ⟨_, rfl, rfl, rfl, x3, x4, x5, x6, x7, x8, x9⟩
theorem setLoop_ok (h : I w₀ W φ H n w) {l : Nat} {s : LoopState} {pe : Option Code} {H' : Hp} (e : setLoop H l s pe = some H') :
    ∃ p r, φ l = some p ∧ w.heap[p.1]? = some (.loop r) ∧ I w₀ W φ H' n { w with heap := w.heap.setIfInBounds p.1 (.loop { r with state := s, pending := pe }) } ∧ r.pending = pendingOf H l ∧ (isReady H l = true → r.state = .ready) := by
  unfold setLoop at e
  split at e
  · rename_i x1 x2 fn T N ps as bd d hl
    cases e
    obtain ⟨p, r, a, b, c1, c2, c3⟩ := loop_of h hl
    refine ⟨p, r, a, b, h.loop hl a b s pe, by simp [pendingOf, hl, c2], fun hr => ?_⟩
    simp only [isReady, hl] at hr
    split at hr
    · rename_i q; cases q; exact c1
    · cases hr
  · cases e
theorem yieldF_ok (hs : Snd P rec) {l : Nat} {args : List Value} {v : Value} (e : yieldF rec P l args st = some (v, st')) (h : I w₀ W φ st.H st.n w) {args' : List Value} (ha : VRL φ args args') {l' cp : Nat} (hl' : φ l = some (l', cp)) :
    ∃ f tm as bd, (Instr.yield l' ⟨args'⟩).run P w = .ok (.round l' f tm as bd) w ∧ st'.T = st.T ∧ st'.D = st.D ∧
      ∀ (c : Frame) (cs : List Frame), ∃ φ' w' v', Ext φ st.n φ' st'.n ∧ I w₀ W φ' st'.H st'.n w' ∧ VR φ' v v' ∧ Steps P (lone (Frame.round l' f tm as bd .normal) (c :: cs) w) (lone (c.finish v') cs w') := by
  unfold yieldF at e
  split at e
  case h_2 => cases e
  rename_i x1 x2 fn T N params assign body d hl
  split at e
  case h_2 => cases e
  rename_i T' hN hT
  have hN := Nat.eq_of_beq_eq_true hN
  split at e
  case h_2 => cases e
  rename_i s hrec1
  split at e
  case h_2 => cases e
  rename_i H1 hready hset1
  split at e
  case h_2 => cases e
  rename_i ex s2 hrec2
  split at e
  case h_1 => cases e
  rename_i j hj
  split at e
  case h_2 => cases e
  rename_i H2 hset2
  simp only [Option.some.injEq, Prod.mk.injEq] at e
  obtain ⟨rfl, rfl⟩ := e
  obtain ⟨p, r, hp, hr, r1, r2, r3, r4, r5, r6, r7, r8, r9⟩ := loop_of h hl
  rw [hl'] at hp; cases hp
  simp only at hr
  obtain ⟨g1, g2, g3⟩ := paramsT_ok r5 r4 ha hT
  have hf1 : ((r.params.zip (⟨args'⟩ : Array Value)).foldl (fun tmps (x : Tmp × Value) => tmps.setIfInBounds x.1 x.2) r.tmps) = ((params.toList.zip args').foldl (fun (t : Array Value) (x : Tmp × Value) => t.setIfInBounds x.1 x.2) r.tmps) := by
    rw [r6, ← Array.foldl_toList]; simp
  refine ⟨fn, (params.toList.zip args').foldl (fun (t : Array Value) (x : Tmp × Value) => t.setIfInBounds x.1 x.2) r.tmps, assign, body, ?_, rfl, rfl, ?_⟩
  · have hsz : args'.length = r.params.size := by rw [r6]; simp at g3 ⊢; omega
    have hne : ¬ (args'.length ≠ r.params.size) := fun x => x hsz
    simp only [Instr.yield, Sem.run_bind, run_getLoop hr, Result.andThen_ok, List.size_toArray, ne_eq, if_neg hne, Sem.run_pure, r3, r7, r8]
    exact congrArg (fun x => Result.ok (Next.round l' fn x assign body) w) hf1
  · intro c cs
    have h0 : S w₀ W φ { T := T', H := st.H, n := st.n, D := [] } (ntm P fn) ((params.toList.zip args').foldl (fun (t : Array Value) (x : Tmp × Value) => t.setIfInBounds x.1 x.2) r.tmps) [] w :=
      ⟨h, g1, by rw [g2, hN], rfl⟩
    obtain ⟨φ1, w1, t1, ds1, hle1, hS1, hg1⟩ := hs _ _ _ _ _ _ hrec1 w₀ W φ w _ [] .normal [.beginRound, .code body] (c :: cs) (some l') h0 ⟨l', cp, rfl, hl'⟩
    obtain ⟨p2, q2, k1, k2, k3, k4, k5⟩ := setLoop_ok hS1.i hset1
    rw [hle1.le _ _ hl'] at k1; cases k1
    simp only at k2 k3
    have hb : (Instr.beginRound l').run P w1 = .ok () { w1 with heap := w1.heap.setIfInBounds l' (.loop { q2 with state := .busy }) } := by
      simp only [Instr.beginRound, Sem.run_bind, run_getLoop k2, Result.andThen_ok, run_setObj k2 (fun a b c x => by cases x), k5 hready, Sem.run_pure]
    have k4' : ({ q2 with state := .busy, pending := pendingOf s.H l } : Loop) = { q2 with state := .busy } := by rw [← k4]
    rw [k4'] at k3
    have h1 : S w₀ W φ1 { s with H := H1 } (ntm P fn) t1 ds1 { w1 with heap := w1.heap.setIfInBounds l' (.loop { q2 with state := .busy }) } := ⟨k3, hS1.tr, hS1.sz, hS1.d⟩
    obtain ⟨φ2, w2, t2, ds2, hle2, hS2, hg2⟩ := hs _ _ _ _ _ _ hrec2 w₀ W φ1 _ t1 ds1 .normal [] (c :: cs) (some l') h1 ⟨l', cp, rfl, hle1.le _ _ hl'⟩
    obtain ⟨p3, q3, m1, m2, m3, m4, m5⟩ := setLoop_ok hS2.i hset2
    rw [hle2.le _ _ (hle1.le _ _ hl')] at m1; cases m1
    simp only at m2 m3
    have he : (Instr.endRound l' j).run P w2 = .ok (.bool j.isNone) { w2 with heap := w2.heap.setIfInBounds l' (.loop { q3 with state := if j.isNone then .ready else .done, pending := j }) } := by
      simp only [Instr.endRound, Sem.run_bind, run_getLoop m2, Result.andThen_ok, run_setObj m2 (fun a b c x => by cases x), Sem.run_pure]
    refine ⟨φ2, _, .bool j.isNone, hle1.trans hle2, m3, by simp only [VR], ?_⟩
    have fin : Steps P (lone (fr fn ((params.toList.zip args').foldl (fun (t : Array Value) (x : Tmp × Value) => t.setIfInBounds x.1 x.2) r.tmps) [.code assign, .beginRound, .code body] [] .normal (some l')) (c :: cs) w)
        (lone (c.finish (.bool j.isNone)) cs { w2 with heap := w2.heap.setIfInBounds l' (.loop { q3 with state := if j.isNone then .ready else .done, pending := j }) }) := by
      refine Steps.trans hg1 (.head (st_begin hb) ?_)
      cases ex with
      | norm =>
        simp only [exCode, Option.some.injEq] at hj; subst hj
        exact Steps.trans hg2 (.one (st_round_end he))
      | exit id =>
        simp only [exCode, Option.some.injEq] at hj; subst hj
        obtain ⟨kk, hk, hg2⟩ := hg2
        exact Steps.trans hg2 (.one (st_round_exit (by rw [hk]; rfl) he))
      | ret =>
        simp only [exCode, Option.some.injEq] at hj; subst hj
        obtain ⟨kk, hg2⟩ := hg2
        exact Steps.trans hg2 (.one (st_round_ret he))
    exact fin
end Go.Ev
