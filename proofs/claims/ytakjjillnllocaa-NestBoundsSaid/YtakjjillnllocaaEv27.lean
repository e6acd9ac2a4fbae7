import Derived.Test.YtakjjillnllocaaEv26
namespace Go.Ev
open Go
variable {P : Program} {cal : Cal} {rec : Rec} {ρ : Type} {r : ρ} {N : Nat} {ops : List Oper} {A : List Nat}
theorem cOp_aOp {op : Op} {type : TypeId} {st : St} (h : kindOf op = .p) : cOp P rec op type st = aOp P op type st := by
  cases op with
  | call c =>
    simp only [cOp, cCall, aOp]
    split
    · rename_i f hf
      obtain ⟨callee, _, _⟩ := c
      simp only at hf
      subst hf
      simp [kindOf] at h
    · rfl
  | _ => rfl
theorem opD_ok (hc : cal.Ok P rec) {x : Nat} {slots rest : List Nat} {g : Reg} {o : Oper} {T : Tm} {k : KD ρ} (hx : ops[x]? = some o) (hl : LogOk ops g.log)
    (hE : isE o = true → rest.all (fun y => bit A y x) = true) (e : opD P cal (exOf A ops x g.log) o T g.H g.n k = some r) :
    ∃ v ex H n, drawOp P rec A o x slots T rest g = some (addE g x o.dst slots v ex H n) ∧ k v ex H n = some r ∧ (kindAt ops x = false → ex = .p ∨ ex = .e) := by
  unfold opD at e
  unfold drawOp
  split at e
  · rename_i hk
    simp only [hk]
    obtain ⟨v, s, h, _, _, hkk⟩ := opE_ok (st := { T, H := g.H, n := g.n, D := [] }) hc e
    rw [cOp_aOp hk] at h
    rw [h]
    exact ⟨v, .p, g.H, g.n, rfl, hkk, fun _ => .inl rfl⟩
  · rename_i hk
    have hka : kindAt ops x = true := by simp only [kindAt, hx, hk]
    simp only [hk]
    split at e
    · rename_i t a ho
      simp only [bindO_eq, getK_eq] at e
      obtain ⟨p, hp, ad, had, v, hv, hkk⟩ := e
      unfold addrV at had
      split at had
      · cases had
        refine ⟨v, .l t ad, g.H, g.n, ?_, hkk, fun q => by rw [hka] at q; cases q⟩
        simp only [ho, hp, hv]
      · cases had
    · cases e
  · rename_i hk
    have hka : kindAt ops x = true := by simp only [kindAt, hx, hk]
    simp only [hk]
    have fin : ∀ {c : List Value} {el : TypeId} {v : Value}, aOp P o.op o.type { T, H := g.H, n := g.n, D := [] } = some (v, pushB { T, H := g.H, n := g.n, D := [] } c el none) →
        k v (.a g.n c el) (g.H.set g.n (some (.cells c el false none))) (g.n + 1) = some r →
        ∃ v ex H n, (match aOp P o.op o.type { T, H := g.H, n := g.n, D := [] } with
          | some (v, s) => match s.H.get g.n with
            | some (.cells c e false none) => some (addE g x o.dst slots v (.a g.n c e) s.H s.n)
            | _ => none
          | none => none) = some (addE g x o.dst slots v ex H n) ∧ k v ex H n = some r ∧ (kindAt ops x = false → ex = .p ∨ ex = .e) := by
      intro c el v h1 h2
      refine ⟨v, .a g.n c el, g.H.set g.n (some (.cells c el false none)), g.n + 1, ?_, h2, fun q => by rw [hka] at q; cases q⟩
      rw [h1]
      simp only [pushB, Tr.get_set, if_true]
    split at e
    · rename_i el ho
      simp only [bindO_eq, newK] at e
      obtain ⟨z, hz, hkk⟩ := e
      exact fin (by rw [ho]; simp only [aOp, oAlloc, hz]) hkk
    · rename_i el y ho
      simp only [getK_eq, newK] at e
      obtain ⟨v, hv, hkk⟩ := e
      exact fin (by rw [ho]; simp only [aOp, oBox, hv]) hkk
    · rename_i t len parts ho
      simp only [bindO_eq, getK_eq, newK] at e
      obtain ⟨ps, hps, ⟨c, e1⟩, hr, hkk⟩ := e
      refine fin (c := c) (el := e1) ?_ hkk
      rw [ho]
      simp only [aOp, oBuildSlice, hps]
      unfold rowOf at hr
      split at hr
      · rename_i el hel
        simp only [hel]
        split at hr
        · rename_i s z hs hz
          split at hr
          · rename_i hh
            split at hr
            · rename_i cc hcc
              cases hr
              simp only [hs, hz, if_pos hh, hcc]
            · cases hr
          · cases hr
        · cases hr
      · cases hr
    · rename_i t l c ho
      simp only [bindO_eq, getK_eq, newK] at e
      obtain ⟨lv, hlv, cv, hcv, ⟨q1, q2, cs, e1⟩, hr, hkk⟩ := e
      refine fin (c := cs) (el := e1) ?_ hkk
      rw [ho]
      simp only [aOp, oMakeSlice, hlv, hcv]
      unfold makeRow at hr
      split at hr
      · rename_i el l c hel
        simp only [hel]
        split at hr
        · rename_i s b z hs hb hz
          split at hr
          · rename_i hh
            cases hr
            simp only [hs, hb, hz, if_pos hh]
          · cases hr
        · cases hr
      · cases hr
    · cases e
  · rename_i hk
    simp only [hk]
    have hee : isE o = true := by simp only [isE, hk]
    rw [hE hee]
    rw [maskXL_eq hl]
    unfold effK at e
    split at e
    · rename_i hex
      obtain ⟨v, s, h, _, _, hkk⟩ := opE_ok (st := { T, H := g.H, n := g.n, D := [] }) hc e
      refine ⟨v, .e, s.H, s.n, ?_, hkk, fun _ => .inr rfl⟩
      rw [hex]
      simp only [maskXL, maskXA_eq hl, hex, maskXA, h, backXL_eq hl, backXL, backXA_eq hl, backXA, chkX_eq hl, chkX]
    · simp only [bindO_eq] at e
      obtain ⟨H1, hH1, e⟩ := e
      obtain ⟨v, s, h, _, _, hkk⟩ := opE_ok (st := { T, H := maskXA (exOf A ops x g.log) H1, n := g.n, D := [] }) hc e
      simp only [bindO_eq] at hkk
      obtain ⟨H3, hH3, hkk⟩ := hkk
      unfold chkK at hkk
      split at hkk
      · rename_i hchk
        refine ⟨v, .e, backXA (exOf A ops x g.log) g.H H3, s.n, ?_, hkk, fun _ => .inr rfl⟩
        simp only [hH1, maskXA_eq hl, h, backXL_eq hl, hH3, backXA_eq hl, chkX_eq hl, hchk]
      · cases hkk
  · rename_i hk
    have hka : kindAt ops x = true := by simp only [kindAt, hx, hk]
    simp only [hk]
    split at e
    · rename_i t a b ok ho
      simp only [bindO_eq, getK_eq] at e
      obtain ⟨mv, hmv, kx, hkx, v, hv, hkk⟩ := e
      refine ⟨v, .m t mv kx ok v, g.H, g.n, ?_, hkk, fun q => by rw [hka] at q; cases q⟩
      simp only [ho, hmv, hkx, hv]
    · cases e
theorem stepD_ok (hc : cal.Ok P rec) {x : Nat} {rest : List Nat} {g : Reg} {o : Oper} {k : KD ρ} (hx : ops[x]? = some o) (hl : LogOk ops g.log)
    (hin : (inN N o.dst && slotOk A g.log x o.dst (slotsOf ops o) && !inLog g.log x) = true)
    (hE : isE o = true → rest.all (fun y => bit A y x) = true) (e : stepD P cal ops (exOf A ops x g.log) o (restrict g.T (slotsOf ops o)) g.H g.n k = some r) :
    ∃ v ex H n, drawStep P rec N ops A x rest g = some (addE g x o.dst (slotsOf ops o) v ex H n) ∧ k v ex H n = some r ∧ (kindAt ops x = false → ex = .p ∨ ex = .e) := by
  unfold stepD at e
  unfold drawStep
  simp only [hx, hin]
  split at e
  · rename_i hg
    simp only [hg, wantedA]
    exact opD_ok hc hx hl hE e
  · rename_i j want hg
    rw [hg]
    simp only [getK_eq] at e
    obtain ⟨y, hy, e⟩ := e
    unfold guardD at e
    split at e
    · rename_i b
      have hw := wantedA_of (g := (j, want)) hy
      simp only [hw]
      split at e
      · rename_i hb; rw [hb]; exact opD_ok hc hx hl hE e
      · rename_i hb; rw [hb]
        refine ⟨undef, exNo o, g.H, g.n, ?_, e, fun _ => ?_⟩
        · simp only [exNo]
          cases hh : isE o with
          | true => simp only [hE hh]
          | false => rfl
        · simp only [exNo]; cases isE o <;> simp
    · have hw := wantedA_un (g := (j, want)) hy
      simp only [hw]
      refine ⟨undef, exNo o, g.H, g.n, ?_, e, fun _ => ?_⟩
      · simp only [exNo]
        cases hh : isE o with
        | true => simp only [hE hh]
        | false => rfl
      · simp only [exNo]; cases isE o <;> simp
    · cases e
theorem drawRunK_ok (hc : cal.Ok P rec) : ∀ {π : List Nat} {g : Reg} {k : Reg → Option ρ}, LogOk ops g.log → drawRunK P cal N ops A π g k = some r →
    ∃ g', drawRun P rec N ops A π g = some g' ∧ k g' = some r
  | [], g, k, _, e => ⟨g, rfl, e⟩
  | x :: rest, g, k, hl, e => by
    simp only [drawRunK] at e
    split at e
    · cases e
    rename_i o hx
    split at e
    · cases e
    rename_i hcond
    rw [Bool.and_eq_true] at hcond
    obtain ⟨h1, h2⟩ := hcond
    obtain ⟨v, ex, H, n, hs, hk, hkd⟩ := stepD_ok (rest := rest) hc hx hl h1 (fun hE => by rw [hE] at h2; simpa using h2) e
    obtain ⟨g', hg, hk⟩ := drawRunK_ok hc (by
      intro e2 he2 hkk
      rcases List.mem_cons.1 he2 with rfl | he2
      · exact hkd hkk
      · exact hl e2 he2 hkk) hk
    exact ⟨g', by simp only [drawRun, hs, hg], hk⟩
theorem drawK_ok (hc : cal.Ok P rec) {f : FuncId} {st : St} {k : Tm → Hp → Nat → Option ρ} (e : drawK P cal N ops st.T st.H st.n k = some r) :
    ∃ s, drawE P rec f N ops st = some s ∧ s.D = st.D ∧ k s.T s.H s.n = some r := by
  unfold drawK at e
  unfold drawE
  split at e
  · rename_i h
    obtain ⟨g, hg, hk⟩ := drawRunK_ok hc (fun _ q => absurd q (by simp)) e
    exact ⟨{ st with T := g.T, H := g.H, n := g.n }, by simp only [h, hg], rfl, hk⟩
  · cases e
end Go.Ev
