import Derived.Test.YtakjjillnllocaaEv18
namespace Go.Ev
open Go
variable {P : Program} {w₀ : World} {W : Sets} {φ : Phi} {st st' : St} {w : World} {H Hm : Hp} {n n0 : Nat} {rec : Rec}
  {f : FuncId} {t : Array Value} {k : List Item} {ds : List Deferred} {kd : CallKind} {ro : Option Nat} {cs : List Frame} {N : Nat}
  {ops : List Oper} {A : List Nat} {T0 : Tm} {g g1 : Reg} {S : List Nat}
theorem I.up (h : I w₀ W φ H n w) {m : Nat} (hm : n ≤ m) : I w₀ W φ H m w :=
  ⟨fun i p e => ⟨Nat.lt_of_lt_of_le (h.dom i p e).1 hm, (h.dom i p e).2⟩, h.rel, h.inj, h.keep, h.size, h.wr, h.src, h.os, h.tape, h.output, h.fz⟩
theorem inLog_iff {log : List Ent} {x : Nat} : inLog log x = true ↔ ∃ e ∈ log, e.x = x := by
  simp [inLog]
theorem J.fresh (h : J P N ops A T0 n0 w₀ W g S φ t w Hm) {i : Nat} (hi : g.n ≤ i) : g.H.get i = none := by
  by_cases hp : Pend S g.log i
  · obtain ⟨e, he, _, c, ty, hk⟩ := hp
    have := (h.ids e he i c ty hk).2; omega
  · rw [← (h.hm i).2 hp]
    cases e : Hm.get i with
    | none => rfl
    | some b =>
      obtain ⟨p, o, f1, _⟩ := h.i.rel i b e
      have := (h.i.dom i p f1).1; omega
theorem add_slots (h : J P N ops A T0 n0 w₀ W g S φ t w Hm) {x : Nat} {dst : Option Tmp} {slots : List Nat} {v : Value} {kx : Extra}
    (hs : slotOk A g.log x dst slots = true) (hn : inLog g.log x = false) :
    (∀ e ∈ g.log, EntOk P N ops A T0 ({ x, dst, slots, v, k := kx } :: g.log) e) ∧
    (∀ S', Closed A S' → (∀ y, bit A x y = true → y ∈ S') → x ∉ S' → ∀ d ∈ slots, TF S' ({ x, dst, slots, v, k := kx } :: g.log) T0 d = (restrict g.T slots).get d) ∧
    (∀ e ∈ g.log, e.x ≠ x) ∧ (∀ e ∈ g.log, ∀ d, e.dst = some d → dst ≠ some d) ∧
    (∀ S', x ∉ S' → ∀ d, TF S' ({ x, dst, slots, v, k := kx } :: g.log) T0 d = TF S' g.log T0 d) ∧
    (∀ d, (putT g.T dst v).get d = match ({ x, dst, slots, v, k := kx } :: g.log).find? (fun e => e.dst == some d) with | some e => some e.v | none => T0.get d) := by
  have hx : ∀ e ∈ g.log, e.x ≠ x := by
    intro e he q
    have : inLog g.log x = true := inLog_iff.2 ⟨e, he, q⟩
    rw [hn] at this; cases this
  simp only [slotOk, List.all_eq_true, Bool.and_eq_true] at hs
  have hd : ∀ e ∈ g.log, ∀ d, e.dst = some d → dst ≠ some d := by
    intro e he d h1 h2
    have := (hs e he).2
    rw [h2, h1] at this
    simp at this
  have hnone : ∀ d, dst = some d → g.log.find? (fun e => e.dst == some d) = none := by
    intro d h2
    rw [List.find?_eq_none]
    intro e he
    simp
    intro h1
    exact hd e he d h1 h2
  have hTF : ∀ S', x ∉ S' → ∀ d, TF S' ({ x, dst, slots, v, k := kx } :: g.log) T0 d = TF S' g.log T0 d := by
    intro S' hx' d
    unfold TF
    rw [List.find?_cons]
    by_cases q : dst = some d
    · simp only [q, beq_self_eq_true, if_neg hx', hnone d q]
    · have : (dst == some d) = false := by simpa using q
      simp only [this]
  refine ⟨?_, ?_, hx, hd, hTF, ?_⟩
  · intro e he
    obtain ⟨o, r, a1, a2, a3, a4, a5, a6⟩ := h.ent e he
    refine ⟨o, r, a1, a2, a3, a4, a5, fun S' hc hy hxe d hds => ?_⟩
    rw [← a6 S' hc hy hxe d hds]
    unfold TF
    rw [List.find?_cons]
    by_cases q : dst = some d
    · have hb := (hs e he).2
      rw [q] at hb
      simp only [Bool.and_eq_true, Bool.or_eq_true, Bool.not_eq_true', List.contains_eq_mem, decide_eq_false_iff_not] at hb
      have hbit : bit A x e.x = true := by
        rcases hb.1 with hb | hb
        · exact absurd hds hb
        · exact hb
      have hxS : x ∉ S' := fun hh => hxe (hc x hh e.x hbit)
      simp only [q, beq_self_eq_true, if_neg hxS, hnone d q]
    · have : (dst == some d) = false := by simpa using q
      simp only [this]
  · intro S' hc hy hxS d hds
    rw [hTF S' hxS d, restrict_get, if_pos hds, h.T d]
    unfold TF
    cases hf : g.log.find? (fun e => e.dst == some d) with
    | none => rfl
    | some e =>
      have he := List.mem_of_find?_eq_some hf
      have h2 := List.find?_some hf
      simp at h2
      have hb := (hs e he).1
      rw [h2] at hb
      simp only [Bool.or_eq_true, Bool.not_eq_true', List.contains_eq_mem, decide_eq_false_iff_not] at hb
      have hbit : bit A x e.x = true := by
        rcases hb with hb | hb
        · exact absurd hds hb
        · exact hb
      simp only [hy e.x hbit, if_true]
  · intro d
    rw [List.find?_cons]
    cases dst with
    | none =>
      have : ((none : Option Tmp) == some d) = false := rfl
      simp only [putT, this]; exact h.T d
    | some d' =>
      simp only [putT, Tr.get_set]
      by_cases q : d = d'
      · subst q; simp
      · have : (some d' == some d) = false := by simp; exact fun z => q z.symm
        rw [if_neg q]
        simp only [this]
        exact h.T d
theorem Uniq.cons {log : List Ent} (h : Uniq log) {e0 : Ent} (hx : ∀ e ∈ log, e.x ≠ e0.x) (hd : ∀ e ∈ log, ∀ d, e.dst = some d → e0.dst ≠ some d)
    (ha : ∀ e ∈ log, ∀ i c ty c' ty', e.k = .a i c ty → e0.k ≠ .a i c' ty') : Uniq (e0 :: log) := by
  constructor
  · intro e he e' he' q
    rcases List.mem_cons.1 he with rfl | h1 <;> rcases List.mem_cons.1 he' with rfl | h2
    · rfl
    · exact absurd q.symm (hx e' h2)
    · exact absurd q (hx e h1)
    · exact h.x e h1 e' h2 q
  · intro e he e' he' d q q'
    rcases List.mem_cons.1 he with rfl | h1 <;> rcases List.mem_cons.1 he' with rfl | h2
    · rfl
    · exact absurd q (hd e' h2 d q')
    · exact absurd q' (hd e h1 d q)
    · exact h.d e h1 e' h2 d q q'
  · intro e he e' he' i c ty c' ty' q q'
    rcases List.mem_cons.1 he with rfl | h1 <;> rcases List.mem_cons.1 he' with rfl | h2
    · rfl
    · exact absurd q (ha e' h2 i c' ty' c ty q')
    · exact absurd q' (ha e h1 i c ty c' ty' q)
    · exact h.a e h1 e' h2 i c ty c' ty' q q'
theorem J.virt (h : J P N ops A T0 n0 w₀ W g S φ t w Hm) {x : Nat} {rest : List Nat} {o : Oper} (ho : ops[x]? = some o) (hne : isE o = false)
    (e : drawStep P rec N ops A x rest g = some g1) : J P N ops A T0 n0 w₀ W g1 S φ t w Hm := by
  unfold drawStep at e
  rw [ho] at e
  simp only at e
  split at e
  · cases e
  rename_i hcond
  simp only [Bool.and_eq_true, Bool.not_eq_true'] at hcond
  obtain ⟨⟨hN, hsl⟩, hil⟩ := hcond
  have hxS : x ∉ S := by
    intro hx
    obtain ⟨e', he', q⟩ := h.sub x hx
    have : inLog g.log x = true := inLog_iff.2 ⟨e', he', q⟩
    rw [hil] at this; cases this
  -- the new entry
  have main : ∀ (v : Value) (kx : Extra) (H1 : Hp) (n1 : Nat), RunOk P ops { x, dst := o.dst, slots := slotsOf ops o, v, k := kx } o (restrict g.T (slotsOf ops o)) →
      kx ≠ .e → (∀ i, i < g.n → H1.get i = g.H.get i) → g.n ≤ n1 → (∀ i c ty, kx = .a i c ty → g.n ≤ i ∧ i < n1) →
      (∀ i, (¬ ∃ c ty, kx = .a i c ty) → H1.get i = g.H.get i) → Cur P H1 n1 { x, dst := o.dst, slots := slotsOf ops o, v, k := kx } →
      J P N ops A T0 n0 w₀ W (addE g x o.dst (slotsOf ops o) v kx H1 n1) S φ t w Hm := by
    intro v kx H1 n1 hrun hke hH hn1 hid hH2 hcur
    obtain ⟨q1, q2, q3, q4, q5, q6⟩ := add_slots (v := v) (kx := kx) h hsl hil
    have hpend : ∀ i, Pend S ({ x, dst := o.dst, slots := slotsOf ops o, v, k := kx } :: g.log) i ↔ (∃ c ty, kx = .a i c ty) ∨ Pend S g.log i := by
      intro i
      unfold Pend
      simp [hxS]
    have hbig : ∀ i c ty, kx = .a i c ty → Hm.get i = none ∧ φ i = none := by
      intro i c ty q
      have := (hid i c ty q).1
      constructor
      · cases hh : Hm.get i with
        | none => rfl
        | some b => obtain ⟨p, o', f1, _⟩ := h.i.rel i b hh; have := (h.i.dom i p f1).1; omega
      · cases hh : φ i with
        | none => rfl
        | some p => have := (h.i.dom i p hh).1; omega
    refine ⟨?_, h.sz, h.i.up hn1, ?_, ?_, ?_, h.cl, ?_, ?_, ?_, ?_, q6, Nat.le_trans h.nle hn1, ?_⟩
    · intro d u hu; exact h.tr d u (by rw [← q5 S hxS d]; exact hu)
    · intro i
      constructor
      · intro hp
        rcases (hpend i).1 hp with ⟨c, ty, q⟩ | hp
        · exact (hbig i c ty q).1
        · exact (h.hm i).1 hp
      · intro hp
        have hp1 : ¬ Pend S g.log i := fun z => hp ((hpend i).2 (.inr z))
        have hp2 : ¬ ∃ c ty, kx = .a i c ty := fun z => hp ((hpend i).2 (.inl z))
        exact ((h.hm i).2 hp1).trans (hH2 i hp2).symm
    · intro i hp
      rcases (hpend i).1 hp with ⟨c, ty, q⟩ | hp
      · exact (hbig i c ty q).2
      · exact h.pend i hp
    · intro y hy
      obtain ⟨e', he', q⟩ := h.sub y hy
      exact ⟨e', List.mem_cons_of_mem _ he', q⟩
    · refine h.un.cons q3 q4 ?_
      intro e' he' i c ty c' ty' a1 a2
      have := (h.ids e' he' i c ty a1).2
      have := (hid i c' ty' a2).1
      omega
    · intro e' he'
      rcases List.mem_cons.1 he' with rfl | he'
      · exact ⟨o, restrict g.T (slotsOf ops o), ho, rfl, hN, hrun, fun d hd => by rw [restrict_get, if_neg hd], q2⟩
      · exact q1 e' he'
    · intro e' he' hS'
      rcases List.mem_cons.1 he' with rfl | he'
      · exact hcur
      · have hc := h.cur e' he' hS'
        unfold Cur at hc ⊢
        split
        · rename_i ty ad hk
          rw [hk] at hc
          simp only at hc
          rw [← hc]
          refine loadV_congr ?_
          refine hH _ ?_
          cases hb : g.H.get ad.block with
          | none => unfold loadV at hc; rw [hb] at hc; split at hc <;> cases hc
          | some b =>
            by_cases hlt : ad.block < g.n
            · exact hlt
            · rw [h.fresh (by omega)] at hb; cases hb
        · rename_i id c ty hk
          rw [hk] at hc
          simp only at hc
          exact ⟨(hH id hc.2).trans hc.1, Nat.lt_of_lt_of_le hc.2 hn1⟩
        · rename_i ty mv kk ok v1 hk
          rw [hk] at hc
          simp only at hc
          rw [← hc]
          refine lookupV_congr fun r hr => ?_
          subst hr
          refine hH _ ?_
          obtain ⟨b, hb⟩ := lookupV_some hc
          by_cases hlt : r < g.n
          · exact hlt
          · rw [h.fresh (by omega)] at hb; cases hb
        · trivial
    · intro e' he' hk
      rcases List.mem_cons.1 he' with rfl | he'
      · exact absurd hk hke
      · exact h.eff e' he' hk
    · intro e' he' i c ty hk
      rcases List.mem_cons.1 he' with rfl | he'
      · exact ⟨Nat.le_trans h.nle (hid i c ty hk).1, (hid i c ty hk).2⟩
      · exact ⟨(h.ids e' he' i c ty hk).1, Nat.lt_of_lt_of_le (h.ids e' he' i c ty hk).2 hn1⟩
  split at e
  · cases e
  · rename_i hwa
    rw [hne] at e
    simp only [Option.some.injEq] at e; subst e
    exact main undef .p g.H g.n (.inl ⟨hwa, rfl, .inl rfl⟩) (fun z => by cases z) (fun _ _ => rfl) (Nat.le_refl _) (fun _ _ _ z => by cases z) (fun _ _ => rfl) trivial
  · rename_i hwa
    unfold drawOp at e
    split at e
    · rename_i hk
      split at e
      · rename_i v s hv
        simp only [Option.some.injEq] at e; subst e
        exact main v .p g.H g.n (.inr ⟨hwa, kind_p hk hv⟩) (fun z => by cases z) (fun _ _ => rfl) (Nat.le_refl _) (fun _ _ _ z => by cases z) (fun _ _ => rfl) trivial
      · cases e
    · rename_i hk
      split at e
      · rename_i ty a hop
        split at e
        · rename_i ad had
          split at e
          · rename_i v hv
            simp only [Option.some.injEq] at e; subst e
            exact main v (.l ty ad) g.H g.n (.inr ⟨hwa, a, hop, had⟩) (fun z => by cases z) (fun _ _ => rfl) (Nat.le_refl _) (fun _ _ _ z => by cases z) (fun _ _ => rfl) hv
          · cases e
        · cases e
      · cases e
    · rename_i hk
      split at e
      · rename_i v s hv
        split at e
        · rename_i c el hc
          simp only [Option.some.injEq] at e; subst e
          have hrow : ∃ c' el', s = pushB ⟨restrict g.T (slotsOf ops o), g.H, g.n, []⟩ c' el' none := by
            have h0 := hv
            obtain ⟨dst, op, ty, pos, after, guard⟩ := o
            simp only at hk h0
            cases op with
            | alloc el => simp only [aOp, oAlloc] at h0; split at h0 <;> simp at h0; exact ⟨_, _, h0.2.symm⟩
            | box el x => simp only [aOp, oBox] at h0; split at h0 <;> simp at h0; exact ⟨_, _, h0.2.symm⟩
            | buildSlice tt len parts =>
              simp only [aOp, oBuildSlice] at h0
              (repeat' (split at h0)) <;> simp at h0
              exact ⟨_, _, h0.2.symm⟩
            | makeSlice tt l c =>
              simp only [aOp, oMakeSlice] at h0
              (repeat' (split at h0)) <;> simp at h0
              exact ⟨_, _, h0.2.symm⟩
            | call c =>
              obtain ⟨cal, args, tys⟩ := c
              cases cal <;> simp [kindOf] at hk
              split at hk <;> cases hk
            | _ => simp [kindOf] at hk
          obtain ⟨c', el', hs⟩ := hrow
          have hc' : (pushB ⟨restrict g.T (slotsOf ops o), g.H, g.n, []⟩ c' el' none).H.get g.n = some (.cells c' el' false none) := by simp [pushB, Tr.get_set]
          rw [hs, hc'] at hc
          simp only [Option.some.injEq, Blk.cells.injEq, and_true] at hc
          obtain ⟨rfl, rfl⟩ := hc
          have hget : ∀ i, s.H.get i = if i = g.n then some (.cells c' el' false none) else g.H.get i := by intro i; rw [hs]; simp [pushB, Tr.get_set]
          have hsn : s.n = g.n + 1 := by rw [hs]; rfl
          refine main v (.a g.n c' el') s.H s.n (.inr ⟨hwa, hk, g.H, by rw [← hs]; exact hv⟩) (fun z => by cases z) ?_ (by omega) ?_ ?_ ?_
          · intro i hi; rw [hget, if_neg (by omega)]
          · intro i c ty z; cases z; omega
          · intro i hi
            rw [hget, if_neg]
            intro z; subst z; exact hi ⟨_, _, rfl⟩
          · exact ⟨by rw [hget, if_pos rfl], by rw [hsn]; exact Nat.lt_succ_self _⟩
        · cases e
      · cases e
    · rename_i hk
      simp [isE, hk] at hne
    · rename_i hk
      split at e
      · rename_i ty a b ok hop
        split at e
        · rename_i mv kk hmv hkk
          split at e
          · rename_i v hv
            simp only [Option.some.injEq] at e; subst e
            exact main v (.m ty mv kk ok v) g.H g.n (.inr ⟨hwa, rfl, a, b, hop, hmv, hkk⟩) (fun z => by cases z) (fun _ _ => rfl) (Nat.le_refl _) (fun _ _ _ z => by cases z) (fun _ _ => rfl) hv
          · cases e
        · cases e
      · cases e
end Go.Ev
