import Derived.Test.YtakjjillnllocaaEv20
namespace Go.Ev
open Go
variable {P : Program} {w₀ : World} {W : Sets} {φ : Phi} {st st' : St} {w : World} {H Hm : Hp} {n n0 : Nat} {rec : Rec}
  {f : FuncId} {t : Array Value} {k : List Item} {ds : List Deferred} {kd : CallKind} {ro : Option Nat} {cs : List Frame} {N : Nat}
  {opsA : Array Oper} {ops : List Oper} {A : List Nat} {T0 : Tm} {g g1 gf : Reg} {S : List Nat}
theorem drawStep_log {x : Nat} {rest : List Nat} (e : drawStep P rec N ops A x rest g = some g1) :
    (∃ o, ops[x]? = some o ∧ (isE o = true → ∀ y ∈ rest, bit A y x = true)) ∧ inLog g.log x = false ∧ ∃ e0, g1.log = e0 :: g.log ∧ e0.x = x := by
  unfold drawStep at e
  split at e
  · cases e
  rename_i o ho
  simp only at e
  split at e
  · cases e
  rename_i hcond
  simp only [Bool.and_eq_true, Bool.not_eq_true'] at hcond
  refine ⟨⟨o, ho, fun hE => ?_⟩, hcond.2, ?_⟩
  · split at e
    · cases e
    · rw [hE] at e
      simp only at e
      split at e
      · rename_i hb; simpa using hb
      · cases e
    · have hk : kindOf o.op = .e := by
        unfold isE at hE
        split at hE
        · assumption
        · cases hE
      unfold drawOp at e
      rw [hk] at e
      simp only at e
      split at e
      · rename_i hb _; simpa using hb
      · cases e
  · split at e
    · cases e
    · split at e
      · split at e
        · simp only [Option.some.injEq] at e; subst e; exact ⟨_, rfl, rfl⟩
        · cases e
      · simp only [Option.some.injEq] at e; subst e; exact ⟨_, rfl, rfl⟩
    · unfold drawOp at e
      split at e
      · split at e
        · simp only [Option.some.injEq] at e; subst e; exact ⟨_, rfl, rfl⟩
        · cases e
      · split at e
        · split at e
          · split at e
            · simp only [Option.some.injEq] at e; subst e; exact ⟨_, rfl, rfl⟩
            · cases e
          · cases e
        · cases e
      · split at e
        · split at e
          · simp only [Option.some.injEq] at e; subst e; exact ⟨_, rfl, rfl⟩
          · cases e
        · cases e
      · split at e
        · split at e
          · split at e
            · split at e
              · simp only [Option.some.injEq] at e; subst e; exact ⟨_, rfl, rfl⟩
              · cases e
            · cases e
          · cases e
        · cases e
      · split at e
        · split at e
          · split at e
            · simp only [Option.some.injEq] at e; subst e; exact ⟨_, rfl, rfl⟩
            · cases e
          · cases e
        · cases e
theorem virt_all : ∀ {π : List Nat} {g : Reg}, J P N ops A T0 n0 w₀ W g S φ t w Hm → drawRun P rec N ops A π g = some gf →
    ∃ g' π', J P N ops A T0 n0 w₀ W g' S φ t w Hm ∧ drawRun P rec N ops A π' g' = some gf ∧ (∀ x, inLog g.log x = true ∨ x ∈ π → inLog g'.log x = true ∨ x ∈ π') ∧
      (π' = [] ∨ ∃ x π'' g1, π' = x :: π'' ∧ drawStep P rec N ops A x π'' g' = some g1 ∧ drawRun P rec N ops A π'' g1 = some gf ∧ ∃ o, ops[x]? = some o ∧ isE o = true)
  | [], g, h, e => ⟨g, [], h, e, fun _ z => z, .inl rfl⟩
  | x :: π, g, h, e => by
    have e0 := e
    simp only [drawRun] at e
    split at e
    · cases e
    · rename_i g1 h1
      obtain ⟨⟨o, ho, _⟩, _, e1, hl, hx⟩ := drawStep_log h1
      cases hE : isE o with
      | true => exact ⟨g, x :: π, h, e0, fun _ z => z, .inr ⟨x, π, g1, rfl, h1, e, o, ho, hE⟩⟩
      | false =>
        obtain ⟨g', π', a, b, c, d⟩ := virt_all (h.virt ho hE h1) e
        refine ⟨g', π', a, b, fun y hy => c y ?_, d⟩
        rw [hl]
        rcases hy with hy | hy
        · left
          obtain ⟨e2, he2, q⟩ := inLog_iff.1 hy
          exact inLog_iff.2 ⟨e2, List.mem_cons_of_mem _ he2, q⟩
        · rcases List.mem_cons.1 hy with rfl | hy
          · exact .inl (inLog_iff.2 ⟨e1, List.mem_cons_self, hx⟩)
          · exact .inr hy
def LS (listed : Array Bool) (S : List Nat) (n : Nat) : Prop := ∀ i, i < n → listed[i]? = some (decide (i ∈ S))
theorem LS.set {listed : Array Bool} {n i : Nat} (h : LS listed S n) (hi : i < n) : LS (listed.setIfInBounds i true) (i :: S) n := by
  intro j hj
  rw [Array.getElem?_setIfInBounds]
  by_cases q : i = j
  · subst q
    have := h i hi
    have hlt : i < listed.size := by
      rcases Nat.lt_or_ge i listed.size with y | y
      · exact y
      · rw [Array.getElem?_eq_none y] at this; cases this
    simp [hlt]
  · rw [if_neg q, h j hj]
    have : ¬ j = i := fun z => q z.symm
    simp [this]
structure AncOk (ops : List Oper) (A : List Nat) : Prop where
  back : ∀ x o, ops[x]? = some o → ∀ e ∈ o.after, Region.binds .any e = true → e.on < x
  chain : ∀ x o, ops[x]? = some o → ∀ y, bit A x y = true → ∃ e ∈ o.after, Region.binds .any e = true ∧ (e.on = y ∨ bit A e.on y = true)
theorem ancOk_ok (h : ancOk ops A = true) : AncOk ops A := by
  simp only [ancOk, List.all_eq_true, List.mem_range] at h
  have key : ∀ x o, ops[x]? = some o → (∀ e ∈ o.after.toList, bindsAny e = true → e.on < x) ∧ (∀ y, y < x → bit A x y = true → ∃ e ∈ o.after.toList, bindsAny e = true ∧ (e.on = y ∨ bit A e.on y = true)) ∧ A.getD x 0 < 2 ^ x := by
    intro x o ho
    have hlt : x < ops.length := by
      rcases Nat.lt_or_ge x ops.length with y | y
      · exact y
      · rw [List.getElem?_eq_none y] at ho; cases ho
    have := h x hlt
    rw [ho] at this
    simp only [Bool.and_eq_true, List.all_eq_true, List.mem_range, Bool.or_eq_true, Bool.not_eq_true', List.any_eq_true, Nat.blt_eq] at this
    obtain ⟨⟨a, b⟩, c⟩ := this
    refine ⟨fun e he hb => ?_, fun y hy hb => ?_, c⟩
    · rcases a e he with q | q
      · rw [hb] at q; cases q
      · exact q
    · rcases b y hy with q | ⟨e, he, hb1, q⟩
      · rw [hb] at q; cases q
      · exact ⟨e, he, hb1, by rcases q with q | q; exact .inl (Nat.eq_of_beq_eq_true q); exact .inr q⟩
  constructor
  · intro x o ho e he hb
    exact (key x o ho).1 e (Array.mem_toList_iff.2 he) hb
  · intro x o ho y hb
    obtain ⟨_, k2, k3⟩ := key x o ho
    have hy : y < x := by
      rcases Nat.lt_or_ge y x with q | q
      · exact q
      · exfalso
        unfold bit at hb
        have := Nat.testBit_lt_two_pow (Nat.lt_of_lt_of_le k3 (Nat.pow_le_pow_right (by omega) q))
        rw [this] at hb; cases hb
    obtain ⟨e, he, a, b⟩ := k2 y hy hb
    exact ⟨e, Array.mem_toList_iff.1 he, a, b⟩
theorem ready_iff {listed : Array Bool} (hl : LS listed S opsA.size) (hA : AncOk opsA.toList A) {i : Nat} :
    i ∈ Region.ready .any opsA listed ↔ i < opsA.size ∧ i ∉ S ∧ ∀ o, opsA[i]? = some o → ∀ e ∈ o.after, Region.binds .any e = true → e.on ∈ S := by
  unfold Region.ready
  rw [List.mem_filter, List.mem_range]
  constructor
  · rintro ⟨hi, h⟩
    simp only [Bool.and_eq_true, Bool.not_eq_true'] at h
    obtain ⟨h1, h2⟩ := h
    refine ⟨hi, ?_, ?_⟩
    · intro hS
      rw [Array.getD_eq_getD_getElem?, hl i hi] at h1
      simp [hS] at h1
    · intro o ho e he hb
      rw [ho] at h2
      simp only [Option.map_some, Option.getD_some, Array.all_eq_true_iff_forall_mem, Bool.or_eq_true, Bool.not_eq_true'] at h2
      have hon := hA.back i o (by simpa using ho) e he hb
      rcases h2 e he with q | q
      · rw [hb] at q; cases q
      · rw [Array.getD_eq_getD_getElem?, hl e.on (by omega)] at q
        simpa using q
  · rintro ⟨hi, hS, hd⟩
    refine ⟨hi, ?_⟩
    have ho : opsA[i]? = some opsA[i] := Array.getElem?_eq_getElem hi
    rw [Bool.and_eq_true, Array.getD_eq_getD_getElem?, hl i hi, ho]
    refine ⟨by simp [hS], ?_⟩
    simp only [Option.map_some, Option.getD_some, Array.all_eq_true_iff_forall_mem, Bool.or_eq_true, Bool.not_eq_true']
    intro e he
    cases hb : Region.binds .any e with
    | false => exact .inl rfl
    | true =>
      right
      have hon := hA.back i _ (show opsA.toList[i]? = some opsA[i] by rw [Array.getElem?_toList]; exact ho) e he hb
      rw [Array.getD_eq_getD_getElem?, hl e.on (by omega)]
      simpa using hd _ ho e he hb
theorem ready_nil {listed : Array Bool} (hl : LS listed S opsA.size) (hA : AncOk opsA.toList A) (h : Region.ready .any opsA listed = []) : ∀ x, x < opsA.size → x ∈ S := by
  intro x
  induction x using Nat.strongRecOn with
  | _ x ih =>
    intro hx
    by_cases q : x ∈ S
    · exact q
    · exfalso
      have : x ∈ Region.ready .any opsA listed := (ready_iff hl hA).2 ⟨hx, q, fun o ho e he hb => by
        have hon := hA.back x o (by simpa using ho) e he hb
        exact ih e.on hon (by omega)⟩
      rw [h] at this; cases this
theorem J.done (h : J P N opsA.toList A T0 n0 w₀ W g S φ t w Hm) {π : List Nat} (e : drawRun P rec N opsA.toList A π g = some gf) (hall : ∀ x, x < opsA.size → x ∈ S) :
    TR φ gf.T t ∧ I w₀ W φ gf.H gf.n w ∧ n0 ≤ gf.n := by
  obtain ⟨g', π', h', e', _, hπ⟩ := virt_all h e
  have lt : ∀ e ∈ g'.log, e.x < opsA.size := by
    intro e he
    obtain ⟨o, r, ho, _⟩ := h'.ent e he
    rcases Nat.lt_or_ge e.x opsA.size with q | q
    · exact q
    · rw [List.getElem?_eq_none (by simpa using q)] at ho; cases ho
  rcases hπ with rfl | ⟨x, π'', g1, rfl, h1, h2, o, ho, hE⟩
  · simp only [drawRun, Option.some.injEq] at e'; subst e'
    refine ⟨?_, h'.i.congr (fun i => ?_), h'.nle⟩
    · intro d v hv
      refine h'.tr d v ?_
      rw [h'.T d] at hv
      unfold TF
      cases hf : g'.log.find? (fun e => e.dst == some d) with
      | none => rw [hf] at hv; exact hv
      | some e =>
        rw [hf] at hv
        have := hall _ (lt e (List.mem_of_find?_eq_some hf))
        simp only [this, if_true]; exact hv
    · refine ((h'.hm i).2 ?_).symm
      rintro ⟨e, he, hn, _⟩
      exact hn (hall _ (lt e he))
  · exfalso
    have hx : x < opsA.size := by
      rcases Nat.lt_or_ge x opsA.size with q | q
      · exact q
      · rw [List.getElem?_eq_none (by simpa using q)] at ho; cases ho
    obtain ⟨e, he, q⟩ := h'.sub x (hall x hx)
    have := (drawStep_log h1).2.1
    rw [inLog_iff.2 ⟨e, he, q⟩] at this; cases this
theorem go_ok (hs : Snd P rec) (hA : AncOk opsA.toList A) : ∀ (fuel tp : Nat) (listed : Array Bool) (g : Reg) (S : List Nat) (φ : Phi) (t : Array Value) (w : World) (Hm : Hp) (π todo : List Nat),
    J P N opsA.toList A T0 n0 w₀ W g S φ t w Hm → drawRun P rec N opsA.toList A π g = some gf → (∀ x, x < opsA.size → inLog g.log x = true ∨ x ∈ π) → LS listed S opsA.size →
    (∀ x, x < opsA.size → x ∈ S ∨ x ∈ todo) → todo.length ≤ fuel →
    ∃ φ' w' t', Ext φ n0 φ' gf.n ∧ TR φ' gf.T t' ∧ t'.size = N ∧ I w₀ W φ' gf.H gf.n w' ∧
      Steps P (lone (fr f t (.inRegion opsA (Region.linearise.go .any opsA fuel tp listed []) :: k) ds kd ro) cs w) (lone (fr f t' k ds kd ro) cs w') := by
  intro fuel
  induction fuel with
  | zero =>
    intro tp listed g S φ t w Hm π todo h e hc hl ht hf
    have hall : ∀ x, x < opsA.size → x ∈ S := by
      intro x hx
      rcases ht x hx with q | q
      · exact q
      · have : todo = [] := List.eq_nil_of_length_eq_zero (by omega)
        rw [this] at q; cases q
    obtain ⟨a, b, c⟩ := h.done e hall
    exact ⟨φ, w, t, ⟨Phi.le_refl _, fun _ _ z => .inl z, c⟩, a, h.sz, b, by simpa [Region.linearise.go] using Steps.one st_region_end⟩
  | succ fuel ih =>
    intro tp listed g S φ t w Hm π todo h e hc hl ht hf
    simp only [Region.linearise.go]
    change ∃ φ' w' t', Ext φ n0 φ' gf.n ∧ TR φ' gf.T t' ∧ t'.size = N ∧ I w₀ W φ' gf.H gf.n w' ∧
      Steps P (lone (fr f t (.inRegion opsA (match (Region.ready .any opsA listed)[tp % (Region.ready .any opsA listed).length]? with
        | some i => Region.linearise.go .any opsA fuel (tp / (Region.ready .any opsA listed).length) (listed.setIfInBounds i true) [i]
        | none => [].reverse) :: k) ds kd ro) cs w) (lone (fr f t' k ds kd ro) cs w')
    cases hi : (Region.ready .any opsA listed)[tp % (Region.ready .any opsA listed).length]? with
    | none =>
      have hnil : Region.ready .any opsA listed = [] := by
        cases hr : Region.ready .any opsA listed with
        | nil => rfl
        | cons x xs =>
          rw [hr] at hi
          have hlt : tp % (x :: xs).length < (x :: xs).length := Nat.mod_lt _ (by simp)
          simp at hi
          simp at hlt
          omega
      obtain ⟨a, b, c⟩ := h.done e (ready_nil hl hA hnil)
      exact ⟨φ, w, t, ⟨Phi.le_refl _, fun _ _ z => .inl z, c⟩, a, h.sz, b, Steps.one st_region_end⟩
    | some i =>
      simp only []
      rw [linearise_go_acc, List.reverse_singleton, List.singleton_append]
      obtain ⟨hin, hiS, hid⟩ := (ready_iff hl hA).1 (List.mem_of_getElem? hi)
      have ho : opsA[i]? = some opsA[i] := Array.getElem?_eq_getElem hin
      have hanc : ∀ y, bit A i y = true → y ∈ S := by
        intro y hy
        obtain ⟨e', he', hb, q⟩ := hA.chain i _ (show opsA.toList[i]? = some opsA[i] by rw [Array.getElem?_toList]; exact ho) y hy
        have hon := hid _ ho e' he' hb
        rcases q with rfl | q
        · exact hon
        · exact h.cl _ hon y q
      have ht' : ∀ x, x < opsA.size → x ∈ i :: S ∨ x ∈ todo.erase i := by
        intro x hx
        by_cases q : x = i
        · exact .inl (by rw [q]; exact List.mem_cons_self)
        · rcases ht x hx with y | y
          · exact .inl (List.mem_cons_of_mem _ y)
          · exact .inr ((List.mem_erase_of_ne q).2 y)
      have hlen : (todo.erase i).length ≤ fuel := by
        have : i ∈ todo := (ht i hin).resolve_left hiS
        rw [List.length_erase_of_mem this]; omega
      obtain ⟨g', π', h', e', hc', hπ⟩ := virt_all h e
      have hcov : ∀ x, x < opsA.size → inLog g'.log x = true ∨ x ∈ π' := fun x hx => hc' x (hc x hx)
      by_cases hin' : inLog g'.log i = true
      · obtain ⟨e0, he0, hx0⟩ := inLog_iff.1 hin'
        obtain ⟨φ1, w1, t1, Hm1, x1, j1, s1⟩ := h'.real (f := f) (k := k) (ds := ds) (kd := kd) (ro := ro) (cs := cs) (rest := Region.linearise.go .any opsA fuel (tp / (Region.ready .any opsA listed).length) (listed.setIfInBounds i true) []) he0 hx0 hiS hanc
        obtain ⟨φ2, w2, t2, x2, a2, b2, c2, s2⟩ := ih _ _ _ _ _ _ _ _ _ _ j1 e' hcov (hl.set hin) ht' hlen
        exact ⟨φ2, w2, t2, x1.trans0 x2, a2, b2, c2, Steps.trans s1 s2⟩
      · have hip := (hcov i hin).resolve_left hin'
        rcases hπ with rfl | ⟨x, π'', g1, rfl, h1, h2, o, hox, hE⟩
        · cases hip
        · obtain ⟨⟨o', ho', hbar⟩, hnew, e1, hlog, hx1⟩ := drawStep_log h1
          rw [hox] at ho'; cases ho'
          have hxi : i = x := by
            rcases List.mem_cons.1 hip with q | q
            · exact q
            · exfalso
              have hxS := hanc x (hbar hE i q)
              obtain ⟨e2, he2, q2⟩ := h'.sub x hxS
              rw [inLog_iff.2 ⟨e2, he2, q2⟩] at hnew; cases hnew
          subst hxi
          obtain ⟨_, _, _, φ1, w1, t1, Hm1, x1, j1, s1⟩ := h'.effect hs (f := f) (k := k) (ds := ds) (kd := kd) (ro := ro) (cs := cs) (rest := Region.linearise.go .any opsA fuel (tp / (Region.ready .any opsA listed).length) (listed.setIfInBounds i true) []) hox hE hanc h1
          have hcov1 : ∀ x, x < opsA.size → inLog g1.log x = true ∨ x ∈ π'' := by
            intro y hy
            rw [hlog]
            rcases hcov y hy with q | q
            · obtain ⟨e2, he2, q2⟩ := inLog_iff.1 q
              exact .inl (inLog_iff.2 ⟨e2, List.mem_cons_of_mem _ he2, q2⟩)
            · rcases List.mem_cons.1 q with rfl | q
              · exact .inl (inLog_iff.2 ⟨e1, List.mem_cons_self, hx1⟩)
              · exact .inr q
          obtain ⟨φ2, w2, t2, x2, a2, b2, c2, s2⟩ := ih _ _ _ _ _ _ _ _ _ _ j1 h2 hcov1 (hl.set hin) ht' hlen
          exact ⟨φ2, w2, t2, x1.trans0 x2, a2, b2, c2, Steps.trans s1 s2⟩
theorem drawE_ok (hs : Snd P rec) : DrawOk P (drawE P rec) := by
  intro f ops st st' e w₀ W φ w t ds kd k cs ro' tp hS
  unfold drawE at e
  simp only at e
  split at e
  case h_2 => cases e
  rename_i hcond
  simp only [Bool.and_eq_true] at hcond
  obtain ⟨⟨hanc, hcov⟩, hmix⟩ := hcond
  split at e
  case h_2 => cases e
  rename_i g hrun
  simp only [Option.some.injEq] at e; subst e
  have hA := ancOk_ok hanc
  have hJ : J P (ntm P f) ops.toList (ancs ops.toList) st.T st.n w₀ W { log := [], T := st.T, H := st.H, n := st.n } [] φ t w st.H := by
    refine ⟨fun d v z => hS.tr d v z, hS.sz, hS.i, fun i => ⟨fun ⟨_, z, _⟩ => absurd z (by simp), fun _ => rfl⟩, fun i ⟨_, z, _⟩ => absurd z (by simp), fun x z => absurd z (by simp), fun x z => absurd z (by simp),
      ⟨fun _ z => absurd z (by simp), fun _ z => absurd z (by simp), fun _ z => absurd z (by simp)⟩, fun _ z => absurd z (by simp), fun _ z => absurd z (by simp), fun _ z => absurd z (by simp), fun _ => rfl, Nat.le_refl _, fun _ z => absurd z (by simp)⟩
  have hL : LS (Array.replicate ops.size false) [] ops.size := by
    intro i hi
    simp [hi]
  have hcv : ∀ x, x < ops.size → inLog ({ log := [], T := st.T, H := st.H, n := st.n } : Reg).log x = true ∨ x ∈ order ops.toList (ancs ops.toList) := by
    intro x hx
    simp only [covers, List.all_eq_true, List.mem_range] at hcov
    exact .inr (by simpa using hcov x (by simpa using hx))
  obtain ⟨φ', w', t', x1, a1, b1, c1, s1⟩ := go_ok (f := f) (k := k) (ds := ds) (kd := kd) (ro := ro') (cs := cs) hs hA ops.size tp (Array.replicate ops.size false) _ [] φ t w st.H _ (List.range ops.size) hJ hrun hcv hL (fun x hx => .inr (List.mem_range.2 hx)) (by simp)
  refine ⟨φ', w', t', x1, ⟨c1, a1, b1, hS.d.mono x1.le⟩, ?_⟩
  have : Region.schedule (P.follows .mixedOrders) ops tp = Region.linearise.go .any ops ops.size tp (Array.replicate ops.size false) [] := by
    simp [Region.schedule, hmix, Region.linearise]
  rw [this]; exact s1
theorem calls_of {P : Program} {rec : Rec} (hs : Snd P rec) {f : FuncId} {args : List Value} {v : Value} {st st' : St} (e : callB P rec f args st = some (v, st'))
    {w₀ : World} {W : Sets} {φ : Phi} {w : World} {args' : List Value} (hI : I w₀ W φ st.H st.n w) (hargs : VRL φ args args') :
    Calls P f ⟨args'⟩ w fun en w' => ∃ φ' v', en = .returned v' ∧ VR φ' v v' ∧ Ext φ st.n φ' st'.n ∧ I w₀ W φ' st'.H st'.n w' := by
  unfold callB at e
  split at e
  · cases e
  rename_i fn hf
  split at e
  · cases e
  rename_i c hb
  split at e
  · cases e
  rename_i hcond
  simp only [Bool.or_eq_true, not_or, Bool.not_eq_true] at hcond
  obtain ⟨hname, hlt⟩ := hcond
  have hlt : args.length ≤ fn.ntmps := by simpa using hlt
  split at e
  · cases e
  · rename_i ex s hne hrec
    split at e
    · cases e
    rename_i H' hH
    split at e
    · cases e
    rename_i vs hvs
    simp only [Option.some.injEq, Prod.mk.injEq] at e
    obtain ⟨rfl, rfl⟩ := e
    intro cs
    have hal := hargs.length
    have h0 : S w₀ W φ { T := argsT .nil 0 args, H := st.H, n := st.n, D := [] } (ntm P f) (⟨args'⟩ ++ Array.replicate (fn.ntmps - (⟨args'⟩ : Array Value).size) undef) [] w := by
      refine ⟨hI, ?_, ?_, rfl⟩
      · have := args_ok (φ := φ) (T := .nil) (i := 0) (pre := []) (List.replicate (fn.ntmps - args'.length) undef) hargs rfl TR.nil
        have e1 : ((⟨args'⟩ : Array Value) ++ Array.replicate (fn.ntmps - (⟨args'⟩ : Array Value).size) undef) = ⟨[] ++ args' ++ List.replicate (fn.ntmps - args'.length) undef⟩ := by
          apply Array.ext'; simp
        rw [e1]; exact this
      · rw [ntm_eq hf]; simp; omega
    obtain ⟨φ1, w1, t1, ds1, hle, hS, hg⟩ := hs _ _ _ _ _ _ hrec w₀ W φ w _ [] .normal [] cs none h0 rfl
    have fin : ∀ kk, Steps P (lone (fr f (⟨args'⟩ ++ Array.replicate (fn.ntmps - (⟨args'⟩ : Array Value).size) undef) [.code c] [] .normal none) cs w) (lone { fr f t1 kk ds1 .normal none with mode := .returning } cs w1) →
        ∃ e w' fr, (∃ φ' v', e = .returned v' ∧ VR φ' (oneV vs) v' ∧ Ext φ st.n φ' s.n ∧ I w₀ W φ' H' s.n w') ∧ Comes P (lone (Frame.enter P f ⟨args'⟩ .normal) cs w) (lone fr cs w') e ∧ fr.fn = f ∧ fr.leaving P w' e := by
      intro kk hst
      obtain ⟨w2, hI2, hun⟩ := unwind_ok (P := P) (f := f) (t := t1) (k := kk) (kd := .normal) (ro := none) (cs := cs) hS.i hS.d hH
      obtain ⟨v', hv', hres⟩ := results_ok (fn := fn) hI2 hS.tr hvs
      refine ⟨.returned v', w2, { fr f t1 kk [] .normal none with mode := .returning }, ⟨φ1, v', rfl, hv', hle, hI2⟩, ?_, rfl, rfl, rfl, rfl, fn, hf, hres⟩
      rw [enter_eq hf hb]
      exact hst.trans hun
    cases ex with
    | exit id => exact absurd rfl (hne id)
    | norm => exact fin [] (Steps.trans hg (.one st_leave))
    | ret =>
      obtain ⟨kk, hg⟩ := hg
      exact fin _ (Steps.trans hg (.one st_leave_ret))
  · cases e
end Go.Ev
