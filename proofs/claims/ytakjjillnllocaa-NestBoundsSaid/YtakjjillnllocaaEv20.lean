import Derived.Test.YtakjjillnllocaaEv19
namespace Go.Ev
open Go
variable {P : Program} {w₀ : World} {W : Sets} {φ : Phi} {st st' : St} {w : World} {H Hm : Hp} {n n0 : Nat} {rec : Rec}
  {f : FuncId} {t : Array Value} {k : List Item} {ds : List Deferred} {kd : CallKind} {ro : Option Nat} {cs : List Frame} {N : Nat}
  {opsA : Array Oper} {A : List Nat} {T0 : Tm} {g g1 : Reg} {S : List Nat}
theorem tr_of {r : Tm} {F : Nat → Option Value} {slots : List Nat} (h : TRF φ F t) (h1 : ∀ d, d ∉ slots → r.get d = none) (h2 : ∀ d ∈ slots, F d = r.get d) : TR φ r t := by
  intro d v e
  by_cases q : d ∈ slots
  · exact h d v (by rw [h2 d q]; exact e)
  · rw [h1 d q] at e; cases e
theorem trf_put {F F' : Nat → Option Value} (h : TRF φ F t) {dst : Option Tmp} {v v' : Value} (hN : inN t.size dst = true) (hv : VR φ v v')
    (hF : ∀ d, F' d = if dst = some d then some v else F d) : TRF φ F' ((⟨t, []⟩ : Act).put dst v').tmps := by
  intro d u e
  rw [hF] at e
  cases dst with
  | none => simp at e; exact h d u e
  | some d' =>
    simp only [inN, Nat.blt_eq] at hN
    split at e
    · rename_i q; cases q; cases e
      exact ⟨v', by simp [Act.put, hN], hv⟩
    · rename_i q
      obtain ⟨u', a, b⟩ := h d u e
      refine ⟨u', ?_, b⟩
      have : d' ≠ d := fun z => q (by rw [z])
      simp only [Act.put]
      rw [Array.getElem?_setIfInBounds_ne this]; exact a
theorem TF_in (hu : Uniq g.log) {e : Ent} (he : e ∈ g.log) (hS : e.x ∉ S) (d : Nat) : TF (e.x :: S) g.log T0 d = if e.dst = some d then some e.v else TF S g.log T0 d := by
  unfold TF
  by_cases q : e.dst = some d
  · rw [find_dst hu he q]; simp [q]
  · rw [if_neg q]
    cases hf : g.log.find? (fun e => e.dst == some d) with
    | none => rfl
    | some e' =>
      have h1 := List.mem_of_find?_eq_some hf
      have h2 := List.find?_some hf
      simp at h2
      have hx : e'.x ≠ e.x := by
        intro z; have := hu.x e' h1 e he z; subst this; exact q h2
      simp [hx]
theorem wanted_of {o : Oper} {r : Tm} {b : Bool} (ht : TR φ r t) (e : wantedA opsA.toList o.guard r = some b) : Region.wanted o (yielded opsA t) = b := wanted_ok ht e
theorem J.real (h : J P N opsA.toList A T0 n0 w₀ W g S φ t w Hm) {x : Nat} {rest : List Nat} {e : Ent} (he : e ∈ g.log) (hx : e.x = x) (hS : x ∉ S) (hanc : ∀ y, bit A x y = true → y ∈ S) :
    ∃ φ' w' t' Hm', Ext φ n0 φ' g.n ∧ J P N opsA.toList A T0 n0 w₀ W g (x :: S) φ' t' w' Hm' ∧
      Steps P (lone (fr f t (.inRegion opsA (x :: rest) :: k) ds kd ro) cs w) (lone (fr f t' (.inRegion opsA rest :: k) ds kd ro) cs w') := by
  subst hx
  obtain ⟨o, r, ho, hdst, hN, hrun, hr1, hr2⟩ := h.ent e he
  have ho' : opsA[e.x]? = some o := by simpa using ho
  have hr2' := hr2 S h.cl hanc hS
  have htr : TR φ r t := tr_of h.tr hr1 hr2'
  have hNt : inN t.size o.dst = true := by rw [h.sz]; exact hN
  have hcl : Closed A (e.x :: S) := by
    intro y hy z hz
    rcases List.mem_cons.1 hy with rfl | hy
    · exact List.mem_cons_of_mem _ (hanc z hz)
    · exact List.mem_cons_of_mem _ (h.cl y hy z hz)
  -- what all ways share
  have fin : ∀ {φ' : Phi} {w' : World} {v' : Value} {Hm' : Hp}, Ext φ n0 φ' g.n → I w₀ W φ' Hm' g.n w' → VR φ' e.v v' →
      (∀ i, (Pend (e.x :: S) g.log i → Hm'.get i = none) ∧ (¬ Pend (e.x :: S) g.log i → Hm'.get i = g.H.get i)) → (∀ i, Pend (e.x :: S) g.log i → φ' i = none) →
      Steps P (lone (fr f t (.inRegion opsA (e.x :: rest) :: k) ds kd ro) cs w) (lone (fr f ((⟨t, []⟩ : Act).put o.dst v').tmps (.inRegion opsA rest :: k) ds kd ro) cs w') →
      ∃ φ' w' t' Hm', Ext φ n0 φ' g.n ∧ J P N opsA.toList A T0 n0 w₀ W g (e.x :: S) φ' t' w' Hm' ∧
        Steps P (lone (fr f t (.inRegion opsA (e.x :: rest) :: k) ds kd ro) cs w) (lone (fr f t' (.inRegion opsA rest :: k) ds kd ro) cs w') := by
    intro φ' w' v' Hm' hext hI hv hhm hp hst
    refine ⟨φ', w', _, Hm', hext, ⟨?_, ?_, hI, hhm, hp, ?_, hcl, h.un, h.ent, ?_, ?_, h.T, h.nle, h.ids⟩, hst⟩
    · exact trf_put (h.tr.mono hext.le) hNt hv (fun d => by rw [TF_in h.un he hS d, hdst])
    · have : ((⟨t, []⟩ : Act).put o.dst v').tmps.size = t.size := by cases o.dst <;> simp [Act.put]
      rw [this]; exact h.sz
    · intro y hy
      rcases List.mem_cons.1 hy with rfl | hy
      · exact ⟨e, he, rfl⟩
      · exact h.sub y hy
    · intro e' he' hn; exact h.cur e' he' (fun z => hn (List.mem_cons_of_mem _ z))
    · intro e' he' hk; exact List.mem_cons_of_mem _ (h.eff e' he' hk)
  have pendSame : (∀ i c ty, e.k ≠ .a i c ty) → ∀ i, Pend (e.x :: S) g.log i ↔ Pend S g.log i := by
    intro hna i
    constructor
    · rintro ⟨e', he', hn, hk⟩; exact ⟨e', he', fun z => hn (List.mem_cons_of_mem _ z), hk⟩
    · rintro ⟨e', he', hn, c, ty, hk⟩
      refine ⟨e', he', fun z => ?_, c, ty, hk⟩
      rcases List.mem_cons.1 z with q | q
      · have := h.un.x e' he' e he q; subst this; exact hna i c ty hk
      · exact hn q
  have finSame : ∀ {φ' : Phi} {w' : World} {v' : Value}, (∀ i c ty, e.k ≠ .a i c ty) → Ext φ g.n φ' g.n → I w₀ W φ' Hm g.n w' → VR φ' e.v v' →
      Steps P (lone (fr f t (.inRegion opsA (e.x :: rest) :: k) ds kd ro) cs w) (lone (fr f ((⟨t, []⟩ : Act).put o.dst v').tmps (.inRegion opsA rest :: k) ds kd ro) cs w') →
      ∃ φ' w' t' Hm', Ext φ n0 φ' g.n ∧ J P N opsA.toList A T0 n0 w₀ W g (e.x :: S) φ' t' w' Hm' ∧
        Steps P (lone (fr f t (.inRegion opsA (e.x :: rest) :: k) ds kd ro) cs w) (lone (fr f t' (.inRegion opsA rest :: k) ds kd ro) cs w') := by
    intro φ' w' v' hna hext hI hv hst
    have hnew : ∀ i p, φ' i = some p → φ i = some p := by
      intro i p hp
      rcases hext.new i p hp with q | q
      · exact q
      · have := (hI.dom i p hp).1; omega
    refine fin ⟨hext.le, fun i p hp => .inl (hnew i p hp), h.nle⟩ hI hv (fun i => ⟨fun z => (h.hm i).1 ((pendSame hna i).1 z), fun z => (h.hm i).2 (fun y => z ((pendSame hna i).2 y))⟩) ?_ hst
    intro i hi
    have h0 := h.pend i ((pendSame hna i).1 hi)
    cases hh : φ' i with
    | none => rfl
    | some p => rw [hnew i p hh] at h0; cases h0
  rcases hrun with ⟨hwa, hv, hk⟩ | ⟨hwa, hk⟩
  · -- the guard says no
    refine finSame (by intro i c ty z; rcases hk with hk | hk <;> rw [hk] at z <;> cases z) (Ext.refl _ _) h.i (v' := undef) (by rw [hv]; exact pureV.refl rfl) (.one (st_op_skip ho' (wanted_of htr hwa)))
  · have hw := wanted_of htr hwa
    cases hek : e.k with
    | p =>
      rw [hek] at hk
      simp only at hk
      obtain ⟨φ', w', v', hext, hI, hv, hst⟩ := cOp_ok (P := P) (rec := fun _ _ _ _ => none) (f := f) (k := k) (ds := ds) (kd := kd) (ro := ro) (cs := cs) (rest := rest) (fun _ _ _ _ _ _ z => by cases z) (st := ⟨r, Hm, g.n, []⟩) h.i htr ho' hw
        (v := e.v) (s := ⟨r, Hm, g.n, []⟩) (by
          have := hk Hm g.n []
          unfold cOp
          split
          · rename_i c hop
            rw [hop] at this
            simp only [aOp] at this
            unfold cCall
            split
            · rename_i fo hcal
              unfold oCall at this; rw [hcal] at this; cases this
            · exact this
          · exact this)
      exact finSame (by intro i c ty z; rw [hek] at z; cases z) hext hI hv hst
    | l ty ad =>
      rw [hek] at hk
      simp only at hk
      obtain ⟨a, hop, had⟩ := hk
      have hcur := h.cur e he hS
      unfold Cur at hcur; rw [hek] at hcur; simp only at hcur
      have hvr := opd_ok (a := ⟨t, []⟩) htr had
      simp only [VR] at hvr
      obtain ⟨ad', hav, har⟩ := hvr
      have hload : loadV P Hm ty ad = some e.v := by
        rw [← hcur]
        refine loadV_congr ?_
        refine (h.hm _).2 ?_
        intro hp
        obtain ⟨⟨c, hφ⟩, _⟩ := har
        rw [h.pend _ hp] at hφ; cases hφ
      obtain ⟨v', hv1, hv2⟩ := loadV_ok (P := P) h.i har hload
      refine finSame (by intro i c ty z; rw [hek] at z; cases z) (Ext.refl _ _) h.i hv1 (.one (st_op_value ho' hw (by intro c z; rw [hop] at z; cases z) (.inl ?_)))
      have : (execOp (⟨t, []⟩ : Act).eval o) = valOf (Instr.loadAt ty ((⟨t, []⟩ : Act).eval a)) := by simp only [execOp, hop]; rfl
      rw [this]
      exact valOf_run (by simp [Instr.loadAt, Instr.sureAddr, hav, hv2])
    | a id c ty =>
      rw [hek] at hk
      simp only at hk
      obtain ⟨hka, H0, hop⟩ := hk
      have hcur := h.cur e he hS
      unfold Cur at hcur; rw [hek] at hcur; simp only at hcur
      obtain ⟨c1, c', el, mk, hs, hpre, hmk, hmk2, hexec⟩ := kind_a hka htr hop
      simp only [pushB, St.mk.injEq, true_and, and_true] at hs
      have hcc : c1 = c ∧ el = ty := by
        have := congrArg (fun q => q.get id) hs
        simp only [Tr.get_set, if_true, Option.some.injEq, Blk.cells.injEq, and_true] at this
        exact ⟨this.1.symm, this.2.symm⟩
      obtain ⟨rfl, rfl⟩ := hcc
      have hpid : φ id = none := h.pend id ⟨e, he, hS, _, _, hek⟩
      have hext : Ext φ n0 (ext φ id (w.heap.size, 0)) g.n := by
        refine ⟨ext_le hpid, fun i p hp => ?_, h.nle⟩
        unfold ext at hp
        split at hp
        · rename_i q; subst q; exact .inr (h.ids e he _ _ _ hek).1
        · exact .inl hp
      have hI := h.i.pushAt (Hn := Hm.set id (some (.cells c1 el false none))) hpid hcur.2 (b := .cells c1 el false none) (o := .cells ⟨c'⟩ el) (cp := 0)
        ⟨⟨c'⟩, (0, 0), rfl, fun _ => rfl, hpre, fun s z => by cases z⟩ (fun j => Tr.get_set _ _ _ _)
      have hpnd : ∀ i, Pend (e.x :: S) g.log i ↔ Pend S g.log i ∧ i ≠ id := by
        intro i
        constructor
        · rintro ⟨e', he', hn, c2, ty2, hk2⟩
          refine ⟨⟨e', he', fun z => hn (List.mem_cons_of_mem _ z), c2, ty2, hk2⟩, fun z => ?_⟩
          subst z
          have := h.un.a e' he' e he _ _ _ _ _ hk2 hek
          subst this; exact hn (List.mem_cons_self)
        · rintro ⟨⟨e', he', hn, c2, ty2, hk2⟩, hne⟩
          refine ⟨e', he', fun z => ?_, c2, ty2, hk2⟩
          rcases List.mem_cons.1 z with q | q
          · have := h.un.x e' he' e he q; subst this
            rw [hek] at hk2; cases hk2; exact hne rfl
          · exact hn q
      refine fin (v' := mk w.heap.size) hext hI ?_ ?_ ?_ (.one (st_op_value ho' hw ?_ (.inl (hexec w))))
      · rw [hmk]
        rcases hmk2 with rfl | ⟨len, cap, hlen, rfl⟩
        · simp only [ptr, VR]; exact ⟨_, rfl, ⟨0, ext_new _ _ _⟩, rfl, rfl⟩
        · simp only [VR]; exact ⟨_, _, rfl, ⟨⟨0, ext_new _ _ _⟩, rfl, rfl⟩, .inl ⟨hlen, rfl⟩⟩
      · intro i
        rw [Tr.get_set]
        constructor
        · intro z
          obtain ⟨z1, z2⟩ := (hpnd i).1 z
          rw [if_neg z2]; exact (h.hm i).1 z1
        · intro z
          by_cases q : i = id
          · subst q; rw [if_pos rfl]; exact hcur.1.symm
          · rw [if_neg q]; exact (h.hm i).2 (fun y => z ((hpnd i).2 ⟨y, q⟩))
      · intro i z
        obtain ⟨z1, z2⟩ := (hpnd i).1 z
        unfold ext; rw [if_neg z2]; exact h.pend i z1
      · intro c2 z; rw [z] at hka; simp [kindOf] at hka
    | e => exact absurd (h.eff e he hek) hS
    | m ty mv kk ok v1 =>
      rw [hek] at hk
      simp only at hk
      obtain ⟨rfl, a, b, hop, hmv, hkk⟩ := hk
      have hcur := h.cur e he hS
      unfold Cur at hcur; rw [hek] at hcur; simp only at hcur
      have h1 := opd_ok (a := ⟨t, []⟩) htr hmv
      have h2 := opd_ok (a := ⟨t, []⟩) htr hkk
      have hlook : lookupV P Hm ty mv kk ok = some e.v := by
        rw [← hcur]
        refine lookupV_congr fun r hr => ?_
        refine (h.hm _).2 ?_
        intro hp
        subst hr
        simp only [VR] at h1
        obtain ⟨r', c, _, hφ⟩ := h1
        rw [h.pend _ hp] at hφ; cases hφ
      obtain ⟨hv2, hv1⟩ := lookupV_run (st := ⟨r, Hm, g.n, []⟩) h.i h1 h2 hlook
      refine finSame (by intro i c ty z; rw [hek] at z; cases z) (Ext.refl _ _) h.i hv1 (.one (st_op_value ho' hw (by intro c z; rw [hop] at z; cases z) (.inl ?_)))
      have : (execOp (⟨t, []⟩ : Act).eval o) = valOf (Instr.lookup ty ((⟨t, []⟩ : Act).eval a) ((⟨t, []⟩ : Act).eval b) ok) := by simp only [execOp, hop]; rfl
      rw [this]
      exact valOf_run hv2
theorem Ext.trans0 {ψ χ : Phi} {m m' : Nat} (h : Ext φ n0 ψ m) (g : Ext ψ n0 χ m') : Ext φ n0 χ m' :=
  ⟨Phi.le_trans h.le g.le, fun i p e => by
    rcases g.new i p e with x | x
    · exact h.new i p x
    · exact .inr x, g.n⟩
theorem J.effect (hs : Snd P rec) (h : J P N opsA.toList A T0 n0 w₀ W g S φ t w Hm) {x : Nat} {rest rest' : List Nat} {o : Oper} (ho : opsA.toList[x]? = some o) (hE : isE o = true)
    (hanc : ∀ y, bit A x y = true → y ∈ S) (e : drawStep P rec N opsA.toList A x rest' g = some g1) :
    (∀ y ∈ rest', bit A y x = true) ∧ inLog g.log x = false ∧ (∃ e0, g1.log = e0 :: g.log ∧ e0.x = x) ∧
    ∃ φ' w' t' Hm', Ext φ n0 φ' g1.n ∧ J P N opsA.toList A T0 n0 w₀ W g1 (x :: S) φ' t' w' Hm' ∧
      Steps P (lone (fr f t (.inRegion opsA (x :: rest) :: k) ds kd ro) cs w) (lone (fr f t' (.inRegion opsA rest :: k) ds kd ro) cs w') := by
  have ho' : opsA[x]? = some o := by simpa using ho
  unfold drawStep at e
  rw [ho] at e
  simp only at e
  split at e
  · cases e
  rename_i hcond
  simp only [Bool.and_eq_true, Bool.not_eq_true'] at hcond
  obtain ⟨⟨hN, hsl⟩, hil⟩ := hcond
  have hS : x ∉ S := by
    intro hx
    obtain ⟨e', he', q⟩ := h.sub x hx
    have : inLog g.log x = true := inLog_iff.2 ⟨e', he', q⟩
    rw [hil] at this; cases this
  have hNt : inN t.size o.dst = true := by rw [h.sz]; exact hN
  have hcl : Closed A (x :: S) := by
    intro y hy z hz
    rcases List.mem_cons.1 hy with rfl | hy
    · exact List.mem_cons_of_mem _ (hanc z hz)
    · exact List.mem_cons_of_mem _ (h.cl y hy z hz)
  -- what both ways share
  have fin : ∀ {v : Value} {H1 : Hp} {n1 : Nat} {φ' : Phi} {w' : World} {v' : Value} {Hm' : Hp},
      RunOk P opsA.toList { x, dst := o.dst, slots := slotsOf opsA.toList o, v, k := .e } o (restrict g.T (slotsOf opsA.toList o)) →
      Ext φ n0 φ' n1 → g.n ≤ n1 → I w₀ W φ' Hm' n1 w' → VR φ' v v' →
      (∀ i, (Pend S g.log i → Hm'.get i = none) ∧ (¬ Pend S g.log i → Hm'.get i = H1.get i)) → (∀ i, Pend S g.log i → φ' i = none) →
      (∀ e ∈ g.log, e.x ∉ S → Cur P H1 n1 e) →
      Steps P (lone (fr f t (.inRegion opsA (x :: rest) :: k) ds kd ro) cs w) (lone (fr f ((⟨t, []⟩ : Act).put o.dst v').tmps (.inRegion opsA rest :: k) ds kd ro) cs w') →
      ∃ φ' w' t' Hm', Ext φ n0 φ' n1 ∧ J P N opsA.toList A T0 n0 w₀ W (addE g x o.dst (slotsOf opsA.toList o) v .e H1 n1) (x :: S) φ' t' w' Hm' ∧
        Steps P (lone (fr f t (.inRegion opsA (x :: rest) :: k) ds kd ro) cs w) (lone (fr f t' (.inRegion opsA rest :: k) ds kd ro) cs w') := by
    intro v H1 n1 φ' w' v' Hm' hrun hext hn1 hI hv hhm hp hcur hst
    obtain ⟨q1, q2, q3, q4, q5, q6⟩ := add_slots (v := v) (kx := .e) h hsl hil
    have hun := h.un.cons (e0 := { x, dst := o.dst, slots := slotsOf opsA.toList o, v, k := .e }) q3 q4 (fun _ _ _ _ _ _ _ _ z => by cases z)
    have hpnd : ∀ i, Pend (x :: S) ({ x, dst := o.dst, slots := slotsOf opsA.toList o, v, k := .e } :: g.log) i ↔ Pend S g.log i := by
      intro i
      constructor
      · rintro ⟨e', he', hn, c, ty, hk⟩
        rcases List.mem_cons.1 he' with rfl | he'
        · cases hk
        · exact ⟨e', he', fun z => hn (List.mem_cons_of_mem _ z), c, ty, hk⟩
      · rintro ⟨e', he', hn, c, ty, hk⟩
        refine ⟨e', List.mem_cons_of_mem _ he', fun z => ?_, c, ty, hk⟩
        rcases List.mem_cons.1 z with z | z
        · exact q3 e' he' z
        · exact hn z
    refine ⟨φ', w', _, Hm', hext, ⟨?_, ?_, hI, fun i => ⟨fun z => (hhm i).1 ((hpnd i).1 z), fun z => (hhm i).2 (fun y => z ((hpnd i).2 y))⟩, fun i z => hp i ((hpnd i).1 z), ?_, hcl, hun, ?_, ?_, ?_, q6, hext.n, ?_⟩, hst⟩
    · refine trf_put (h.tr.mono hext.le) hNt hv (fun d => ?_)
      have := TF_in (g := addE g x o.dst (slotsOf opsA.toList o) v .e H1 n1) (S := S) (T0 := T0) hun (List.mem_cons_self) hS d
      simp only [addE] at this ⊢
      rw [this]
      by_cases q : o.dst = some d
      · simp [q]
      · simp only [if_neg q]; exact q5 S hS d
    · have : ((⟨t, []⟩ : Act).put o.dst v').tmps.size = t.size := by cases o.dst <;> simp [Act.put]
      rw [this]; exact h.sz
    · intro y hy
      rcases List.mem_cons.1 hy with rfl | hy
      · exact ⟨_, List.mem_cons_self, rfl⟩
      · obtain ⟨e', he', q⟩ := h.sub y hy; exact ⟨e', List.mem_cons_of_mem _ he', q⟩
    · intro e' he'
      rcases List.mem_cons.1 he' with rfl | he'
      · exact ⟨o, restrict g.T (slotsOf opsA.toList o), ho, rfl, hN, hrun, fun d hd => by rw [restrict_get, if_neg hd], q2⟩
      · exact q1 e' he'
    · intro e' he' hn
      rcases List.mem_cons.1 he' with rfl | he'
      · exact absurd List.mem_cons_self hn
      · exact hcur e' he' (fun z => hn (List.mem_cons_of_mem _ z))
    · intro e' he' hk
      rcases List.mem_cons.1 he' with rfl | he'
      · exact List.mem_cons_self
      · exact List.mem_cons_of_mem _ (h.eff e' he' hk)
    · intro e' he' i c ty hk
      rcases List.mem_cons.1 he' with rfl | he'
      · cases hk
      · exact ⟨(h.ids e' he' i c ty hk).1, Nat.lt_of_lt_of_le (h.ids e' he' i c ty hk).2 hn1⟩
  have htr : TR φ (restrict g.T (slotsOf opsA.toList o)) t := by
    obtain ⟨_, q2, _, _, q5, _⟩ := add_slots (v := undef) (kx := .e) h hsl hil
    refine tr_of h.tr (slots := slotsOf opsA.toList o) (fun d hd => by rw [restrict_get, if_neg hd]) (fun d hd => ?_)
    rw [← q2 S h.cl hanc hS d hd, q5 S hS d]
  split at e
  · cases e
  · rename_i hwa
    rw [hE] at e
    simp only at e
    split at e
    · rename_i hbar
      simp only [Option.some.injEq] at e; subst e
      refine ⟨by simpa using hbar, hil, ⟨_, rfl, rfl⟩, ?_⟩
      exact fin (.inl ⟨hwa, rfl, .inr rfl⟩) ⟨Phi.le_refl _, fun _ _ z => .inl z, h.nle⟩ (Nat.le_refl _) h.i (pureV.refl rfl) h.hm h.pend h.cur (.one (st_op_skip ho' (wanted_of htr hwa)))
    · cases e
  · rename_i hwa
    have hw := wanted_of htr hwa
    unfold drawOp at e
    split at e
    · rename_i hk; simp [isE, hk] at hE
    · rename_i hk; simp [isE, hk] at hE
    · rename_i hk; simp [isE, hk] at hE
    case h_5 => rename_i hk; simp [isE, hk] at hE
    rename_i hk
    split at e
    case h_2 => cases e
    rename_i H1 hbar hmask
    split at e
    case h_2 => cases e
    rename_i v s hc
    split at e
    case h_2 => cases e
    rename_i H2 hback
    split at e
    case h_2 => cases e
    rename_i hchk
    simp only [Option.some.injEq] at e; subst e
    refine ⟨by simpa using hbar, hil, ⟨_, rfl, rfl⟩, ?_⟩
    obtain ⟨m1, m2⟩ := maskL_ok hmask
    have bL := backL_ok hback
    -- what was not made yet is no ancestor
    have hPA : ∀ i, Pend S g.log i → AB A x g.log i := by
      rintro i ⟨e', he', hn, c, ty, hk'⟩
      refine ⟨e', he', ?_, c, ty, hk'⟩
      cases hb : bit A x e'.x with
      | false => rfl
      | true => exact absurd (hanc _ hb) hn
    have hsub : Sub (maskA A x H1 g.log) Hm := by
      intro i b' hi
      by_cases ha : AB A x g.log i
      · rw [(maskA_get i g.log).1 ha] at hi; cases hi
      · rw [(maskA_get i g.log).2 ha] at hi
        obtain ⟨b, hb1, hb2⟩ := m1 i b' hi
        exact ⟨b, by rw [(h.hm i).2 (fun z => ha (hPA i z))]; exact hb1, hb2⟩
    obtain ⟨φ', w', v', hext, hI, hv, hst⟩ := cOp_ok (f := f) (k := k) (ds := ds) (kd := kd) (ro := ro) (cs := cs) (rest := rest) hs (st := ⟨restrict g.T (slotsOf opsA.toList o), maskA A x H1 g.log, g.n, []⟩) (h.i.sub hsub) htr ho' hw hc
    have hext0 : Ext φ n0 φ' s.n := ⟨hext.le, fun i p z => by
      rcases hext.new i p z with y | y
      · exact .inl y
      · exact .inr (Nat.le_trans h.nle y), Nat.le_trans h.nle hext.n⟩
    have hpφ : ∀ i, Pend S g.log i → φ' i = none := by
      intro i hp
      obtain ⟨e', he', hn, c, ty, hk'⟩ := hp
      have h0 := h.pend i ⟨e', he', hn, c, ty, hk'⟩
      have hlt := (h.ids e' he' i c ty hk').2
      cases hh : φ' i with
      | none => rfl
      | some p =>
        rcases hext.new i p hh with y | y
        · rw [y] at h0; cases h0
        · simp only at y; omega
    -- the heap behind it, without what was not made yet
    let Hb := backA A x g.H H2 g.log
    have hHb : ∀ i, (AB A x g.log i → Hb.get i = g.H.get i) ∧ (¬ AB A x g.log i → LB A x g.log i → Hb.get i = g.H.get i) ∧ (¬ AB A x g.log i → ¬ LB A x g.log i → Hb.get i = s.H.get i) := by
      intro i
      refine ⟨(backA_get i g.log).1, fun ha hl => ?_, fun ha hl => ?_⟩
      · exact ((backA_get i g.log).2 ha).trans ((bL i).1 hl).1
      · exact ((backA_get i g.log).2 ha).trans ((bL i).2 hl)
    have hcut : ∃ Hm' : Hp, ∀ i, (Pend S g.log i → Hm'.get i = none) ∧ (¬ Pend S g.log i → Hm'.get i = Hb.get i) := by
      have : ∀ l : List Ent, (∀ e ∈ l, e ∈ g.log) → ∃ Hm' : Hp, ∀ i, (Pend S l i → Hm'.get i = none) ∧ (¬ Pend S l i → Hm'.get i = Hb.get i) := by
        intro l
        induction l with
        | nil => intro _; exact ⟨Hb, fun i => ⟨fun ⟨_, z, _⟩ => absurd z (by simp), fun _ => rfl⟩⟩
        | cons e' l ih =>
          intro hl
          obtain ⟨Hx, hx⟩ := ih (fun e he => hl e (List.mem_cons_of_mem _ he))
          have hc1 : ∀ i, Pend S (e' :: l) i ↔ (e'.x ∉ S ∧ ∃ c ty, e'.k = .a i c ty) ∨ Pend S l i := by intro i; unfold Pend; simp
          by_cases q : e'.x ∈ S
          · exact ⟨Hx, fun i => ⟨fun z => (hx i).1 (((hc1 i).1 z).resolve_left (fun y => y.1 q)), fun z => (hx i).2 (fun y => z ((hc1 i).2 (.inr y)))⟩⟩
          · cases hk' : e'.k with
            | a id c ty =>
              refine ⟨Hx.set id none, fun i => ?_⟩
              rw [Tr.get_set]
              constructor
              · intro z
                split
                · rfl
                · rename_i ne
                  refine (hx i).1 (((hc1 i).1 z).resolve_left ?_)
                  rintro ⟨_, c', ty', hk2⟩
                  rw [hk'] at hk2; cases hk2; exact ne rfl
              · intro z
                rw [if_neg]
                · exact (hx i).2 (fun y => z ((hc1 i).2 (.inr y)))
                · intro y; subst y; exact z ((hc1 i).2 (.inl ⟨q, c, ty, hk'⟩))
            | p => exact ⟨Hx, fun i => ⟨fun z => (hx i).1 (((hc1 i).1 z).resolve_left (by rintro ⟨_, c', ty', hk2⟩; rw [hk'] at hk2; cases hk2)), fun z => (hx i).2 (fun y => z ((hc1 i).2 (.inr y)))⟩⟩
            | l a b => exact ⟨Hx, fun i => ⟨fun z => (hx i).1 (((hc1 i).1 z).resolve_left (by rintro ⟨_, c', ty', hk2⟩; rw [hk'] at hk2; cases hk2)), fun z => (hx i).2 (fun y => z ((hc1 i).2 (.inr y)))⟩⟩
            | e => exact ⟨Hx, fun i => ⟨fun z => (hx i).1 (((hc1 i).1 z).resolve_left (by rintro ⟨_, c', ty', hk2⟩; rw [hk'] at hk2; cases hk2)), fun z => (hx i).2 (fun y => z ((hc1 i).2 (.inr y)))⟩⟩
            | m a b c d f => exact ⟨Hx, fun i => ⟨fun z => (hx i).1 (((hc1 i).1 z).resolve_left (by rintro ⟨_, c', ty', hk2⟩; rw [hk'] at hk2; cases hk2)), fun z => (hx i).2 (fun y => z ((hc1 i).2 (.inr y)))⟩⟩
      exact this g.log (fun _ z => z)
    obtain ⟨Hm', hm'⟩ := hcut
    have hIb : I w₀ W φ' Hm' s.n w' := by
      refine h.i.back hsub hI hext.le (fun i => AB A x g.log i ∨ LB A x g.log i) ?_ ?_
      · intro i b hno hi
        have hnp : ¬ Pend S g.log i := fun z => hno (.inl (hPA i z))
        rw [(hm' i).2 hnp, (hHb i).2.2 (fun z => hno (.inl z)) (fun z => hno (.inr z))] at hi
        exact hi
      · intro i b hov hi
        have hnp : ¬ Pend S g.log i := fun z => by rw [(hm' i).1 z] at hi; cases hi
        rw [(hm' i).2 hnp] at hi
        have hgi : g.H.get i = some b := by
          by_cases ha : AB A x g.log i
          · rw [← (hHb i).1 ha]; exact hi
          · rw [← (hHb i).2.1 ha (hov.resolve_left ha)]; exact hi
        refine ⟨by rw [(h.hm i).2 hnp]; exact hgi, ?_⟩
        by_cases ha : AB A x g.log i
        · exact .inl ((maskA_get i g.log).1 ha)
        · have hl := hov.resolve_left ha
          cases hm1 : H1.get i with
          | none => exact .inl (by rw [(maskA_get i g.log).2 ha]; exact hm1)
          | some b1 => exact .inr ⟨⟨b1, by rw [(maskA_get i g.log).2 ha]; exact hm1, m2 i b1 hl hm1⟩, ((bL i).1 hl).2⟩
    refine fin (.inr ⟨hwa, trivial⟩) hext0 hext.n hIb hv hm' hpφ ?_ hst
    intro e' he' hn
    have hcu := h.cur e' he' hn
    have hbf : bit A x e'.x = false := by
      cases hb : bit A x e'.x with
      | false => rfl
      | true => exact absurd (hanc _ hb) hn
    unfold Cur at hcu ⊢
    split
    · rename_i ty ad hk'
      rw [hk'] at hcu
      simp only at hcu
      rw [← hcu]
      refine loadV_congr ?_
      by_cases ha : AB A x g.log ad.block
      · exact (hHb _).1 ha
      · exact (hHb _).2.1 ha ⟨e', he', hbf, ty, ad, hk', rfl⟩
    · rename_i id c ty hk'
      rw [hk'] at hcu
      simp only at hcu
      exact ⟨((hHb id).1 ⟨e', he', hbf, c, ty, hk'⟩).trans hcu.1, Nat.lt_of_lt_of_le hcu.2 hext.n⟩
    · rename_i ty mv kk ok v1 hk'
      have := chkM_eq hchk e' he' hbf
      rw [hk'] at this
      exact chkE_m this
    · trivial
end Go.Ev
