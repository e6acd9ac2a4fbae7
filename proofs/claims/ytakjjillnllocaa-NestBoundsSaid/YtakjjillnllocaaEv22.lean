import Derived.Test.YtakjjillnllocaaEv21
namespace Go.Ev
open Go
variable {P : Program} {w₀ : World} {W : Sets} {φ : Phi} {st st' : St} {w : World} {H : Hp} {n : Nat} {rec : Rec}
  {f : FuncId} {t : Array Value} {k : List Item} {ds : List Deferred} {kd : CallKind} {cs : List Frame} {N : Nat}
inductive Lv where
  | leaf
  | node (cut : Option (List Nat)) (a b : Lv)
def Lv.c : Lv → Option (List Nat)
  | .leaf => none
  | .node c _ _ => c
def Lv.a : Lv → Lv
  | .leaf => .leaf
  | .node _ a _ => a
def Lv.b : Lv → Lv
  | .leaf => .leaf
  | .node _ _ b => b
noncomputable def cutT : Option (List Nat) → Tm → Tm
  | none, T => T
  | some L, T => restrict T L
noncomputable def cutS (c : Option (List Nat)) (st : St) : St := { st with T := cutT c st.T }
theorem CodeOk.cut {ro : Option Nat} {c : Code} {ex : Ex} {L : Option (List Nat)} (h : CodeOk P ro f c (cutS L st) ex st') : CodeOk P ro f c st ex st' := by
  intro w₀ W φ w t ds kd k cs ro' hS hro
  refine h w₀ W φ w t ds kd k cs ro' ⟨hS.i, ?_, hS.sz, hS.d⟩ hro
  cases L with
  | none => exact hS.tr
  | some L =>
    intro i v e
    simp only [cutS, cutT, restrict_get] at e
    split at e
    · exact hS.tr i v e
    · cases e
abbrev RecL := Lv → Option Nat → FuncId → Code → St → Option (Ex × St)
noncomputable def evA (P : Program) (rec : Rec) (lp : RecL) (draw : Draw) (ro : Option Nat) (f : FuncId) : Code → Lv → St → Option (Ex × St)
  | .skip, _, st => some (.norm, st)
  | .label _, _, st => some (.norm, st)
  | .ret, _, st => some (.ret, st)
  | .exit id, _, st => some (.exit id, st)
  | .seq a b, lv, st => seqE (evA P rec lp draw ro f a lv.a st) fun s => evA P rec lp draw ro f b lv.b (cutS lv.c s)
  | .cond c a b, lv, st => match opd c st.T with
    | some (.bool true) => evA P rec lp draw ro f a lv.a st
    | some (.bool false) => evA P rec lp draw ro f b lv.b st
    | _ => none
  | .block id c, lv, st => blockE id (evA P rec lp draw ro f c lv.a st)
  | .scope c, lv, st => evA P rec lp draw ro f c lv.a st
  | .loop c, lv, st => seqE (evA P rec lp draw ro f c lv.a (cutS lv.c st)) fun s => lp lv ro f (.loop c) (cutS lv.c s)
  | .region _ ops false, _, st => normE (evOps P rec (ntm P f) ops.toList ops.toList st)
  | .region _ ops true, _, st => normE (draw f (ntm P f) ops.toList st)
  | .rangeFunc x params assign body, _, st => rangeE P rec ro f x params assign body st
  | _, _, _ => none
theorem evA_ok {lp : RecL} {draw : Draw} (hs : Snd P rec) (hlp : ∀ lv, Snd P (lp lv)) (hdr : DrawOk P draw) {ro : Option Nat} : ∀ (c : Code) (lv : Lv) (st : St) (ex : Ex) (st' : St), evA P rec lp draw ro f c lv st = some (ex, st') → CodeOk P ro f c st ex st'
  | .skip, lv, st, ex, st', e => by
    simp only [evA, Option.some.injEq, Prod.mk.injEq] at e
    obtain ⟨rfl, rfl⟩ := e
    intro w₀ W φ w t ds kd k cs ro' hS hro
    exact ⟨φ, w, t, ds, Ext.refl _ _, hS, .one st_skip⟩
  | .label l, lv, st, ex, st', e => by
    simp only [evA, Option.some.injEq, Prod.mk.injEq] at e
    obtain ⟨rfl, rfl⟩ := e
    intro w₀ W φ w t ds kd k cs ro' hS hro
    exact ⟨φ, w, t, ds, Ext.refl _ _, hS, .one st_label⟩
  | .ret, lv, st, ex, st', e => by
    simp only [evA, Option.some.injEq, Prod.mk.injEq] at e
    obtain ⟨rfl, rfl⟩ := e
    intro w₀ W φ w t ds kd k cs ro' hS hro
    exact ⟨φ, w, t, ds, Ext.refl _ _, hS, k, .refl _ _⟩
  | .exit id, lv, st, ex, st', e => by
    simp only [evA, Option.some.injEq, Prod.mk.injEq] at e
    obtain ⟨rfl, rfl⟩ := e
    intro w₀ W φ w t ds kd k cs ro' hS hro
    exact ⟨φ, w, t, ds, Ext.refl _ _, hS, k, rfl, .refl _ _⟩
  | .seq a b, lv, st, ex, st', e => by
    simp only [evA] at e
    cases ha : evA P rec lp draw ro f a lv.a st with
    | none => rw [ha] at e; cases e
    | some r =>
      obtain ⟨ex1, s⟩ := r
      rw [ha] at e
      have h1 := evA_ok hs hlp hdr a lv.a st ex1 s ha
      cases ex1 with
      | norm => exact h1.then (evA_ok hs hlp hdr b lv.b _ ex st' e).cut
      | exit id => simp only [seqE, Option.some.injEq, Prod.mk.injEq] at e; obtain ⟨rfl, rfl⟩ := e; exact h1.out (by intro x; cases x)
      | ret => simp only [seqE, Option.some.injEq, Prod.mk.injEq] at e; obtain ⟨rfl, rfl⟩ := e; exact h1.out (by intro x; cases x)
  | .cond c a b, lv, st, ex, st', e => by
    simp only [evA] at e
    split at e
    · rename_i hc
      have h1 := evA_ok hs hlp hdr a lv.a st ex st' e
      intro w₀ W φ w t ds kd k cs ro' hS hro
      have hv := opd_ok (a := ⟨t, []⟩) hS.tr hc; simp only [VR] at hv
      obtain ⟨φ1, w1, t1, ds1, hle1, hS1, g1⟩ := h1 w₀ W φ w t ds kd k cs ro' hS hro
      exact ⟨φ1, w1, t1, ds1, hle1, hS1, .of_steps (.one (st_cond hv)) g1⟩
    · rename_i hc
      have h1 := evA_ok hs hlp hdr b lv.b st ex st' e
      intro w₀ W φ w t ds kd k cs ro' hS hro
      have hv := opd_ok (a := ⟨t, []⟩) hS.tr hc; simp only [VR] at hv
      obtain ⟨φ1, w1, t1, ds1, hle1, hS1, g1⟩ := h1 w₀ W φ w t ds kd k cs ro' hS hro
      exact ⟨φ1, w1, t1, ds1, hle1, hS1, .of_steps (.one (st_cond hv)) g1⟩
    · cases e
  | .block id c, lv, st, ex, st', e => by
    simp only [evA] at e
    cases ha : evA P rec lp draw ro f c lv.a st with
    | none => rw [ha] at e; cases e
    | some r =>
      obtain ⟨ex1, s⟩ := r
      rw [ha] at e
      have h1 := evA_ok hs hlp hdr c lv.a st ex1 s ha
      intro w₀ W φ w t ds kd k cs ro' hS hro
      obtain ⟨φ1, w1, t1, ds1, hle1, hS1, g1⟩ := h1 w₀ W φ w t ds kd (.inBlock id :: k) cs ro' hS hro
      cases ex1 with
      | norm =>
        simp only [blockE, Option.some.injEq, Prod.mk.injEq] at e; obtain ⟨rfl, rfl⟩ := e
        exact ⟨φ1, w1, t1, ds1, hle1, hS1, .head st_block (Steps.trans g1 (.one st_inBlock))⟩
      | exit j =>
        obtain ⟨kk, hk, g1⟩ := g1
        simp only [blockE] at e
        split at e
        · rename_i hj
          have hj := Nat.eq_of_beq_eq_true hj; subst hj
          simp only [Option.some.injEq, Prod.mk.injEq] at e; obtain ⟨rfl, rfl⟩ := e
          refine ⟨φ1, w1, t1, ds1, hle1, hS1, .head st_block (Steps.trans g1 (.one (st_exit ?_)))⟩
          rw [hk]; simp [exitTo]
        · rename_i hj
          simp only [Option.some.injEq, Prod.mk.injEq] at e; obtain ⟨rfl, rfl⟩ := e
          refine ⟨φ1, w1, t1, ds1, hle1, hS1, kk, ?_, .head st_block g1⟩
          rw [hk]
          have : (id == j) = false := by
            have h0 : Nat.beq j id = false := hj
            cases h : (id == j) with
            | false => rfl
            | true => have := eq_of_beq h; subst this; rw [Nat.beq_refl] at h0; cases h0
          simp [exitTo, this]
      | ret =>
        simp only [blockE, Option.some.injEq, Prod.mk.injEq] at e; obtain ⟨rfl, rfl⟩ := e
        obtain ⟨kk, g1⟩ := g1
        exact ⟨φ1, w1, t1, ds1, hle1, hS1, kk, .head st_block g1⟩
  | .scope c, lv, st, ex, st', e => by
    simp only [evA] at e
    have h1 := evA_ok hs hlp hdr c lv.a st ex st' e
    intro w₀ W φ w t ds kd k cs ro' hS hro
    obtain ⟨φ1, w1, t1, ds1, hle1, hS1, g1⟩ := h1 w₀ W φ w t ds kd (.inScope c :: k) cs ro' hS hro
    refine ⟨φ1, w1, t1, ds1, hle1, hS1, .of_steps (.one st_scope) ?_⟩
    cases ex with
    | norm => exact Steps.trans g1 (.one st_inScope)
    | exit id => obtain ⟨kk, hk, g1⟩ := g1; exact ⟨kk, hk.trans (exit_cons (fun j x => by cases x)), g1⟩
    | ret => exact g1
  | .loop c, lv, st, ex, st', e => by
    simp only [evA] at e
    cases ha : evA P rec lp draw ro f c lv.a (cutS lv.c st) with
    | none => rw [ha] at e; cases e
    | some r =>
      obtain ⟨ex1, s⟩ := r
      rw [ha] at e
      have h1 := (evA_ok hs hlp hdr c lv.a _ ex1 s ha).cut
      intro w₀ W φ w t ds kd k cs ro' hS hro
      obtain ⟨φ1, w1, t1, ds1, hle1, hS1, g1⟩ := h1 w₀ W φ w t ds kd (.inLoop c :: k) cs ro' hS hro
      cases ex1 with
      | norm =>
        simp only [seqE] at e
        obtain ⟨φ2, w2, t2, ds2, hle2, hS2, g2⟩ := (hlp _ _ _ _ _ _ _ e).cut w₀ W φ1 w1 t1 ds1 kd k cs ro' hS1 (hro.mono hle1.le)
        exact ⟨φ2, w2, t2, ds2, hle1.trans hle2, hS2, .of_steps (.head st_loop g1) g2.again⟩
      | exit j =>
        simp only [seqE, Option.some.injEq, Prod.mk.injEq] at e; obtain ⟨rfl, rfl⟩ := e
        obtain ⟨kk, hk, g1⟩ := g1
        exact ⟨φ1, w1, t1, ds1, hle1, hS1, kk, hk.trans (exit_cons (fun j x => by cases x)), .head st_loop g1⟩
      | ret =>
        simp only [seqE, Option.some.injEq, Prod.mk.injEq] at e; obtain ⟨rfl, rfl⟩ := e
        obtain ⟨kk, g1⟩ := g1
        exact ⟨φ1, w1, t1, ds1, hle1, hS1, kk, .head st_loop g1⟩
  | .region id ops false, lv, st, ex, st', e => by
    simp only [evA] at e
    cases ha : evOps P rec (ntm P f) ops.toList ops.toList st with
    | none => rw [ha] at e; cases e
    | some s =>
      rw [ha] at e
      simp only [normE, Option.some.injEq, Prod.mk.injEq] at e; obtain ⟨rfl, rfl⟩ := e
      intro w₀ W φ w t ds kd k cs ro' hS hro
      obtain ⟨φ1, w1, t1, hle, hS1, hst⟩ := evOps_ok (f := f) (k := k) (kd := kd) (ro := ro') (cs := cs) hs (pre := []) rfl hS ha
      refine ⟨φ1, w1, t1, ds, hle, hS1, .head st_region ?_⟩
      have : List.range ops.size = List.range' ([] : List Oper).length ops.toList.length := by simp [List.range_eq_range']
      rw [this]; exact hst
  | .region id ops true, lv, st, ex, st', e => by
    simp only [evA] at e
    cases ha : draw f (ntm P f) ops.toList st with
    | none => rw [ha] at e; cases e
    | some s =>
      rw [ha] at e
      simp only [normE, Option.some.injEq, Prod.mk.injEq] at e; obtain ⟨rfl, rfl⟩ := e
      intro w₀ W φ w t ds kd k cs ro' hS hro
      have hS' : S w₀ W φ st (ntm P f) t ds { w with drawn := w.drawn + 1 } := ⟨hS.i.drew _, hS.tr, hS.sz, hS.d⟩
      obtain ⟨φ1, w1, t1, hle, hS1, hst⟩ := hdr f ops st s ha w₀ W φ _ t ds kd k cs ro' (w.tape w.drawn (.order f id)) hS'
      exact ⟨φ1, w1, t1, ds, hle, hS1, .head st_region_draw hst⟩
  | .rangeFunc x params assign body, lv, st, ex, st', e => by
    simp only [evA] at e
    exact rangeE_ok hs e
  | .goto l, lv, st, ex, st', e => by simp [evA] at e
  | .refuse y, lv, st, ex, st', e => by simp [evA] at e
noncomputable def evFA (P : Program) (cal : Rec) : Nat → RecL
  | 0, _, _, _, _, _ => none
  | k + 1, lv, ro, f, c, st => evA P cal (evFA P cal k) (drawE P cal) ro f c lv st
noncomputable def lvOf (A : FuncId → Lv) (f : FuncId) : Option Nat → Lv
  | none => A f
  | some _ => .leaf
noncomputable def evLA (P : Program) (A : FuncId → Lv) (F : Nat) : Nat → Rec
  | 0, _, _, _, _ => none
  | l + 1, ro, f, c, st => evFA P (evLA P A F l) F (lvOf A f ro) ro f c st
theorem evFA_ok (P : Program) {cal : Rec} (hs : Snd P cal) : ∀ k lv, Snd P (evFA P cal k lv)
  | 0, _ => fun _ _ _ _ _ _ e => by simp [evFA] at e
  | k + 1, lv => fun ro f c st ex st' e => evA_ok hs (fun lv => evFA_ok P hs k lv) (drawE_ok hs) c lv st ex st' e
theorem evLA_ok (P : Program) (A : FuncId → Lv) (F : Nat) : ∀ l, Snd P (evLA P A F l)
  | 0 => fun _ _ _ _ _ _ e => by simp [evLA] at e
  | l + 1 => fun ro f c st ex st' e => evFA_ok P (evLA_ok P A F l) F _ ro f c st ex st' e
end Go.Ev
