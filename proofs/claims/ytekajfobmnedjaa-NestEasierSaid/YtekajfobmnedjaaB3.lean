/- With a lower Need or a higher Room, if the best layout exists, it still does, and has no more nests; with one more kind likewise: whatever the grove, the pad, by how much, and the kind. -/
import Derived.Test.YtekajfobmnedjaaB2
section
namespace Go.Proofs.Ytekajfobmnedjaa.spec
open Go Go.Ev Go.Proofs.Ytekajfobmnedjaa.nestFits Go.Proofs.Ytekajfobmnedjaa.G
set_option maxRecDepth 100000
theorem cntL_more {L : List Int} : ∀ {p d : Nat}, cntL L p (d + 1) = cntL L p d + (if L.getD (p + d) 0 = -1 then 0 else 1)
  | p, 0 => by simp [cntL]
  | p, d + 1 => by
    have ih := cntL_more (L := L) (p := p + 1) (d := d)
    have e : cntL L p (d + 1 + 1) = (if L.getD p 0 = -1 then 0 else 1) + cntL L (p + 1) (d + 1) := rfl
    have e2 : cntL L p (d + 1) = (if L.getD p 0 = -1 then 0 else 1) + cntL L (p + 1) d := rfl
    rw [e, ih, e2, show p + 1 + d = p + (d + 1) by omega]
    omega
theorem cntL_cntI {L : List Int} : ∀ {d : Nat}, (cntL L 0 d : Int) = cntI L d
  | 0 => rfl
  | d + 1 => by
    have ih := cntL_cntI (L := L) (d := d)
    rw [cntL_more, Nat.zero_add]
    unfold cntI at ih ⊢
    simp only [sumTo]
    rw [← ih]
    split <;> omega
theorem cntI_end {L : List Int} {np : Nat} : ∀ {j : Nat}, (∀ q, np ≤ q → q < np + j → L.getD q 0 = -1) → cntI L (np + j) = cntI L np
  | 0, _ => rfl
  | j + 1, h => by
    have ih := cntI_end (j := j) fun q h1 h2 => h q h1 (by omega)
    unfold cntI at ih ⊢
    rw [show np + (j + 1) = (np + j) + 1 by omega]
    simp only [sumTo]
    rw [ih, if_pos (h (np + j) (by omega) (by omega))]
    omega
theorem nests_laid {B : List Int} {np : Nat} (hB : B.length = np) (h : ∀ p, p < np → -1 ≤ B.getD p 0) : nestsR B np = cntI (laidL B np) np := by
  unfold nestsR cntI
  refine sumTo_same fun k hk => ?_
  rw [laidL_in hB hk]
  have := h k hk
  by_cases c : B.getD k 0 = -1
  · rw [if_pos c, if_neg (by omega)]
  · rw [if_neg c, if_pos (by omega)]
theorem laid_range {js ks B : List Int} {nj np nk : Nat} (h : laidOk js ks B nj np nk) : ∀ p, p < np → -1 ≤ B.getD p 0 ∧ B.getD p 0 < nk := by
  intro p hp
  rcases h p hp with z | ⟨z1, z2, _⟩ <;> omega
theorem goes_of {js ks B : List Int} {nj np nk : Nat} (hB : B.length = np) (hnp : np ≤ 8) (h : laidOk js ks B nj np nk) : GoesOn (fitD js ks nj np) nk noL 0 np (cntL (laidL B np) 0 np) (laidL B np) := by
  refine ⟨laidL_len hB hnp, fun q hq => absurd hq (by omega), fun q _ h2 => ?_, fun q h1 h2 => laidL_out hB (by omega) h2, rfl⟩
  rw [laidL_in hB (by omega)]
  rcases h q (by omega) with z | ⟨z1, z2, z3⟩
  · exact .inl z
  · exact .inr ⟨(B.getD q 0).toNat, by omega, z3, by omega⟩
theorem take_get {M : List Int} {np q : Nat} (hq : q < np) : (M.take np).getD q 0 = M.getD q 0 := by
  rw [List.getD_eq_getElem?_getD, List.getElem?_take, if_pos hq, ← List.getD_eq_getElem?_getD]
theorem take_laid {tk : Nat → Nat → Bool} {nk np i : Nat} {M : List Int} (h : GoesOn tk nk noL 0 np i M) (hnp : np ≤ 8) : (M.take np).length = np ∧ laidL (M.take np) np = M := by
  have l : (M.take np).length = np := by
    have := h.len
    simp [this]; omega
  refine ⟨l, list_ext8 (laidL_len l hnp) h.len fun q hq => ?_⟩
  by_cases c : q < np
  · rw [laidL_in l c, take_get c]
  · rw [laidL_out l (by omega) hq, h.after q (by omega) hq]
theorem take_ok {js ks M : List Int} {nj np nk i : Nat} (h : GoesOn (fitD js ks nj np) nk noL 0 np i M) : laidOk js ks (M.take np) nj np nk := by
  intro p hp
  rw [take_get hp]
  rcases h.kinds p (Nat.zero_le _) (by omega) with z | ⟨kd, h1, h2, h3⟩
  · exact .inl z
  · refine .inr ⟨by omega, by omega, ?_⟩
    rw [h3, Int.toNat_natCast]
    exact h2
theorem lexLt_same {A B C D : List Int} {np : Nat} (h1 : ∀ q, q < np → A.getD q 0 = C.getD q 0) (h2 : ∀ q, q < np → B.getD q 0 = D.getD q 0) (h : lexLt A B 0 np) : lexLt C D 0 np := by
  obtain ⟨q, q1, q2, q3, q4⟩ := h
  exact ⟨q, q1, q2, by rw [← h1 q q2, ← h2 q q2]; exact q3, fun k k1 k2 => by rw [← h1 k (by omega), ← h2 k (by omega)]; exact q4 k k1 k2⟩
theorem nests_cnt {js ks B : List Int} {nj np nk : Nat} (hB : B.length = np) (h : laidOk js ks B nj np nk) : nestsR B np = (cntL (laidL B np) 0 np : Nat) := by
  rw [nests_laid hB fun p hp => (laid_range h p hp).1, cntL_cntI]
theorem bestL_right {ps js ks M : List Int} {nj np nk : Nat} (hnp : np ≤ 8) (hks : KindsOk ks nk) (h : bestL ps js ks nj np nk = some M) :
    M.length = 8 ∧ (M.take np).length = np ∧ laidL (M.take np) np = M ∧ laidOk js ks (M.take np) nj np nk ∧ RightL js ks ps M nj np ∧ cntI M 8 = nestsR (M.take np) np ∧
    ∀ B, B.length = np → laidOk js ks B nj np nk → RightL js ks ps (laidL B np) nj np → M.take np = B ∨ LessP (M.take np) B np := by
  obtain ⟨i, i1, i2, i3, i4, i5⟩ := bestL_some hnp hks h
  obtain ⟨t1, t2⟩ := take_laid i2 hnp
  have ok := take_ok i2
  have ec : cntI M 8 = cntI M np := by
    have := cntI_end (L := M) (np := np) (j := 8 - np) fun q h1 h2 => i2.after q (by omega) (by omega)
    rw [show np + (8 - np) = 8 by omega] at this
    exact this
  have hc : nestsR (M.take np) np = (i : Nat) := by rw [nests_cnt t1 ok, t2, i2.cnt]
  refine ⟨i2.len, t1, t2, ok, i3, ?_, fun B hB hok hR => ?_⟩
  · rw [ec, hc, ← cntL_cntI, i2.cnt]
  · have hg := goes_of hB hnp hok
    have hcB := nests_cnt hB hok
    rcases Nat.lt_trichotomy (cntL (laidL B np) 0 np) i with c | c | c
    · exact absurd hR (i5 _ _ c hg)
    · rw [c] at hg
      rcases i4 _ hg hR with e | e
      · refine .inl (list_extN (by rw [t1, hB]) fun q hq => ?_)
        rw [t1] at hq
        rw [take_get hq, e, laidL_in hB hq]
      · refine .inr (.inr ⟨by rw [hc, hcB, c], lexLt_same (fun q hq => (take_get hq).symm) (fun q hq => laidL_in hB hq) e⟩)
    · exact .inr (.inl (by rw [hc, hcB]; omega))
theorem bestL_not {ps js ks : List Int} {nj np nk : Nat} (hnp : np ≤ 8) (hks : KindsOk ks nk) (h : bestL ps js ks nj np nk = none) : ∀ B, B.length = np → laidOk js ks B nj np nk → ¬ RightL js ks ps (laidL B np) nj np :=
  fun B hB hok => bestL_none hnp hks h _ _ (by have := cntL_le (L := laidL B np) (p := 0) (d := np); exact this) (goes_of hB hnp hok)
end Go.Proofs.Ytekajfobmnedjaa.spec
end
section
namespace Go.Proofs.Ytekajfobmnedjaa.spec
open Go Go.Ev Go.Proofs.Ytekajfobmnedjaa.nestFits Go.Proofs.Ytekajfobmnedjaa.G
set_option maxRecDepth 100000
theorem best_easier {ps js ks ps' ks' M : List Int} {nj np nk nk' : Nat} (hnp : np ≤ 8) (hks : KindsOk ks nk) (hks' : KindsOk ks' nk') (hok : ∀ B, laidOk js ks B nj np nk → laidOk js ks' B nj np nk')
    (hr : ∀ B, B.length = np → laidOk js ks B nj np nk → RightL js ks ps (laidL B np) nj np → RightL js ks' ps' (laidL B np) nj np) (h : bestL ps js ks nj np nk = some M) : ∃ M', bestL ps' js ks' nj np nk' = some M' ∧ cntI M' 8 ≤ cntI M 8 := by
  obtain ⟨b1, b2, b3, b4, b5, b6, b7⟩ := bestL_right hnp hks h
  have r1 := hok _ b4
  have r2 := hr _ b2 b4 (by rw [b3]; exact b5)
  cases hc : bestL ps' js ks' nj np nk' with
  | none => exact absurd r2 (bestL_not hnp hks' hc _ b2 r1)
  | some M' =>
    obtain ⟨c1, c2, c3, c4, c5, c6, c7⟩ := bestL_right hnp hks' hc
    refine ⟨M', rfl, ?_⟩
    rw [c6, b6]
    rcases c7 _ b2 r1 r2 with e | e | ⟨e, _⟩
    · rw [e]; exact Int.le_refl _
    · omega
    · omega
theorem right_pads {ps js ks ps' L : List Int} {nj np : Nat} (h : ∀ q, q < np → ps'.getD (q * 2) 0 ≤ ps.getD (q * 2) 0 ∧ ps.getD (q * 2 + 1) 0 ≤ ps'.getD (q * 2 + 1) 0) (hr : RightL js ks ps L nj np) : RightL js ks ps' L nj np := fun q hq => by
  have := hr q hq
  have := h q hq
  omega
theorem more_get {ks ms : List Int} {nk kd i : Nat} (hl : ks.length = nk * 5) (hkd : kd < nk) (hi : i < 5) : (ks ++ ms).getD (kd * 5 + i) 0 = ks.getD (kd * 5 + i) 0 := by
  rw [List.getD_eq_getElem?_getD, List.getD_eq_getElem?_getD, List.getElem?_append_left (by omega)]
theorem more_get0 {ks ms : List Int} {nk kd : Nat} (hl : ks.length = nk * 5) (hkd : kd < nk) : (ks ++ ms).getD (kd * 5) 0 = ks.getD (kd * 5) 0 := more_get (i := 0) hl hkd (by omega)
theorem more_shP {js ks ms : List Int} {nj np nk kd p : Nat} (hl : ks.length = nk * 5) (hkd : kd < nk) : shP js (ks ++ ms) nj np p kd = shP js ks nj np p kd := by
  unfold shP
  rw [more_get hl hkd (by omega), more_get hl hkd (by omega), more_get hl hkd (by omega), more_get hl hkd (by omega)]
theorem more_fit {js ks ms : List Int} {nj np nk kd p : Nat} (hl : ks.length = nk * 5) (hkd : kd < nk) : fitD js (ks ++ ms) nj np p kd = fitD js ks nj np p kd := by
  unfold fitD
  rw [more_shP hl hkd, more_get0 hl hkd]
theorem more_laid {js ks ms B : List Int} {nj np nk : Nat} (hl : ks.length = nk * 5) (h : laidOk js ks B nj np nk) : laidOk js (ks ++ ms) B nj np (nk + 1) := fun p hp => by
  rcases h p hp with e | ⟨h1, h2, h3⟩
  · exact .inl e
  · exact .inr ⟨h1, by omega, by rw [more_fit hl (by omega)]; exact h3⟩
theorem more_bsum {js ks ms B : List Int} {nj np nk e q : Nat} (hl : ks.length = nk * 5) (hB : B.length = np) (h : laidOk js ks B nj np nk) : bsum js (ks ++ ms) (laidL B np) nj np 8 e q = bsum js ks (laidL B np) nj np 8 e q := by
  unfold bsum
  refine sumTo_same fun p hp => ?_
  by_cases hpn : p < np
  · rw [laidL_in hB hpn]
    by_cases q : B.getD p 0 = -1
    · rw [if_pos q, if_pos q]
    · have := laid_range h p hpn
      rw [if_neg q, if_neg q, more_shP hl (by omega), more_get0 hl (by omega)]
  · rw [laidL_out hB (by omega) hp, if_pos rfl, if_pos rfl]
theorem more_right {js ks ps ms B : List Int} {nj np nk : Nat} (hl : ks.length = nk * 5) (hB : B.length = np) (h : laidOk js ks B nj np nk) (hr : RightL js ks ps (laidL B np) nj np) : RightL js (ks ++ ms) ps (laidL B np) nj np := fun q hq => by
  rw [more_bsum hl hB h, more_bsum hl hB h]
  exact hr q hq
theorem best_more {ps js ks ms M : List Int} {nj np nk : Nat} (hl : ks.length = nk * 5) (hnp : np ≤ 8) (hks : KindsOk ks nk) (hks' : KindsOk (ks ++ ms) (nk + 1)) (h : bestL ps js ks nj np nk = some M) : ∃ M', bestL ps js (ks ++ ms) nj np (nk + 1) = some M' ∧ cntI M' 8 ≤ cntI M 8 :=
  best_easier hnp hks hks' (fun _ h => more_laid hl h) (fun _ hB h hr => more_right hl hB h hr) h
theorem best_pads {ps js ks ps' M : List Int} {nj np nk : Nat} (hnp : np ≤ 8) (hks : KindsOk ks nk) (hp : ∀ q, q < np → ps'.getD (q * 2) 0 ≤ ps.getD (q * 2) 0 ∧ ps.getD (q * 2 + 1) 0 ≤ ps'.getD (q * 2 + 1) 0) (h : bestL ps js ks nj np nk = some M) : ∃ M', bestL ps' js ks nj np nk = some M' ∧ cntI M' 8 ≤ cntI M 8 :=
  best_easier hnp hks hks (fun _ h => h) (fun _ _ _ hr => right_pads hp hr) h
def easePs (ps : List Int) (p : Nat) (u w : Int) : List Int := (ps.set (p * 2) (max 0 (ps.getD (p * 2) 0 - u))).set (p * 2 + 1) (min 1000 (ps.getD (p * 2 + 1) 0 + w))
theorem ease_len (ps : List Int) (p : Nat) (u w : Int) : (easePs ps p u w).length = ps.length := by unfold easePs; rw [List.length_set, List.length_set]
theorem ease_get {ps : List Int} {np p q : Nat} {u w : Int} (hl : ps.length = np * 2) (hp : p < np) (hu : 0 ≤ u) (hw : 0 ≤ w) (good : ∀ q, q < np → ¬ PBad ps q) (hq : q < np) :
    ((easePs ps p u w).getD (q * 2) 0 ≤ ps.getD (q * 2) 0 ∧ ps.getD (q * 2 + 1) 0 ≤ (easePs ps p u w).getD (q * 2 + 1) 0) ∧ ¬ PBad (easePs ps p u w) q := by
  have g := good q hq
  unfold PBad at g ⊢
  rw [Classical.not_not] at g ⊢
  unfold easePs
  rw [getD_set_ne (show q * 2 ≠ p * 2 + 1 by omega)]
  by_cases e : q = p
  · subst e
    rw [getD_set_same (by omega), getD_set_same (by rw [List.length_set]; omega)]
    omega
  · rw [getD_set_ne (by omega), getD_set_ne (by omega), getD_set_ne (by omega)]
    omega
theorem ease_ok {ps js ks : List Int} {np nj nk p : Nat} {u w : Int} (he : faultN np nj nk ps js ks = 0) (hl : ps.length = np * 2) (hp : p < np) (hu : 0 ≤ u) (hw : 0 ≤ w) : faultN np nj nk (easePs ps p u w) js ks = 0 ∧
    ∀ q, q < np → (easePs ps p u w).getD (q * 2) 0 ≤ ps.getD (q * 2) 0 ∧ ps.getD (q * 2 + 1) 0 ≤ (easePs ps p u w).getD (q * 2 + 1) 0 := by
  have g := good_of he
  have gp : ∀ q, q < np → ¬ PBad ps q := fun q hq h => g.ok (.inl ⟨q, hq, h⟩)
  have all := fun q hq => ease_get hl hp hu hw gp (q := q) hq
  refine ⟨?_, fun q hq => (all q hq).1⟩
  unfold faultN
  have h1 := g.np8
  have h2 := g.nj16
  have h3 := g.nk3
  have h4 := g.np1
  have h5 := g.nk1
  rw [if_neg (by omega), if_neg (by omega), if_neg]
  rintro (⟨q, hq, h⟩ | h)
  · exact (all q hq).2 h
  · exact g.ok (.inr h)
end Go.Proofs.Ytekajfobmnedjaa.spec
end
section
namespace Go.Proofs.Ytekajfobmnedjaa.spec
open Go Go.Ev Go.Proofs.Ytekajfobmnedjaa.nestFits Go.Proofs.Ytekajfobmnedjaa.G
set_option maxRecDepth 100000
variable {ρ : Type}
theorem ez_max (a b : Int) (H : Hp) (n : Nat) (k : Value → Hp → Nat → Option ρ) :
    builtinK P .max [3, 3] (Go.Call.mk (Go.Callee.builtin Go.Builtin.max) #[(Go.Operand.const (Value.int IntKind.i64 0)), (Go.Operand.tmp 68)] #[3, 3]) 3 [.int .i64 a, .int .i64 b] H n k = k (.int .i64 (max a b)) H n := by
  have h : max a b = if b > a then b else a := by omega
  rw [h]
  rfl
theorem ez_min (a b : Int) (H : Hp) (n : Nat) (k : Value → Hp → Nat → Option ρ) :
    builtinK P .min [3, 3] (Go.Call.mk (Go.Callee.builtin Go.Builtin.min) #[(Go.Operand.const (Value.int IntKind.i64 1000)), (Go.Operand.tmp 77)] #[3, 3]) 3 [.int .i64 a, .int .i64 b] H n k = k (.int .i64 (min a b)) H n := by
  have h : min a b = if b < a then b else a := by omega
  rw [h]
  rfl
theorem ez_index {m np i : Nat} (hi : i < np) : indexAddrV P 22 (.slice (some ⟨m, 0, none⟩) np capV) (.int .i64 i) = some (.pointer (some ⟨m, 0 + i * 2, none⟩)) := by
  unfold indexAddrV
  simp only [und22, sz95]
  have : idxIn (.int .i64 (i : Int)) np = some i := by
    show idxIn (.int .i64 (.ofNat i)) np = some i
    simp [idxIn, hi]
  rw [this]
  simp [addA]
theorem ez_len (m np : Nat) : lenV P 22 (.slice (some ⟨m, 0, none⟩) np capV) = some (.int .i64 np) := by
  unfold lenV
  simp only [und22]
  rfl
theorem ease_I64 {ps : List Int} {p : Nat} {u w : Int} (h : ∀ x ∈ ps, I64 x) (hu : I64 (max 0 (ps.getD (p * 2) 0 - u))) (hw : I64 (min 1000 (ps.getD (p * 2 + 1) 0 + w))) : ∀ x ∈ easePs ps p u w, I64 x := by
  intro x hx
  unfold easePs at hx
  rcases List.mem_or_eq_of_mem_set hx with hx | rfl
  · rcases List.mem_or_eq_of_mem_set hx with hx | rfl
    · exact h x hx
    · exact hu
  · exact hw
theorem vec_slice {H : Hp} {n s m len : Nat} {e : TypeId} {vec : Option Nat} {xs : List Int} (hl : xs.length = len * s) (hx : ∀ x ∈ xs, I64 x) (hm : m < n) (hlc : len ≤ capV) (h : H.get m = some (.cells (ints xs) e false vec)) : SliceI H n s (.slice (some ⟨m, 0, none⟩) len capV) len xs :=
  ⟨hl, hx, .inr ⟨m, 0, capV, rfl, hlc, Nat.le_refl _, hm, .inr (cells_at h)⟩⟩
noncomputable def ezN (np nj nk : Nat) (ps js ks : List Int) : Int := match bestL ps js ks nj np nk with
  | some M => cntI M 8
  | none => 0
noncomputable def ezE (np nj nk : Nat) (ps js ks : List Int) : Int := match bestL ps js ks nj np nk with
  | some _ => 0
  | none => 10
theorem ezE_or (np nj nk : Nat) (ps js ks : List Int) : ezE np nj nk ps js ks = 0 ∨ ezE np nj nk ps js ks = 10 := by
  unfold ezE
  cases bestL ps js ks nj np nk <;> simp
theorem ez_same {np nj nk nk' : Nat} {ps ps' js ks ks' : List Int} (h : ∀ M, bestL ps js ks nj np nk = some M → ∃ M', bestL ps' js ks' nj np nk' = some M' ∧ cntI M' 8 ≤ cntI M 8) (he : ezE np nj nk ps js ks = 0) :
    ezE np nj nk' ps' js ks' = 0 ∧ ezN np nj nk' ps' js ks' ≤ ezN np nj nk ps js ks := by
  cases hc : bestL ps js ks nj np nk with
  | none => unfold ezE at he; rw [hc] at he; cases he
  | some M =>
    obtain ⟨M', h1, h2⟩ := h M hc
    unfold ezE ezN
    rw [hc, h1]
    exact ⟨rfl, h2⟩
theorem easier_core (c : Cal)
    (Hawake : ∀ (H : Hp) (n : Nat) (k : Value → Hp → Nat → Res), callFK P c 16 [] H n k = k (.bool true) H n)
    (Hthin : ∀ {np nj nk : Nat} {ps js ks : List Int} (H : Hp) (n : Nat) (v : Value), GroveI H n v np nj nk ps js ks → ∃ (r : Bool) (H' : Hp) (n' : Nat), (r = true ↔ thin np nj nk 0) ∧ (∀ k : Value → Hp → Nat → Res, callFK P c 15 [v, .slice none 0 0] H n k = k (.bool r) H' n') ∧ n ≤ n' ∧ Keep n H H')
    (Hfault : ∀ {np nj nk : Nat} {ps js ks : List Int} (H : Hp) (n : Nat) (v : Value), GroveI H n v np nj nk ps js ks → ∃ H' n', (∀ k : Value → Hp → Nat → Res, callFK P c 20 [v] H n k = k (.int .i64 (faultN np nj nk ps js ks)) H' n') ∧ n ≤ n' ∧ Keep n H H')
    (Hbest : ∀ {np nj nk : Nat} {ps js ks : List Int} (H : Hp) (n : Nat) (v : Value), GroveI H n v np nj nk ps js ks → faultN np nj nk ps js ks = 0 → ∃ gv H1 n1 w H' n', (∀ k : Value → Hp → Nat → Res, callFK P c 18 [v] H n k = k gv H1 n1) ∧
      (∀ k : Value → Hp → Nat → Res, callFK P c 42 [gv] H1 n1 k = k (.tuple ⟨[w, .int .i64 (ezN np nj nk ps js ks), .int .i64 (ezE np nj nk ps js ks)]⟩) H' n') ∧ n ≤ n' ∧ Keep n H H')
    {np nj nk a d : Nat} {ps js ks ms : List Int} {H0 H : Hp} {n0 n : Nat} {x y z : Value} (ha : a < 256) (hd : d < 256) (hms : ms.length = 5) (hmi : ∀ m ∈ ms, I64 m) (hg : GroveI H0 n0 (.agg ⟨[x, y, z]⟩) np nj nk ps js ks) (cp : Copied H0 n0 H n x y z np nk ps ks ms) (hnk : nk + 1 ≤ capV) :
    ∃ H' n', T14 c (ptr n0) (.int .u8 (a : Int)) (.int .u8 (d : Int)) (ptr (n0 + 2)) (ptr (n0 + 3)) H n = some (.bool true, H', n') := by
  obtain ⟨x', y', z', hxyz, h1, h2, h3⟩ := hg.eq
  cases hxyz
  obtain ⟨le, kp, cg, ⟨b, m, b1, b2, m1, m2, cx, c1, c2, c3⟩, ⟨q, q1, q2, cy, cq⟩⟩ := cp
  have g0 : GroveI H n (.agg ⟨[x, y, z]⟩) np nj nk ps js ks := hg.keep kp (by omega)
  have hkl : ks.length = nk * 5 := h3.1
  have y0 : GroveI H n (.agg ⟨[x, y, .slice (some ⟨q, 0, none⟩) (nk + 1) capV]⟩) np nj (nk + 1) ps js (ks ++ ms) := by
    refine ⟨_, _, _, rfl, (h1.keep kp (Nat.le_refl _)).up (by omega), (h2.keep kp (Nat.le_refl _)).up (by omega), vec_slice (by rw [List.length_append]; omega) (fun x hx => ?_) q2 hnk cq⟩
    rcases List.mem_append.1 hx with h | h
    · exact h3.2.1 x h
    · exact hmi x h
  unfold T14
  have ldg : ∀ H2 : Hp, H2.get n0 = some (.cells [x, y, z] 26 false none) → loadV P H2 26 ⟨n0, 0, none⟩ = some (.agg ⟨[x, y, z]⟩) := fun H2 h => load26 (cells_at h) h1.hole.1 h2.hole.1 h3.hole.1
  have ldy : ∀ H2 : Hp, H2.get (n0 + 3) = some (.cells [x, y, .slice (some ⟨q, 0, none⟩) (nk + 1) capV] 26 false none) → loadV P H2 26 ⟨n0 + 3, 0, none⟩ = some (.agg ⟨[x, y, .slice (some ⟨q, 0, none⟩) (nk + 1) capV]⟩) := fun H2 h => load26 (cells_at h) h1.hole.1 h2.hole.1 rfl
  simp only [ptr]
  obtain ⟨t, H1, n1, t1, t2, t3, t4⟩ := Hthin H n _ g0
  rw [addrV_eq, bindO_some, ldg H cg, bindO_some, t2]
  cases t with
  | false =>
    simp only [not_f, bindO_some, guardK_tf, pickV_t, ifK_t, Hawake]
    exact ⟨_, _, rfl⟩
  | true =>
    have ht := t1.1 rfl
    have cg1 := (t4 n0 (by omega)).trans cg
    have cy1 := (t4 (n0 + 3) (by omega)).trans cy
    obtain ⟨H2, n2, f1, f2, f3⟩ := Hfault H1 n1 _ (g0.keep t4 t3)
    have k2 : Keep n H H2 := t4.trans f3 t3
    have cy2 := (k2 (n0 + 3) (by omega)).trans cy
    by_cases he : faultN np nj nk ps js ks = 0
    · have hF : decide (faultN np nj nk ps js ks = 0) = true := decide_eq_true he
      obtain ⟨H3, n3, e1, e2, e3⟩ := Hfault H2 n2 _ (y0.keep k2 (by omega))
      have k3 : Keep n H H3 := k2.trans e3 (by omega)
      by_cases hy : faultN np nj (nk + 1) ps js (ks ++ ms) = 0
      · have hY : decide (faultN np nj (nk + 1) ps js (ks ++ ms) = 0) = true := decide_eq_true hy
        simp only [not_t, bindO_some, guardK_ff, addrV_eq, ldg H1 cg1, f1, binK_some bin_neq, hF, Bool.not_true, pickV_f, ldy H2 cy2, e1, hY, ifK_f]
        have good := good_of he
        have np8 := good.np8
        have np0 := good.np1
        have hcv : copyVal b m np = .slice (some ⟨m, 0, none⟩) np capV := if_neg np0
        rw [hcv] at cx
        have mn := m2 np0
        have cm := c3 np0
        have cx3 := (k3 (n0 + 2) (by omega)).trans cx
        have cm3 := (k3 m mn).trans cm
        generalize hi : a % np = i
        have hin : i < np := by rw [← hi]; exact Nat.mod_lt _ (by omega)
        have hpb : ¬ PBad ps i := fun h => good.ok (.inl ⟨i, hin, h⟩)
        unfold PBad at hpb
        rw [Classical.not_not] at hpb
        have lpads : loadV P H3 22 ⟨n0 + 2, 0 + 0, none⟩ = some (.slice (some ⟨m, 0, none⟩) np capV) := loadV_scalar (cells_at cx3) agg22 rfl rfl rfl
        have gN : ps[i * 2]? = some (ps.getD (i * 2) 0) := by rw [List.getD_eq_getElem?_getD, List.getElem?_eq_getElem (by omega)]; rfl
        have gR : ps[i * 2 + 1]? = some (ps.getD (i * 2 + 1) 0) := by rw [List.getD_eq_getElem?_getD, List.getElem?_eq_getElem (by omega)]; rfl
        have lN : loadV P H3 3 ⟨m, 0 + i * 2 + 0, none⟩ = some (.int .i64 (ps.getD (i * 2) 0)) := loadV_int (o := 0) (k := i * 2) (cells_at cm3) agg3 (ints_get gN)
        have lR : loadV P H3 3 ⟨m, 0 + i * 2 + 1, none⟩ = some (.int .i64 (ps.getD (i * 2 + 1) 0)) := by
          have := loadV_int (P := P) (o := 0) (k := i * 2 + 1) (cells_at cm3) agg3 (ints_get gR)
          rw [show 0 + (i * 2 + 1) = 0 + i * 2 + 1 by omega] at this
          exact this
        generalize hu : ((d % 16 : Nat) : Int) = u
        generalize hw : ((d / 16 : Nat) : Int) = w
        have u0 : 0 ≤ u ∧ u < 16 := by omega
        have w0 : 0 ≤ w ∧ w < 16 := by omega
        have eI : binV P .rem 3 (.tmp 53) (.tmp 56) (.int .i64 (a : Int)) (.int .i64 (np : Int)) = some (.int .i64 (i : Int)) := by
          rw [bin_rem (by omega), rem_small np0, hi]
        have eU : binV P .rem 3 (.tmp 66) (.const (.int .i64 16)) (.int .i64 (d : Int)) (.int .i64 16) = some (.int .i64 u) := by
          rw [bin_rem (by omega), ← hu]
          exact congrArg (fun z => some (Value.int .i64 z)) (rem_small (n := 16) (by omega))
        have eW : binV P .quo 3 (.tmp 75) (.const (.int .i64 16)) (.int .i64 (d : Int)) (.int .i64 16) = some (.int .i64 w) := by
          have e : ((d : Int)).tdiv 16 = ((d / 16 : Nat) : Int) := quo_small (n := 16)
          rw [bin_quo (by omega) (by rw [e]; unfold I64; omega), e, hw]
        have iN : I64 (ps.getD (i * 2) 0 - u) := by unfold I64; omega
        have iR : I64 (ps.getD (i * 2 + 1) 0 + w) := by unfold I64; omega
        have ca : I64 (a : Int) := by unfold I64; omega
        have cd : I64 (d : Int) := by unfold I64; omega
        simp only [fa26_0, bindO_some, addrV_eq, lpads, conv53 ca, ez_len, binK_some eI, ez_index hin, nil_ptr, fa95_0, lN, conv53 cd, binK_some eU, binK_some (bin_sub iN), ez_max, fa95_1, lR, binK_some eW, binK_some (bin_add iR), ez_min, store3]
        have s1 : storeN H3 ⟨m, 0 + i * 2 + 0, none⟩ [.int .i64 (max 0 (ps.getD (i * 2) 0 - u))] = some (H3.set m (some (.cells (ints (ps.set (i * 2) (max 0 (ps.getD (i * 2) 0 - u)))) 95 false (some 2)))) := by
          rw [show 0 + i * 2 + 0 = i * 2 by omega]
          exact store_one cm3 (by omega)
        have l4 : ∀ b, b ≠ m → (H3.set m (some (.cells (ints (ps.set (i * 2) (max 0 (ps.getD (i * 2) 0 - u)))) 95 false (some 2)))).get b = H3.get b := fun b hb => by rw [Tr.get_set, if_neg hb]
        have cm4 : (H3.set m (some (.cells (ints (ps.set (i * 2) (max 0 (ps.getD (i * 2) 0 - u)))) 95 false (some 2)))).get m = some (.cells (ints (ps.set (i * 2) (max 0 (ps.getD (i * 2) 0 - u)))) 95 false (some 2)) := by rw [Tr.get_set, if_pos rfl]
        generalize H3.set m (some (.cells (ints (ps.set (i * 2) (max 0 (ps.getD (i * 2) 0 - u)))) 95 false (some 2))) = H4 at s1 l4 cm4
        have s2 : storeN H4 ⟨m, 0 + i * 2 + 1, none⟩ [.int .i64 (min 1000 (ps.getD (i * 2 + 1) 0 + w))] = some (H4.set m (some (.cells (ints (easePs ps i u w)) 95 false (some 2)))) := by
          rw [show 0 + i * 2 + 1 = i * 2 + 1 by omega]
          exact store_one cm4 (by rw [List.length_set]; omega)
        have l5 : ∀ b, b ≠ m → (H4.set m (some (.cells (ints (easePs ps i u w)) 95 false (some 2)))).get b = H3.get b := fun b hb => by rw [Tr.get_set, if_neg hb, l4 b hb]
        have cm5 : (H4.set m (some (.cells (ints (easePs ps i u w)) 95 false (some 2)))).get m = some (.cells (ints (easePs ps i u w)) 95 false (some 2)) := by rw [Tr.get_set, if_pos rfl]
        generalize H4.set m (some (.cells (ints (easePs ps i u w)) 95 false (some 2))) = H5 at s2 l5 cm5
        have k5 : Keep (n0 + 4) H H5 := fun b hb => (l5 b (by omega)).trans (k3 b (by omega))
        have kp5 : Keep n0 H0 H5 := fun b hb => (k5 b (by omega)).trans (kp b hb)
        have cg5 := (k5 n0 (by omega)).trans cg
        have cx5 := (k5 (n0 + 2) (by omega)).trans cx
        have cy5 := (k5 (n0 + 3) (by omega)).trans cy
        have ldx : ∀ H2 : Hp, H2.get (n0 + 2) = some (.cells [.slice (some ⟨m, 0, none⟩) np capV, y, z] 26 false none) → loadV P H2 26 ⟨n0 + 2, 0, none⟩ = some (.agg ⟨[.slice (some ⟨m, 0, none⟩) np capV, y, z]⟩) := fun H2 h => load26 (cells_at h) rfl h2.hole.1 h3.hole.1
        have hpl : ps.length = np * 2 := h1.1
        obtain ⟨ok1, ok2⟩ := ease_ok (u := u) (w := w) he hpl hin u0.1 w0.1
        have npc : np ≤ capV := by have : (8 : Nat) ≤ capV := by decide +kernel
                                   omega
        have gx : GroveI H5 n3 (.agg ⟨[.slice (some ⟨m, 0, none⟩) np capV, y, z]⟩) np nj nk (easePs ps i u w) js ks :=
          ⟨_, _, _, rfl, vec_slice (by rw [ease_len]; exact hpl) (ease_I64 h1.2.1 (by unfold I64; omega) (by unfold I64; omega)) (by omega) npc cm5, (h2.keep kp5 (Nat.le_refl _)).up (by omega), (h3.keep kp5 (Nat.le_refl _)).up (by omega)⟩
        have gy : GroveI H5 n3 (.agg ⟨[x, y, .slice (some ⟨q, 0, none⟩) (nk + 1) capV]⟩) np nj (nk + 1) ps js (ks ++ ms) := by
          obtain ⟨_, _, _, e, w1, w2, w3⟩ := y0.eq
          cases e
          refine ⟨_, _, _, rfl, (h1.keep kp5 (Nat.le_refl _)).up (by omega), (h2.keep kp5 (Nat.le_refl _)).up (by omega), vec_slice w3.1 w3.2.1 (by omega) hnk ((l5 q ?_).trans ((k3 q q2).trans cq))⟩
          rintro rfl
          rw [cm] at cq
          simp at cq
        obtain ⟨v1, H6, n6, r1, H7, n7, o1, o2, o3, o4⟩ := Hbest H5 n3 _ (hg.keep kp5 (by omega)) he
        obtain ⟨v2, H8, n8, r2, H9, n9, p1, p2, p3, p4⟩ := Hbest H7 n7 _ (gx.keep o4 o3) ok1
        have k9 : Keep n3 H5 H9 := o4.trans p4 o3
        obtain ⟨v3, H10, n10, r3, H11, n11, i1, i2, i3, i4⟩ := Hbest H9 n9 _ (gy.keep k9 (by omega)) hy
        have u0 : ∀ w e f, tupV (.tuple ⟨[w, e, f]⟩) 0 = some w := fun _ _ _ => rfl
        have u1 : ∀ w e f, tupV (.tuple ⟨[w, e, f]⟩) 1 = some e := fun _ _ _ => rfl
        have u2 : ∀ w e f, tupV (.tuple ⟨[w, e, f]⟩) 2 = some f := fun _ _ _ => rfl
        simp only [s1, s2, bindO_some, ldg H5 cg5, o1, o2, u0, u1, u2, ldx H7 ((o4 _ (by omega)).trans cx5), p1, p2, ldy H9 ((k9 _ (by omega)).trans cy5), i1, i2]
        exact ⟨_, _, easier_end c Hawake (ezE_or _ _ _ _ _ _) (ezE_or _ _ _ _ _ _) (ezE_or _ _ _ _ _ _) (fun e => by
          have q1 := ez_same (fun M hM => best_pads np8 good.kinds ok2 hM) e
          have q2 := ez_same (fun M hM => best_more hkl np8 good.kinds (good_of hy).kinds hM) e
          exact ⟨q1.1, q1.2, q2.1, q2.2⟩) H11 n11⟩
      · have hY : decide (faultN np nj (nk + 1) ps js (ks ++ ms) = 0) = false := decide_eq_false hy
        simp only [not_t, bindO_some, guardK_ff, addrV_eq, ldg H1 cg1, f1, binK_some bin_neq, hF, Bool.not_true, pickV_f, ldy H2 cy2, e1, hY, Bool.not_false, ifK_t, Hawake]
        exact ⟨_, _, rfl⟩
    · have hF : decide (faultN np nj nk ps js ks = 0) = false := decide_eq_false he
      simp only [not_t, bindO_some, guardK_ff, guardK_tf, addrV_eq, ldg H1 cg1, f1, binK_some bin_neq, hF, Bool.not_false, pickV_f, pickV_t, ifK_t, Hawake]
      exact ⟨_, _, rfl⟩
end Go.Proofs.Ytekajfobmnedjaa.spec
end
section
namespace Go.Proofs.Ytekajfobmnedjaa.nestBounds
open Go.ChangeShapes Go.WideShapes Go.ChangeAt Go.RowKit Go.Ev Go.Proofs.Ytekajfobmnedjaa.nestFits
def Says (f : Nat) : Prop := ∀ (H : Hp) (n : Nat) (v w : Value) np nj nk ps js ks nl ls, GroveI H n v np nj nk ps js ks → spec.ListR H n w nl ls →
  ∃ l H' n', (calE G.P G.A (G.KK + 1) G.tab.get l).call f [v, w] H n = some (.bool true, H', n')
set_option maxRecDepth 100000
end Go.Proofs.Ytekajfobmnedjaa.nestBounds
end
section
namespace Go.Proofs.Ytekajfobmnedjaa.nestEasier
open Go.ChangeShapes Go.WideShapes Go.ChangeAt Go.RowKit Go.Ev Go.Proofs.Ytekajfobmnedjaa.nestFits
def Says (f : Nat) : Prop := ∀ (H : Hp) (n : Nat) (x y z : Value) np nj nk ps js ks (a b : Nat) (m1 m2 m3 m4 m5 : Int), GroveI H n (.agg ⟨[x, y, z]⟩) np nj nk ps js ks → SrcR H n 2 x np ps → SrcR H n 5 z nk ks → np * 16 ≤ reachBytes → nk * 40 ≤ reachBytes → a < 256 → b < 256 → (∀ m ∈ [m1, m2, m3, m4, m5], I64 m) →
  ∃ l H' n', (calE G.P G.A (G.KK + 1) G.tab.get l).call f [.agg ⟨[x, y, z]⟩, .int .u8 (a : Int), .int .u8 (b : Int), .agg ⟨ints [m1, m2, m3, m4, m5]⟩] H n = some (.bool true, H', n')
set_option maxRecDepth 100000
theorem there {W : World} {base : Nat} {b o len cap : Nat} {t e : TypeId} {H : Hp} (hu : Try.prog.underlying t = some (.slice e)) (hH : ∀ i, H.get i = rowsOf W i) (hok : Cell.okWide Try.prog W .any base t (.slice (some ⟨b, o, none⟩) len cap)) : ∃ c, H.get b = some (.rows c) := by
  simp only [Cell.okWide, hu, Cell.ok] at hok
  obtain ⟨_, _, _, hsp, row, cells, hshape, _⟩ := hok
  rw [hH]
  unfold rowsOf
  unfold World.shape? at hshape
  dsimp only at hshape
  cases hb : W.heap[b]? with
  | none => rw [hb] at hshape; simp at hshape
  | some B =>
    rw [hb] at hshape
    cases B with
    | cells arr x y => exact ⟨_, rfl⟩
    | _ => simp at hshape
theorem src_in {W : World} {base n len s : Nat} {t e : TypeId} {w : Value} {xs : List Int} {H : Hp} (hu : Try.prog.underlying t = some (.slice e)) (hH : ∀ i, H.get i = rowsOf W i) (hok : Cell.okWide Try.prog W .any base t w) (h : SliceI H n s w len xs) : SrcR H n s w len xs := by
  obtain ⟨h1, h2, h3⟩ := h
  refine ⟨h1, ?_⟩
  rcases h3 with h3 | ⟨b, o, cap, e, a1, a2, a3, a4⟩
  · exact .inl h3
  · refine .inr ⟨b, o, cap, e, a3, ?_⟩
    rcases a4 with rfl | a4
    · subst e
      obtain ⟨c, hc⟩ := there hu hH hok
      have : xs = [] := List.length_eq_zero_iff.1 (by omega)
      subst this
      exact ⟨_, c, hc, rfl, fun k v h => by simp [ints] at h⟩
    · exact a4
theorem slice_room {P : Program} {H : Type} {enc : TypeId × Value → H} {w : World} {d s fuel : Nat} {t e : TypeId} {b o len cap : Nat} {dd : DataW H} {ps : List MemPlace}
    (hu : P.underlying t = some (.slice e)) (hf : flatT P d e = some s)
    (ht : DataW.trod enc P w 0 (fun _ => true) true fuel t [.slice (some ⟨b, o, none⟩) len cap] = some (dd, ps)) (hw : ∀ n ∈ dd.weights P t, n ≤ reachBytes) :
    len * P.bytesOf e ≤ reachBytes := by
  cases fuel with
  | zero => simp [DataW.trod] at ht
  | succ fuel =>
    unfold DataW.trod at ht
    simp only [hu] at ht
    split at ht
    case isFalse => cases ht
    rename_i hcond
    obtain ⟨_, hlc, _⟩ := hcond
    have hcell := flatT_cells hf
    rw [hcell] at ht
    simp only [if_true, Option.bind_eq_some_iff, Option.map_eq_some_iff] at ht
    obtain ⟨elems, hel, rest, hrest, hdd⟩ := ht
    have l1 := mapM_len hel
    have l2 := mapM_len hrest
    simp only [List.length_range] at l1 l2
    simp only [Prod.mk.injEq] at hdd
    obtain ⟨rfl, rfl⟩ := hdd
    have := hw ((elems.length + rest.length) * P.bytesOf e) (by simp [DataW.weights, hu])
    have h1 : elems.length + rest.length = cap := by omega
    rw [h1] at this
    exact Nat.le_trans (Nat.mul_le_mul_right _ (by omega)) this
theorem room_in {P : Program} {H : Type} {enc : TypeId × Value → H} {w : World} {d s fuel n : Nat} {t e : TypeId} {v : Value} {dd : DataW H} {ps : List MemPlace} {len : Nat} {xs : List Int} {Hp0 : Hp}
    (hu : P.underlying t = some (.slice e)) (hf : flatT P d e = some s) (ht : DataW.trod enc P w 0 (fun _ => true) true fuel t [v] = some (dd, ps)) (hw : ∀ n ∈ dd.weights P t, n ≤ reachBytes) (h : SliceI Hp0 n s v len xs) : len * P.bytesOf e ≤ reachBytes := by
  rcases h.2.2 with ⟨rfl, rfl⟩ | ⟨b, o, cap, rfl, _⟩
  · omega
  · exact slice_room hu hf ht hw
theorem grove_in2 {K : Type} {enc : TypeId × Value → K} {W : World} {base : Nat} {v : Value} {d : DataW K} {p : List MemPlace} {H : Hp} (hH : ∀ i, H.get i = rowsOf W i)
    (hok : Value.okWide Try.prog W .any base 26 v) (ht : DataW.Trod enc Try.prog W 0 (fun _ => true) true 26 v d p) (hw : ∀ n ∈ d.weights Try.prog 26, n ≤ reachBytes) :
    ∃ np nj nk ps js ks x y z, v = .agg ⟨[x, y, z]⟩ ∧ GroveI H W.heap.size v np nj nk ps js ks ∧ SrcR H W.heap.size 2 x np ps ∧ SrcR H W.heap.size 5 z nk ks ∧ np * 16 ≤ reachBytes ∧ nk * 40 ≤ reachBytes ∧ VR (idPhi W) v v := by
  unfold Value.okWide at hok
  rw [Try.underlying26] at hok
  obtain ⟨cs, rfl, hsz, ts, hts, _, hcell⟩ := hok
  rw [types26] at hts
  cases hts
  rw [cells26] at hsz
  obtain ⟨a, b, c, rfl⟩ := three hsz
  have ha : Cell.okWide Try.prog W .any base 22 a := by obtain ⟨u, e1, e2⟩ := hcell 0 a (by simp); simp at e1; subst e1; exact e2
  have hb : Cell.okWide Try.prog W .any base 23 b := by obtain ⟨u, e1, e2⟩ := hcell 1 b (by simp); simp at e1; subst e1; exact e2
  have hc : Cell.okWide Try.prog W .any base 24 c := by obtain ⟨u, e1, e2⟩ := hcell 2 c (by simp); simp at e1; subst e1; exact e2
  obtain ⟨fuel, ht⟩ := ht
  obtain ⟨xs, n, _, hx, hl, hlen, hf⟩ := DataW.trod_struct Try.underlying26 ht
  match xs, hlen with
  | [y0, y1, y2], _ =>
    cases hx
    have h0 := hf 0 _ rfl
    have h1 := hf 1 _ rfl
    have h2 := hf 2 _ rfl
    simp only [Value.cells] at h0 h1 h2
    have w0 : ∀ n ∈ y0.1.weights Try.prog 22, n ≤ reachBytes := fun n hn => hw n (by simp [DataW.weights, Try.underlying26, DataW.weightsEach, hn])
    have w1 : ∀ n ∈ y1.1.weights Try.prog 23, n ≤ reachBytes := fun n hn => hw n (by simp [DataW.weights, Try.underlying26, DataW.weightsEach, hn])
    have w2 : ∀ n ∈ y2.1.weights Try.prog 24, n ≤ reachBytes := fun n hn => hw n (by simp [DataW.weights, Try.underlying26, DataW.weightsEach, hn])
    obtain ⟨np, ps, s0, r0⟩ := slice_in hH Try.underlying22 flat95 (by omega) bytes95 h0 w0 ha
    obtain ⟨nj, js, s1, r1⟩ := slice_in hH Try.underlying23 flat104 (by omega) bytes104 h1 w1 hb
    obtain ⟨nk, ks, s2, r2⟩ := slice_in hH Try.underlying24 flat94 (by omega) bytes94 h2 w2 hc
    have q0 := room_in Try.underlying22 flat95 h0 w0 s0
    have q2 := room_in Try.underlying24 flat94 h2 w2 s2
    rw [show Try.prog.bytesOf 95 = 16 by kernel_rfl] at q0
    rw [show Try.prog.bytesOf 94 = 40 by kernel_rfl] at q2
    refine ⟨np, nj, nk, ps, js, ks, a, b, c, rfl, ⟨a, b, c, rfl, s0, s1, s2⟩, src_in Try.underlying22 hH ha s0, src_in Try.underlying24 hH hc s2, q0, q2, ?_⟩
    simp only [VR]
    exact ⟨_, rfl, by simp only [VRA]; exact VRL.cons r0 (VRL.cons r1 (VRL.cons r2 VRL.nil))⟩
theorem byte_in {K : Type} {enc : TypeId × Value → K} {W : World} {base : Nat} {w : Value} {d : DataW K} {p : List MemPlace}
    (hok : Value.okWide Try.prog W .any base 5 w) (ht : DataW.Trod enc Try.prog W 0 (fun _ => true) true 5 w d p) : ∃ a : Nat, w = .int .u8 (a : Int) ∧ a < 256 ∧ VR (idPhi W) w w := by
  obtain ⟨a, rfl⟩ := okWide_int Try.underlying5 hok
  obtain ⟨fuel, ht⟩ := ht
  obtain ⟨m, e1, e2, e3⟩ := DataW.trod_int Try.underlying5 ht
  have e : m = a := by
    have : ([.int .u8 a] : List Value) = [.int .u8 m] := e1
    simpa using this.symm
  subst e
  have h0 : IntKind.u8.min = 0 := by decide
  have h1 : IntKind.u8.max = 255 := by decide
  unfold Lit.wf at e3
  rw [Bool.and_eq_true, decide_eq_true_iff, decide_eq_true_iff, h0, h1] at e3
  obtain ⟨k, hk⟩ : ∃ k : Nat, m = (k : Int) := ⟨m.toNat, by omega⟩
  subst hk
  exact ⟨k, rfl, by omega, by simp only [VR]⟩
theorem five {cs : List Value} (h : cs.length = 5) (g : ∀ i, i < 5 → NumAt cs i) : ∃ m1 m2 m3 m4 m5, cs = ints [m1, m2, m3, m4, m5] ∧ ∀ m ∈ [m1, m2, m3, m4, m5], I64 m := by
  match cs, h with
  | [a, b, c, d, e], _ =>
    obtain ⟨x0, e0, i0⟩ := g 0 (by omega)
    obtain ⟨x1, e1, i1⟩ := g 1 (by omega)
    obtain ⟨x2, e2, i2⟩ := g 2 (by omega)
    obtain ⟨x3, e3, i3⟩ := g 3 (by omega)
    obtain ⟨x4, e4, i4⟩ := g 4 (by omega)
    simp at e0 e1 e2 e3 e4
    subst e0 e1 e2 e3 e4
    refine ⟨x0, x1, x2, x3, x4, rfl, fun m hm => ?_⟩
    simp only [List.mem_cons, List.not_mem_nil, or_false] at hm
    rcases hm with rfl | rfl | rfl | rfl | rfl <;> assumption
theorem VRL_ints {φ : Phi} : ∀ xs : List Int, VRL φ (ints xs) (ints xs)
  | [] => VRL.nil
  | x :: l => VRL.cons (by simp only [VR]) (VRL_ints l)
theorem kind_in {K : Type} {enc : TypeId × Value → K} {W : World} {base : Nat} {w : Value} {d : DataW K} {p : List MemPlace}
    (hok : Value.okWide Try.prog W .any base 94 w) (ht : DataW.Trod enc Try.prog W 0 (fun _ => true) true 94 w d p) : ∃ m1 m2 m3 m4 m5, w = .agg ⟨ints [m1, m2, m3, m4, m5]⟩ ∧ (∀ m ∈ [m1, m2, m3, m4, m5], I64 m) ∧ VR (idPhi W) w w := by
  unfold Value.okWide at hok
  rw [Try.underlying94] at hok
  obtain ⟨cs, rfl, _⟩ := hok
  obtain ⟨fuel, ht⟩ := ht
  obtain ⟨l, g⟩ := trod_flat 5 flat94 ht
  obtain ⟨m1, m2, m3, m4, m5, e, hi⟩ := five l g
  obtain ⟨cl⟩ := cs
  have e : cl = ints [m1, m2, m3, m4, m5] := e
  subst e
  refine ⟨m1, m2, m3, m4, m5, rfl, hi, ?_⟩
  simp only [VR]
  exact ⟨_, rfl, by simp only [VRA]; exact VRL_ints _⟩
theorem walk (hs : Says 14) {K : Type} {enc : TypeId × Value → K} {W : World} {base : Nat} {v w x y : Value} {d d' d2 d3 : DataW K} {p p' p2 p3 : List MemPlace}
    (hok : Value.okWide Try.prog W .any base 26 v) (ht : DataW.Trod enc Try.prog W 0 (fun _ => true) true 26 v d p) (hw : ∀ n ∈ d.weights Try.prog 26, n ≤ reachBytes)
    (hok' : Value.okWide Try.prog W .any base 5 w) (ht' : DataW.Trod enc Try.prog W 0 (fun _ => true) true 5 w d' p')
    (hok2 : Value.okWide Try.prog W .any base 5 x) (ht2 : DataW.Trod enc Try.prog W 0 (fun _ => true) true 5 x d2 p2)
    (hok3 : Value.okWide Try.prog W .any base 94 y) (ht3 : DataW.Trod enc Try.prog W 0 (fun _ => true) true 94 y d3 p3) :
    Calls Try.prog 14 #[v, w, x, y] W fun e w' => e = .returned (.bool true) ∧ Grown W w' ∧ ∀ b, b < W.heap.size → w'.heap[b]? = W.heap[b]? := by
  obtain ⟨H, hH, hI⟩ := I.start W
  obtain ⟨np, nj, nk, ps, js, ks, vx, vy, vz, rfl, hg, sx, sz, q0, q2, hv⟩ := grove_in2 hH hok ht hw
  obtain ⟨a, rfl, a1, va⟩ := byte_in hok' ht'
  obtain ⟨b, rfl, b1, vb⟩ := byte_in hok2 ht2
  obtain ⟨m1, m2, m3, m4, m5, rfl, hm, vm⟩ := kind_in hok3 ht3
  obtain ⟨l, H', n', e⟩ := hs H W.heap.size vx vy vz np nj nk ps js ks a b m1 m2 m3 m4 m5 hg sx sz q0 q2 a1 b1 hm
  refine (calls_of_tower_open G.tab_ok hI (VRL.cons hv (VRL.cons va (VRL.cons vb (VRL.cons vm VRL.nil)))) e rfl).mono ?_
  rintro en w' ⟨h1, h2, h3, h4, h5, h6, h7⟩
  exact ⟨h1, grown_of h2 h4 h5 h6 h7, h6⟩
theorem trodAll_four {H : Type} {enc : TypeId × Value → H} {P : Program} {w : World} {base : Nat} {spare : Nat → Bool} {held : Bool} {t t' t2 t3 : TypeId} {args : Array Value} {ds : List (DataW H)} {ps : List MemPlace} (h : DataW.TrodAll enc P w base spare held [t, t', t2, t3] args.toList ds ps) :
    ∃ v v' v2 v3 d d' d2 d3 p p' p2 p3, args = #[v, v', v2, v3] ∧ ds = [d, d', d2, d3] ∧ ps = p ++ p' ++ p2 ++ p3 ∧ DataW.Trod enc P w base spare held t v d p ∧ DataW.Trod enc P w base spare held t' v' d' p' ∧ DataW.Trod enc P w base spare held t2 v2 d2 p2 ∧ DataW.Trod enc P w base spare held t3 v3 d3 p3 := by
  obtain ⟨v, vs, d, ds', p, q, hargs, rfl, rfl, hd, hrest⟩ := trodAll_cons h
  obtain ⟨v', vs', d', ds'', p', q', rfl, rfl, rfl, hd', hrest'⟩ := trodAll_cons hrest
  obtain ⟨v2, vs2, d2, ds2, p2, q2, rfl, rfl, rfl, hd2, hrest2⟩ := trodAll_cons hrest'
  obtain ⟨v3, vs3, d3, ds3, p3, q3, rfl, rfl, rfl, hd3, hrest3⟩ := trodAll_cons hrest2
  obtain ⟨rfl, rfl, rfl⟩ := trodAll_nil hrest3
  exact ⟨v, v', v2, v3, d, d', d2, d3, p, p', p2, p3, by cases args; simp_all, rfl, by simp, hd, hd', hd2, hd3⟩
set_option maxRecDepth 100000 in
theorem lifted (hs : Says 14) (os : Os) (started : os.Started) (H : Type) (enc : TypeId × Value → H) :
    ReturnsInHanded {} Try.checked os 14 .any (Rows.nestEasierSpec.pre6 enc Try.prog Try.f14 Rows.nestEasierRow.domain false) (Rows.nestEasierSpec.post enc Try.prog Try.f14 false true false false) := by
  refine returnsInHanded_of_change_sized (C := Try.checked) own started (by kernel_rfl) Try.func14
    (ChangeSpec.witness6 (enc := enc) (C := Try.checked) false ⟨#[], #[.agg #[.slice none 0 0, .slice none 0 0, .slice none 0 0], .int .u8 0, .int .u8 0, .agg #[.int .i64 0, .int .i64 0, .int .i64 0, .int .i64 0, .int .i64 0]], []⟩ 8 (by kernel_rfl) (by kernel_rfl) (by kernel_rfl) (by kernel_rfl)) ?_
  intro W base args ds gs before hval0 hW hcnd hsz _
  have hval : ∀ (j : Nat) t v, Try.f14.params[j]? = some t → args[j]? = some v → Value.okWide Try.prog W .any base t v := hval0
  have hW' := hW
  obtain ⟨p, q, hA0, hV, rfl, hfz, hnd⟩ := hW
  have hA : DataW.TrodAll enc Try.prog W 0 (fun _ => true) true Try.f14.params.toList args.toList ds p := hA0
  have hAk := hA
  rw [Try.params14] at hA hval
  obtain ⟨v, w, x, y, d, d', d2, d3, p0, p1, p2, p3, rfl, rfl, rfl, h0, h1, h2, h3⟩ := trodAll_four hA
  obtain ⟨rfl, rfl⟩ := trodVars_none hV
  simp only [List.append_nil] at hW' hAk
  have hall : ∀ n ∈ d.weights Try.prog 26 ++ (d'.weights Try.prog 5 ++ (d2.weights Try.prog 5 ++ (d3.weights Try.prog 94 ++ []))), n ≤ reachBytes := by
    intro n hn
    have hm : n ∈ DataW.weightsEach Try.checked.prog (Try.f14.params.toList ++ DataSpec.varTypes Try.checked.prog Rows.nestEasierSpec.plain) ([d, d', d2, d3] ++ []) := by
      rw [Try.params14]
      exact hn
    have := List.all_eq_true.1 hsz n hm
    simpa using this
  refine (walk hs (hval 0 26 v rfl rfl) h0 (fun n hn => hall n (List.mem_append_left _ hn)) (hval 1 5 w rfl rfl) h1 (hval 2 5 x rfl rfl) h2 (hval 3 94 y rfl rfl) h3).mono fun e W' ⟨he, hg, hk⟩ => ?_
  subst he
  exact ⟨_, rfl, post_of_same (pv := []) hW' (fun _ _ _ => (trodAll_cons_mk (shut_bool Try.underlying4 _) trodAll_mk0))
    (fun sp hsp => DataW.TrodAll.respare kids full (by rw [Try.params14]; decide +kernel) (carryAll hk hAk) hsp) (fun _ _ => rfl) (by simp)
    (hg.frame _) hg.2.1 (ok_one (by kernel_rfl) rfl (okWide_bool_mk Try.underlying4 _))⟩
theorem over (hs : Says 14) : Rows.nestEasierRow.holds Try.pinned (OpenSpec.ofChange Rows.nestEasierSpec) :=
  OpenClaim.holds_of_wide 14 Try.f14 rfl rfl rfl rfl rfl rfl rfl ⟨rfl, rfl, rfl, rfl, rfl⟩ rfl rfl rfl rfl rfl (by kernel_rfl) Try.func14 (by kernel_rfl)
    (of_decide_eq_true (by kernel_rfl)) (by unfold Func.isWrapper; first | (rw [if_pos (by decide +kernel)]; kernel_rfl) | (rw [if_neg (by decide +kernel)]; exact ⟨rfl, rfl⟩))
    (fun os started H enc _ => lifted hs os started H enc)
theorem said (hs : Says 14) : Rows.NestEasierSaid := over hs
end Go.Proofs.Ytekajfobmnedjaa.nestEasier
end
section
namespace Go.Proofs.Ytekajfobmnedjaa.spec
open Go.Ev Go.Proofs.Ytekajfobmnedjaa.nestFits Go.Proofs.Ytekajfobmnedjaa.G
set_option maxRecDepth 1000000
noncomputable def isB (c : Bool) (r : Res) : Bool := match r with
  | some (.bool b, _, _) => b == c
  | _ => false
theorem isB_eq {c : Bool} {r : Res} (h : isB c r = true) : ∃ H n, r = some (.bool c, H, n) := by
  unfold isB at h
  split at h
  · rename_i b H n
    have h := eq_of_beq h
    subst h
    exact ⟨H, n, rfl⟩
  · cases h
theorem run_awake : isB true ((cal 60).call 16 [] .nil 0) = true := by kernel_rfl
theorem flat16 : flatF P 16 = true := by kernel_rfl
theorem awake_call {ρ : Type} (H : Hp) (n : Nat) (k : Value → Hp → Nat → Option ρ) : callFK P (cal 60) 16 [] H n k = k (.bool true) H n := by
  obtain ⟨H', n', e⟩ := isB_eq run_awake
  exact callFK_pure flat16 rfl e rfl
end Go.Proofs.Ytekajfobmnedjaa.spec
end
section
namespace Go.Proofs.Ytekajfobmnedjaa.spec
open Go Go.Ev Go.Proofs.Ytekajfobmnedjaa.nestFits Go.Proofs.Ytekajfobmnedjaa.G
set_option maxRecDepth 100000
theorem ez_best (l : Nat) {np nj nk : Nat} {ps js ks : List Int} (H : Hp) (n : Nat) (v : Value) (hg : GroveI H n v np nj nk ps js ks) (he : faultN np nj nk ps js ks = 0) :
    ∃ gv H1 n1 w H' n', (∀ k : Value → Hp → Nat → Res, callFK P (cal (l + 17)) 18 [v] H n k = k gv H1 n1) ∧
      (∀ k : Value → Hp → Nat → Res, callFK P (cal (l + 17)) 42 [gv] H1 n1 k = k (.tuple ⟨[w, .int .i64 (ezN np nj nk ps js ks), .int .i64 (ezE np nj nk ps js ks)]⟩) H' n') ∧ n ≤ n' ∧ Keep n H H' := by
  have good := good_of he
  have np8 := good.np8
  have nj16 := good.nj16
  have nk3 := good.nk3
  obtain ⟨gv, H1, n1, a1, a2, a3, a4⟩ := grove_call (ρ := Value × Hp × Nat) (l + 15) hg (by omega) (by omega) (by omega)
  obtain ⟨s1, s2, s3⟩ := Best_spec l a4 (by omega) (by omega) (by omega)
  unfold ezN ezE
  cases hc : bestL ps js ks nj np nk with
  | none =>
    obtain ⟨H', n', q1, q2, q3⟩ := s2 he hc
    exact ⟨gv, H1, n1, _, H', n', a1, fun k => by rw [Best_call (l + 16), q1]; rfl, by omega, a3.trans q3 a2⟩
  | some M =>
    obtain ⟨u, H', n', q1, q2, q3, q4⟩ := s3 he M hc
    exact ⟨gv, H1, n1, u, H', n', a1, fun k => by rw [Best_call (l + 16), q1]; rfl, by omega, a3.trans q3 a2⟩
theorem call14 (x y z : Value) (a b m1 m2 m3 m4 m5 : Int) (H : Hp) (n : Nat) : (cal (60 + 1)).call 14 [.agg ⟨[x, y, z]⟩, .int .u8 a, .int .u8 b, .agg ⟨ints [m1, m2, m3, m4, m5]⟩] H n = C14_0 (cal 60) KK (.agg ⟨[x, y, z]⟩) (.int .u8 a) (.int .u8 b) (.agg ⟨ints [m1, m2, m3, m4, m5]⟩) H n := by kernel_rfl
theorem room_x {np : Nat} (h : np * 16 ≤ reachBytes) : bigOk np 2 16 = true := by
  have : reachBytes = 140737488351232 := by kernel_rfl
  rw [this] at h
  unfold bigOk
  have h1 : decide (np * 16 ≤ 140737488355328) = true := decide_eq_true (by omega)
  simp [h1]
theorem room_z {nk : Nat} (h : nk * 40 ≤ reachBytes) : bigOk (nk + 1) 5 40 = true ∧ nk + 1 ≤ capV := by
  have e : reachBytes = 140737488351232 := by kernel_rfl
  rw [e] at h
  constructor
  · unfold bigOk
    have h1 : decide ((nk + 1) * 40 ≤ 140737488355328) = true := decide_eq_true (by omega)
    simp [h1]
  · have : capV = 4611686018427387904 := rfl
    omega
theorem easier_says : nestEasier.Says 14 := by
  intro H n x y z np nj nk ps js ks a b m1 m2 m3 m4 m5 hg sx sz q0 q2 ha hb hm
  obtain ⟨r1, r2⟩ := room_z q2
  obtain ⟨H1, n1, e1, cp⟩ := easier_start (cal 60) (m1 := m1) (m2 := m2) (m3 := m3) (m4 := m4) (m5 := m5) (v1 := .int .u8 (a : Int)) (v2 := .int .u8 (b : Int)) hg sx sz (room_x q0) r1
  obtain ⟨H2, n2, e2⟩ := easier_core (cal 60) (fun H n k => awake_call H n k) (fun H n v h => thin_call 59 h rfl) (fun H n v h => lawfault_call 56 h) (fun H n v h he => ez_best 43 H n v h he) ha hb rfl hm hg cp r2
  refine ⟨60 + 1, H2, n2, (call14 x y z a b m1 m2 m3 m4 m5 H n).trans ?_⟩
  unfold C14_0
  exact e1.trans e2
theorem proved : Rows.NestEasierSaid := nestEasier.said easier_says
#print axioms proved
end Go.Proofs.Ytekajfobmnedjaa.spec
end
