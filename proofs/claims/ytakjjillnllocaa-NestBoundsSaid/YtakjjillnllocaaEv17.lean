import Derived.Test.YtakjjillnllocaaEv16
namespace Go.Ev
open Go
variable {P : Program} {w₀ : World} {W : Sets} {φ : Phi} {st st' : St} {w : World} {H : Hp} {n : Nat} {rec : Rec}
  {f : FuncId} {t : Array Value} {k : List Item} {ds : List Deferred} {kd : CallKind} {ro : Option Nat} {cs : List Frame} {N : Nat}
theorem keep_iff {o : Option Value} {v : Value} {s st : St} : keep o st = some (v, s) ↔ o = some v ∧ s = st := by
  constructor
  · exact keep_inv
  · rintro ⟨rfl, rfl⟩; rfl
theorem kind_p {op : Op} {ty : TypeId} (hk : kindOf op = .p) {T : Tm} {v : Value} {H : Hp} {n : Nat} {D : List Nat} {s : St} (e : aOp P op ty ⟨T, H, n, D⟩ = some (v, s)) :
    ∀ H' n' D', aOp P op ty ⟨T, H', n', D'⟩ = some (v, ⟨T, H', n', D'⟩) := by
  intro H' n' D'
  cases op with
  | move x => simp only [aOp, keep_iff] at e ⊢; exact ⟨e.1, trivial⟩
  | assign x => simp only [aOp, keep_iff] at e ⊢; exact ⟨e.1, trivial⟩
  | pick c a b => simp only [aOp, oPick] at e ⊢; split at e <;> simp_all [keep_iff]
  | build t ps => simp only [aOp, keep_iff] at e ⊢; exact ⟨e.1, trivial⟩
  | nilCheck x => simp only [aOp, oNilCheck] at e ⊢; split at e <;> simp_all
  | binOp op t x y t2 => simp only [aOp, oBin] at e ⊢; split at e <;> simp_all [keep_iff]
  | unOp op t x => simp only [aOp, oUn, viaPure] at e ⊢; (repeat' (split at e)) <;> simp_all
  | convert s d x => simp only [aOp, oConvert, viaPure] at e ⊢; (repeat' (split at e)) <;> simp_all
  | makeFunc fn x y =>
    simp only [aOp, oMakeFunc] at e ⊢
    cases fn <;> simp only at e ⊢ <;> first | (split at e <;> simp_all) | cases e
  | slice t x lo hi mx => cases mx with
    | none => simp only [aOp, oSlice] at e ⊢; split at e <;> simp_all [keep_iff]
    | some m => simp [aOp] at e
  | fieldAddr t x f => simp only [aOp, oFieldAddr] at e ⊢; split at e <;> simp_all [keep_iff]
  | field t x f => simp only [aOp, oField] at e ⊢; split at e <;> simp_all [keep_iff]
  | indexAddr t x i => simp only [aOp, oIndexAddr] at e ⊢; split at e <;> simp_all [keep_iff]
  | index t x i => simp only [aOp, oIndex] at e ⊢; split at e <;> simp_all [keep_iff]
  | extract x i => simp only [aOp, oExtract] at e ⊢; split at e <;> simp_all [keep_iff]
  | call c =>
    obtain ⟨cal, args, tys⟩ := c
    cases cal with
    | builtin b =>
      cases b with
      | len => simp only [aOp, oCall, oBuiltin, oLen] at e ⊢; (repeat' (split at e)) <;> simp_all [keep_iff]
      | min => simp only [aOp, oCall, oBuiltin, oMinMax] at e ⊢; (repeat' (split at e)) <;> simp_all
      | max => simp only [aOp, oCall, oBuiltin, oMinMax] at e ⊢; (repeat' (split at e)) <;> simp_all
      | _ => simp [kindOf] at hk
    | _ => simp [kindOf] at hk
  | _ => simp [kindOf] at hk
theorem kind_a {o : Oper} (hk : kindOf o.op = .a) {T : Tm} {v : Value} {H : Hp} {id : Nat} {D : List Nat} {s : St} (ht : TR φ T t) (e : aOp P o.op o.type ⟨T, H, id, D⟩ = some (v, s)) :
    ∃ (c c' : List Value) (el : TypeId) (mk : Nat → Value), s = pushB ⟨T, H, id, D⟩ c el none ∧ Pre φ c c' ∧ v = mk id ∧
      (mk = ptr ∨ ∃ len cap, cap < capV ∧ mk = fun i => .slice (some ⟨i, 0, none⟩) len cap) ∧
      ∀ w : World, (execOp (⟨t, []⟩ : Act).eval o).run P w = .ok (.value (mk w.heap.size)) { w with heap := w.heap.push (.cells ⟨c'⟩ el) } := by
  obtain ⟨dst, op, ty, pos, after, guard⟩ := o
  simp only at hk e
  cases op with
  | alloc el =>
    simp only [aOp, oAlloc] at e
    split at e
    · rename_i z hz
      simp only [Option.some.injEq, Prod.mk.injEq] at e
      obtain ⟨rfl, rfl⟩ := e
      refine ⟨cellsV z, cellsV z, el, ptr, rfl, Pre.of (pureV.refl (run_zeroT hz default).2).cells, rfl, .inl rfl, fun w => ?_⟩
      obtain ⟨hr, hp⟩ := run_zeroT hz w
      exact valOf_run (by simp [Instr.alloc, hr, newVar, newRow, cellsV_eq, ptr])
    · cases e
  | box el x =>
    simp only [aOp, oBox] at e
    split at e
    · rename_i u hu
      simp only [Option.some.injEq, Prod.mk.injEq] at e
      obtain ⟨rfl, rfl⟩ := e
      refine ⟨cellsV u, cellsV ((⟨t, []⟩ : Act).eval x), el, ptr, rfl, Pre.of (opd_ok (a := ⟨t, []⟩) ht hu).cells, rfl, .inl rfl, fun w => ?_⟩
      exact valOf_run (by simp [Instr.box, newVar, newRow, cellsV_eq, ptr])
    · cases e
  | buildSlice tt len parts =>
    simp only [aOp, oBuildSlice] at e
    split at e
    · rename_i el ps hel hps
      split at e
      · rename_i sz z hs hz
        split at e
        · rename_i hc
          split at e
          · rename_i c hfill
            simp only [Option.some.injEq, Prod.mk.injEq] at e
            obtain ⟨rfl, rfl⟩ := e
            have hzp := (run_zeroT hz default).2
            obtain ⟨h1, h2⟩ := parts_ok (st := ⟨T, H, id, D⟩) (a := ⟨t, []⟩) ht hps
            have hpl : (parts.map fun (i, x) => (i, (⟨t, []⟩ : Act).eval x)).toList = parts.toList.map fun (i, x) => (i, (⟨t, []⟩ : Act).eval x) := by simp
            obtain ⟨c', hr, hr2⟩ := fill_ok (φ := φ) (pureL.refl (pureL_repl (pureL_cells hzp) len)) h1 h2 hfill
            refine ⟨c, c', el, fun i => .slice (some ⟨i, 0, none⟩) len len, rfl, Pre.of hr2, rfl, .inr ⟨len, len, hc.2.2, rfl⟩, fun w => valOf_run ?_⟩
            have hzr := (run_zeroT hz w).1
            have hz2 : z.cells.size = sz := by rw [← hc.2.1, cellsV_eq]; simp
            have hbig : ¬ len * sz > 2 ^ 24 := by have := hc.1; omega
            simp only [Instr.buildSlice, Sem.run_bind, run_und (sliceElem_und hel), Result.andThen_ok, run_szT hs, if_neg hbig, hpl]
            by_cases h0 : len * sz = 0
            · simp only [h0, if_true, pure_bind]
              have : repl len (cellsV z) = [] := by rw [repl_eq]; rw [hc.2.1, h0]; rfl
              rw [this] at hr
              have e0 : (Array.map (fun x => (#[] : Array Value)[x % (#[] : Array Value).size]!) (Array.range 0)) = ⟨[]⟩ := by simp
              rw [e0, hr]
              simp [newRow]
            · simp only [h0, if_false, Sem.run_bind, hzr, Result.andThen_ok, Sem.run_pure]
              have e0 := zeroCells_eq z.cells len
              rw [hz2] at e0
              rw [hz2, e0, ← cellsV_eq, hr]
              simp [newRow]
          · cases e
        · cases e
      · cases e
    · cases e
  | makeSlice tt l c =>
    simp only [aOp, oMakeSlice] at e
    split at e
    · rename_i el l c hel hl hc
      split at e
      · rename_i s b z hs hb hz
        split at e
        · rename_i hcond
          simp only [Option.some.injEq, Prod.mk.injEq] at e
          obtain ⟨rfl, rfl⟩ := e
          obtain ⟨hlc, hbig, hzl⟩ := hcond
          obtain ⟨hb1, hb2, hb3⟩ := bigOk_inv hbig
          have hzp := (run_zeroT hz default).2
          refine ⟨repl c (cellsV z), repl c (cellsV z), el, fun i => .slice (some ⟨i, 0, none⟩) l c, rfl, Pre.of (pureL.refl (pureL_repl (pureL_cells hzp) c)), rfl, .inr ⟨l, c, by unfold capV; omega, rfl⟩, fun w => valOf_run ?_⟩
          have hzr := (run_zeroT hz w).1
          obtain ⟨i, hir, rfl⟩ := run_bytesT hb w
          have e1 := opd_ok (a := ⟨t, []⟩) ht hl; simp only [VR] at e1
          have e2 := opd_ok (a := ⟨t, []⟩) ht hc; simp only [VR] at e2
          have w1 := wrap_nat l (by omega)
          have w2 := wrap_nat c hb1
          have hz2 : z.cells.size = s := by rw [← hzl, cellsV_eq]; simp
          have hmul : (i.bytes : Int) * (c : Int) ≤ 2 ^ 48 := by
            have : i.bytes * c ≤ 1048576 * 1048576 := Nat.mul_le_mul (by omega) (by omega)
            have := Int.ofNat_le.2 this
            rw [Int.natCast_mul] at this
            omega
          have hno : ((decide ((c : Int) < 0) || decide ((i.bytes : Int) * (c : Int) > 2 ^ 48)) || decide ((l : Int) < 0) || decide ((l : Int) > (c : Int))) = false := by
            have q1 : ¬ ((c : Int) < 0) := by omega
            have q2 : ¬ ((i.bytes : Int) * (c : Int) > 2 ^ 48) := by omega
            have q3 : ¬ ((l : Int) < 0) := by omega
            have q4 : ¬ ((l : Int) > (c : Int)) := by omega
            simp only [decide_eq_false q1, decide_eq_false q2, decide_eq_false q3, decide_eq_false q4, Bool.or_false]
          simp only [Instr.makeSlice, Sem.run_bind, run_und (sliceElem_und hel), Result.andThen_ok, e1, e2, asInt, asIntOf, Sem.run_pure, hir, Int.ofNat_eq_natCast, w1, w2]
          rw [hno]
          simp only [Bool.false_eq_true, if_false, Sem.run_bind, run_askRoom, Result.andThen_ok, run_szT hs, Int.toNat_natCast]
          by_cases h0 : c * s = 0
          · have : repl c (cellsV z) = [] := by rw [repl_eq, hzl, h0]; rfl
            have e0 : (Array.map (fun x => (#[] : Array Value)[x % (#[] : Array Value).size]!) (Array.range 0)) = ⟨[]⟩ := by simp
            simp only [h0, if_true, pure_bind]
            rw [e0, this]
            simp [newRow]
          · simp only [h0, if_false, Sem.run_bind, hzr, Result.andThen_ok, Sem.run_pure]
            have e0 := zeroCells_eq z.cells c
            rw [hz2] at e0
            rw [hz2, e0, ← cellsV_eq]
            simp [newRow]
        · cases e
      · cases e
    · cases e
  | call c =>
    obtain ⟨cal, args, tys⟩ := c
    cases cal <;> simp [kindOf] at hk
    split at hk <;> cases hk
  | _ => simp [kindOf] at hk
theorem sameL_eq : ∀ {l l' : List Value}, sameL l l' = true → l = l'
  | [], [], _ => rfl
  | .int k n :: l, .int k' n' :: l', h => by
    simp only [sameL, Bool.and_eq_true] at h
    obtain ⟨⟨h1, h2⟩, h3⟩ := h
    split at h1
    · rename_i e1 _
      split at h2
      · rename_i e2 _
        subst e1; subst e2; rw [sameL_eq h3]
      · cases h2
    · cases h1
  | .bool b :: l, .bool b' :: l', h => by
    simp only [sameL, Bool.and_eq_true, beq_iff_eq] at h
    rw [h.1, sameL_eq h.2]
theorem sameV_eq {v v' : Value} (h : sameV v v' = true) : v = v' := by
  unfold sameV at h
  split at h
  · rw [sameL_eq h]
  · rw [sameL_eq h]
  · have := sameL_eq h; simpa using this
theorem chkM_eq {A : List Nat} {x : Nat} {H : Hp} : ∀ {l : List Ent}, chkM P A x H l = true → ∀ e ∈ l, bit A x e.x = false → chkE P H e.k = true
  | [], _, e, he, _ => nomatch he
  | e0 :: l, h, e, he, hb => by
    simp only [chkM] at h
    rcases List.mem_cons.1 he with rfl | he
    · rw [hb] at h; simp only [Bool.and_eq_true] at h; exact h.1
    · split at h
      · exact chkM_eq h e he hb
      · rw [Bool.and_eq_true] at h; exact chkM_eq h.2 e he hb
theorem chkE_m {H : Hp} {t : TypeId} {mv k v : Value} {ok : Bool} (h : chkE P H (.m t mv k ok v) = true) : lookupV P H t mv k ok = some v := by
  simp only [chkE] at h
  split at h
  · rename_i u hu; rw [hu, sameV_eq h]
  · cases h
theorem lookupV_congr {H H' : Hp} {t : TypeId} {mv k : Value} {ok : Bool} (h : ∀ r, mv = .map (some r) → H'.get r = H.get r) : lookupV P H' t mv k ok = lookupV P H t mv k ok := by
  unfold lookupV
  have : mapOf H' mv = mapOf H mv := by
    unfold mapOf
    split
    · rfl
    · rename_i r; rw [h r rfl]
    · rfl
  rw [this]
theorem lookupV_some {H : Hp} {t : TypeId} {r : Nat} {k v : Value} {ok : Bool} (h : lookupV P H t (.map (some r)) k ok = some v) : ∃ b, H.get r = some b := by
  unfold lookupV at h
  split at h
  · split at h
    · rename_i hes _
      unfold mapOf at hes
      simp only at hes
      split at hes
      · rename_i hg; exact ⟨_, hg⟩
      · cases hes
    · cases h
  · cases h
theorem loadV_congr {H H' : Hp} {ty : TypeId} {a : Addr} (h : H'.get a.block = H.get a.block) : loadV P H' ty a = loadV P H ty a := by
  unfold loadV; rw [h]
theorem cOp_ok (hs : Snd P rec) {ops : Array Oper} {i : Nat} {rest : List Nat} {o : Oper} {v : Value} {s : St} (hI : I w₀ W φ st.H st.n w) (ht : TR φ st.T t) (ho : ops[i]? = some o)
    (hw : Region.wanted o (yielded ops t) = true) (hc : cOp P rec o.op o.type st = some (v, s)) :
    ∃ φ' w' v', Ext φ st.n φ' s.n ∧ I w₀ W φ' s.H s.n w' ∧ VR φ' v v' ∧
      Steps P (lone (fr f t (.inRegion ops (i :: rest) :: k) ds kd ro) cs w) (lone (fr f ((⟨t, []⟩ : Act).put o.dst v').tmps (.inRegion ops rest :: k) ds kd ro) cs w') := by
  have plain : aOp P o.op o.type st = some (v, s) → (∀ c, o.op ≠ .defer c) →
      ∃ φ' w' v', Ext φ st.n φ' s.n ∧ I w₀ W φ' s.H s.n w' ∧ VR φ' v v' ∧
      Steps P (lone (fr f t (.inRegion ops (i :: rest) :: k) ds kd ro) cs w) (lone (fr f ((⟨t, []⟩ : Act).put o.dst v').tmps (.inRegion ops rest :: k) ds kd ro) cs w') := by
    intro h hd
    obtain ⟨φ', v', w', hr, hle, hI, hv, hT, hD⟩ := aOp_ok (a := ⟨t, []⟩) hI ht o h
    exact ⟨φ', w', v', hle, hI, hv, .one (st_op_value ho hw hd hr)⟩
  unfold cOp at hc
  split at hc
  · rename_i c hop
    have hd : ∀ c, o.op ≠ .defer c := by intro c x; rw [hop] at x; cases x
    unfold cCall at hc
    split at hc
    · rename_i fo hcal
      split at hc
      · rename_i vf args hvf hargs
        have hf' := opd_ok (a := ⟨t, []⟩) ht hvf
        have ha' := opds_ok (a := ⟨t, []⟩) ht hargs
        unfold callV at hc
        split at hc
        · rename_i g first cap
          simp only [VR] at hf'
          obtain ⟨f', a', b', e1, e2, e3, e4⟩ := hf'
          simp only [FR] at e2; subst e2
          have l1 : VRL φ first.toList a'.toList := by cases first; simpa only [VRA] using e3
          have l2 : VRL φ cap.toList b'.toList := by cases cap; simpa only [VRA] using e4
          obtain ⟨hok, ⟨fn, cb, q1, q2, q3⟩, hT, hD⟩ := callF_ok hs hc
          obtain ⟨φ', w', v', hle, hI, hv, hst⟩ := hok w₀ W φ w _ (fr f t (.inRegion ops (i :: rest) :: k) ds kd ro) cs hI ((l1.append ha').append l2)
          refine ⟨φ', w', v', hle, hI, hv, .head (st_op_enter ho hw hd (args := ⟨a'.toList ++ List.map (⟨t, []⟩ : Act).eval c.args.toList ++ b'.toList⟩) (g := g) (w' := w) ?_) ?_⟩
          · have hn : ¬ fn.name = "runtime.NumGoroutine" := by simpa using q3
            have e5 : a' ++ Array.map (⟨t, []⟩ : Act).eval c.args ++ b' = ⟨a'.toList ++ List.map (⟨t, []⟩ : Act).eval c.args.toList ++ b'.toList⟩ := by apply Array.ext'; simp
            simp [execOp, hop, resolve, hcal, e1, Deferred.ofValue, invoke, callFunc, q1, q2, hn]
          · rw [← fr_finish ho]; exact hst
        · rename_i l
          simp only [VR] at hf'
          obtain ⟨f', a', b', e1, ⟨l', cp, e2, e5⟩, e3, e4⟩ := hf'
          subst e2
          have n1 : a' = #[] := by simp only [VRA, VRL] at e3; apply Array.ext'; simpa using e3
          have n2 : b' = #[] := by simp only [VRA, VRL] at e4; apply Array.ext'; simpa using e4
          subst n1 n2
          obtain ⟨g, tm, as, bd, hr, hT, hD, hok⟩ := yieldF_ok hs hc hI ha' e5
          obtain ⟨φ', w', v', hle, hI, hv, hst⟩ := hok (fr f t (.inRegion ops (i :: rest) :: k) ds kd ro) cs
          refine ⟨φ', w', v', hle, hI, hv, .head (st_op_round ho hw hd (l := l') (g := g) (tm := tm) (as := as) (bd := bd) (w' := w) ?_) ?_⟩
          · have e6 : Array.map (⟨t, []⟩ : Act).eval c.args = ⟨List.map (⟨t, []⟩ : Act).eval c.args.toList⟩ := by apply Array.ext'; simp
            simp only [execOp, hop, resolve, hcal, e1, Deferred.ofValue, pure_bind, invoke, e6, Array.empty_append]
            exact hr
          · rw [← fr_finish ho]; exact hst
        · cases hc
      · cases hc
    · refine plain ?_ hd
      rw [hop]; simp only [aOp]; exact hc
  · rename_i x hop
    refine plain hc ?_
    intro c x
    rw [x] at hc; simp [aOp] at hc
def Sub (H' H : Hp) : Prop := ∀ i b', H'.get i = some b' → ∃ b, H.get i = some b ∧ (b' = b ∨ ∃ c t ro vec, b = .cells c t ro vec ∧ b' = .cells c t true vec)
def blocksOf (φ : Phi) (H : Hp) : Sets where
  w p := ∃ i b q, H.get i = some b ∧ b.ro = false ∧ φ i = some q ∧ q.1 = p
  r p := ∃ i b q, H.get i = some b ∧ φ i = some q ∧ q.1 = p
theorem BR.toRo {c : List Value} {e : TypeId} {r : Bool} {vec : Option Nat} {o : Obj} {cp : Nat} (h : BR φ (.cells c e r vec) o cp) : BR φ (.cells c e true vec) o cp := by
  obtain ⟨arr, fr, a, b, c, d⟩ := h
  exact ⟨arr, fr, a, (fun x => Bool.noConfusion x), c, d⟩
theorem I.sub {Hs : Hp} (h : I w₀ W φ H n w) (hs : Sub Hs H) : I w (blocksOf φ Hs) φ Hs n w := by
  refine ⟨h.dom, ?_, ?_, fun _ _ _ => rfl, Nat.le_refl _, ?_, ?_, rfl, rfl, rfl, fun _ => rfl⟩
  · intro i b hb
    obtain ⟨b0, h0, hbb⟩ := hs i b hb
    obtain ⟨p, o, f, g, k⟩ := h.rel i b0 h0
    refine ⟨p, o, f, g, ?_⟩
    rcases hbb with rfl | ⟨c, t, ro, vec, rfl, rfl⟩
    · exact k
    · exact k.toRo
  · intro i j b c p q hb hc hp hq x
    obtain ⟨b0, h0, _⟩ := hs i b hb
    obtain ⟨c0, h1, _⟩ := hs j c hc
    exact h.inj i j b0 c0 p q h0 h1 hp hq x
  · intro i b p hb hr hp; exact .inl ⟨i, b, p, hb, hr, hp, rfl⟩
  · intro i b p hb hp; exact .inl ⟨i, b, p, hb, hp, rfl⟩
theorem I.back {φ1 : Phi} {Hm Hs H1 Hn : Hp} {n1 : Nat} {w1 : World} (h : I w₀ W φ Hm n w) (hs : Sub Hs Hm) (h1 : I w (blocksOf φ Hs) φ1 H1 n1 w1) (hx : φ.le φ1) (Ov : Nat → Prop)
    (ha : ∀ i b, ¬ Ov i → Hn.get i = some b → H1.get i = some b)
    (hb : ∀ i b, Ov i → Hn.get i = some b → Hm.get i = some b ∧ (Hs.get i = none ∨ ((∃ b', Hs.get i = some b' ∧ b'.ro = true) ∧ ∃ b1, H1.get i = some b1))) :
    I w₀ W φ1 Hn n1 w1 := by
  -- a block that was kept out is as it was
  have out : ∀ i b p, Ov i → Hn.get i = some b → φ i = some p → ¬ (blocksOf φ Hs).w p.1 := by
    intro i b p ho hi hp ⟨j, c, q, hj, hr, hq, e⟩
    obtain ⟨hm, hh⟩ := hb i b ho hi
    obtain ⟨c0, hc0, _⟩ := hs j c hj
    have := h.inj i j b c0 p q hm hc0 hp hq e.symm
    subst this
    rcases hh with hh | ⟨⟨b', hb', hro⟩, _⟩
    · rw [hh] at hj; cases hj
    · rw [hb'] at hj; cases hj; rw [hro] at hr; cases hr
  have at1 : ∀ i b, Ov i → Hn.get i = some b → ∃ p, φ i = some p ∧ φ1 i = some p ∧ p.1 < w.heap.size := by
    intro i b ho hi
    obtain ⟨hm, _⟩ := hb i b ho hi
    obtain ⟨p, o, f, g, k⟩ := h.rel i b hm
    exact ⟨p, f, hx _ _ f, (h.dom i p f).2⟩
  have ww : ∀ p, (blocksOf φ Hs).w p → W.w p ∨ w₀.heap.size ≤ p := by
    intro p ⟨j, c, q, hj, hr, hq, e⟩
    obtain ⟨c0, hc0, hcc⟩ := hs j c hj
    subst e
    refine h.wr j c0 q hc0 ?_ hq
    rcases hcc with rfl | ⟨_, _, _, _, rfl, rfl⟩
    · exact hr
    · cases hr
  have wr : ∀ p, (blocksOf φ Hs).r p → W.r p ∨ w₀.heap.size ≤ p := by
    intro p ⟨j, c, q, hj, hq, e⟩
    obtain ⟨c0, hc0, _⟩ := hs j c hj
    subst e
    exact h.src j c0 q hc0 hq
  have mixed : ∀ i j b c p, Ov i → ¬ Ov j → Hn.get i = some b → Hn.get j = some c → φ1 i = some p → ∀ q, φ1 j = some q → p.1 = q.1 → i = j := by
    intro i j b c p hi hj hbi hcj hp q hq e
    obtain ⟨p', f1, f2, f3⟩ := at1 i b hi hbi
    rw [hp] at f2; cases f2
    obtain ⟨hm, hh⟩ := hb i b hi hbi
    rcases hh with hh | ⟨_, b1, hb1⟩
    · exfalso
      rcases h1.src j c q (ha j c hj hcj) hq with ⟨j', c', q', g1, g2, g3⟩ | g
      · obtain ⟨c0, hc0, _⟩ := hs j' c' g1
        have := h.inj i j' b c0 p q' hm hc0 f1 g2 (by rw [e, g3])
        subst this; rw [hh] at g1; cases g1
      · omega
    · exact h1.inj i j b1 c p q hb1 (ha j c hj hcj) hp hq e
  refine ⟨h1.dom, ?_, ?_, ?_, Nat.le_trans h.size h1.size, ?_, ?_, h1.os.trans h.os, h1.tape.trans h.tape, h1.output.trans h.output, fun b => (h1.fz b).trans (h.fz b)⟩
  · intro i b hi
    by_cases ho : Ov i
    · obtain ⟨p, f1, f2, f3⟩ := at1 i b ho hi
      obtain ⟨hm, _⟩ := hb i b ho hi
      obtain ⟨p', o, g1, g2, g3⟩ := h.rel i b hm
      rw [f1] at g1; cases g1
      exact ⟨p, o, f2, (h1.keep p.1 f3 (out i b p ho hi f1)).trans g2, g3.mono hx⟩
    · exact h1.rel i b (ha i b ho hi)
  · intro i j b c p q hi hj hp hq e
    by_cases ho : Ov i <;> by_cases hoj : Ov j
    · obtain ⟨p', f1, f2, f3⟩ := at1 i b ho hi
      obtain ⟨q', g1, g2, g3⟩ := at1 j c hoj hj
      rw [hp] at f2; cases f2
      rw [hq] at g2; cases g2
      exact h.inj i j b c p q (hb i b ho hi).1 (hb j c hoj hj).1 f1 g1 e
    · exact mixed i j b c p ho hoj hi hj hp q hq e
    · exact (mixed j i c b q hoj ho hj hi hq p hp e.symm).symm
    · exact h1.inj i j b c p q (ha i b ho hi) (ha j c hoj hj) hp hq e
  · intro b hb0 nb
    have hnw : ¬ (blocksOf φ Hs).w b := by
      intro x
      rcases ww b x with y | y
      · exact nb y
      · omega
    rw [h1.keep b (by have := h.size; omega) hnw]
    exact h.keep b hb0 nb
  · intro i b p hi hr hp
    by_cases ho : Ov i
    · obtain ⟨p', f1, f2, f3⟩ := at1 i b ho hi
      rw [hp] at f2; cases f2
      exact h.wr i b p (hb i b ho hi).1 hr f1
    · rcases h1.wr i b p (ha i b ho hi) hr hp with x | x
      · exact ww _ x
      · exact .inr (Nat.le_trans h.size x)
  · intro i b p hi hp
    by_cases ho : Ov i
    · obtain ⟨p', f1, f2, f3⟩ := at1 i b ho hi
      rw [hp] at f2; cases f2
      exact h.src i b p (hb i b ho hi).1 f1
    · rcases h1.src i b p (ha i b ho hi) hp with x | x
      · exact wr _ x
      · exact .inr (Nat.le_trans h.size x)
theorem I.pushAt {Hn : Hp} (h : I w₀ W φ H n w) {i : Nat} (hi : φ i = none) (hin : i < n) {b : Blk} {o : Obj} {cp : Nat} (hb : BR φ b o cp)
    (hn : ∀ j, Hn.get j = if j = i then some b else H.get j) (hro : b.ro = false := by rfl) :
    I w₀ W (ext φ i (w.heap.size, cp)) Hn n { w with heap := w.heap.push o } := by
  have hle := ext_le (p := (w.heap.size, cp)) hi
  have oldφ : ∀ j q, j ≠ i → ext φ i (w.heap.size, cp) j = some q → φ j = some q := by
    intro j q hj e; unfold ext at e; rwa [if_neg hj] at e
  refine ⟨?_, ?_, ?_, ?_, ?_, ?_, ?_, h.os, h.tape, h.output, frOb_push h (hb.fr hro)⟩
  · intro j p e
    by_cases x : j = i
    · subst x; rw [ext_new] at e; cases e; simp; exact hin
    · have := h.dom j p (oldφ j p x e); simp; omega
  · intro j c e
    rw [hn] at e
    split at e
    · rename_i x; subst x; cases e
      exact ⟨_, o, ext_new _ _ _, by simp, hb.mono hle⟩
    · obtain ⟨p, o', f, g, k⟩ := h.rel j c e
      refine ⟨p, o', hle _ _ f, ?_, k.mono hle⟩
      have := (h.dom j p f).2
      show (w.heap.push o)[p.1]? = _
      rw [Array.getElem?_push, if_neg (by omega)]; exact g
  · intro j k c d p q e f g g' x
    rw [hn] at e f
    split at e <;> split at f
    · rename_i a b; rw [a, b]
    · rename_i a b
      subst a; rw [ext_new] at g; cases g
      have := (h.dom k q (oldφ k q b g')).2; simp at x; omega
    · rename_i a b
      subst b; rw [ext_new] at g'; cases g'
      have := (h.dom j p (oldφ j p a g)).2; simp at x; omega
    · rename_i a b
      exact h.inj j k c d p q e f (oldφ j p a g) (oldφ k q b g') x
  · intro c hc nc
    show (w.heap.push o)[c]? = _
    rw [Array.getElem?_push, if_neg (by have := h.size; omega)]; exact h.keep c hc nc
  · have := h.size; simp; omega
  · intro j c p e r g
    rw [hn] at e
    split at e
    · rename_i x; subst x; rw [ext_new] at g; cases g
      exact .inr h.size
    · rename_i x; exact h.wr j c p e r (oldφ j p x g)
  · intro j c p e g
    rw [hn] at e
    split at e
    · rename_i x; subst x; rw [ext_new] at g; cases g
      exact .inr h.size
    · rename_i x; exact h.src j c p e (oldφ j p x g)
end Go.Ev
