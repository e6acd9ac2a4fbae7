import Derived.Test.YtakjjillnllocaaEv6
import Derived.Laws.StructEq
namespace Go.Ev
open Go
variable {P : Program} {w₀ : World} {W : Sets} {φ : Phi} {st st' : St} {w : World} {a : Act} {H : Hp} {n : Nat}
theorem repl_eq (z : List Value) : ∀ n, repl n z = (List.range (n * z.length)).map fun i => z[i % z.length]!
  | 0 => by simp [repl]
  | n + 1 => by
    simp only [repl, repl_eq z n]
    apply List.ext_getElem?
    intro i
    by_cases h : i < z.length
    · have h2 : i < (n + 1) * z.length := by rw [Nat.succ_mul]; omega
      rw [List.getElem?_append_left h]
      simp [h, h2, Nat.mod_eq_of_lt h]
    · have hz : z.length ≤ i := by omega
      rw [List.getElem?_append_right hz]
      by_cases h2 : i < (n + 1) * z.length
      · have h3 : i - z.length < n * z.length := by rw [Nat.succ_mul] at h2; omega
        have hm : (i - z.length) % z.length = i % z.length := by
          rw [← Nat.mod_eq_sub_mod hz]
        simp [h2, h3, hm]
      · have h3 : ¬ i - z.length < n * z.length := by rw [Nat.succ_mul] at h2; omega
        simp [h2, h3]
theorem zeroCells_eq (z : Array Value) (n : Nat) : ((Array.range (n * z.size)).map fun i => z[i % z.size]!) = ⟨repl n z.toList⟩ := by
  rw [repl_eq]
  apply Array.ext'
  simp only [Array.toList_map, Array.toList_range, Array.length_toList]
  apply List.map_congr_left
  intro i _
  rw [getElem!_def, getElem!_def]
  simp
theorem idxIn_inv {v : Value} {len k : Nat} (e : idxIn v len = some k) : ∃ q, v = .int q (k : Int) ∧ k < len := by
  unfold idxIn at e
  split at e
  · rename_i q i
    split at e
    · cases e; rename_i h; exact ⟨q, rfl, h⟩
    · cases e
  · cases e
theorem bndIn_inv {v : Value} {len k : Nat} (e : bndIn v len = some k) : ∃ q, v = .int q (k : Int) ∧ k ≤ len := by
  unfold bndIn at e
  split at e
  · rename_i q i
    split at e
    · cases e; rename_i h; exact ⟨q, rfl, h⟩
    · cases e
  · cases e
theorem AR.add {x x' : Addr} (h : AR φ x x') (hs : x.spot = none) (k : Nat) : AR φ (addA x k) (x'.add k) := by
  obtain ⟨⟨c, h1⟩, h2, h3⟩ := h
  rw [spot_none (h3.trans hs), addr_add]
  exact ⟨⟨c, h1⟩, by simp [addA, h2], rfl⟩
section
variable (h : I w₀ W φ st.H st.n w) (ht : TR φ st.T a.tmps)
include h ht
theorem buildSlice_ok {t : TypeId} {len : Nat} {parts : Array (Nat × Operand)} {v : Value} (e : oBuildSlice P t len parts st = some (v, st')) :
    Done P (valOf (Instr.buildSlice t len (parts.map fun (i, x) => (i, a.eval x)))) w₀ W φ w st v st' := by
  unfold oBuildSlice at e
  split at e
  · rename_i el ps hel hps
    split at e
    · rename_i s z hs hz
      split at e
      · rename_i hc
        split at e
        · rename_i c hfill
          simp only [Option.some.injEq, Prod.mk.injEq] at e
          obtain ⟨rfl, rfl⟩ := e
          obtain ⟨hzr, hzp⟩ := run_zeroT hz w
          obtain ⟨h1, h2⟩ := parts_ok ht hps
          have hpl : (parts.map fun (i, x) => (i, a.eval x)).toList = parts.toList.map fun (i, x) => (i, a.eval x) := by simp
          have hrp : pureL (repl len (cellsV z)) = true := by
            have hcp : pureL (cellsV z) = true := by
              cases z <;> simp_all [cellsV, pureL, pureV]
              rename_i cs; cases cs; simpa [pureA] using hzp
            have app : ∀ l m, pureL l = true → pureL m = true → pureL (l ++ m) = true := by
              intro l m hl hm
              induction l with
              | nil => exact hm
              | cons x l ih => simp only [pureL, List.cons_append, Bool.and_eq_true] at *; exact ⟨hl.1, ih hl.2⟩
            clear hfill hc
            induction len with
            | zero => rfl
            | succ k ih => exact app _ _ hcp ih
          obtain ⟨c', hr, hr2⟩ := fill_ok (φ := φ) (pureL.refl hrp) h1 h2 hfill
          refine Done.row (cp := 0) (c' := c') h (Pre.of hr2) (fun s hs => by cases hs) (v' := .slice (some ⟨w.heap.size, 0, none⟩) len len) ?_ ?_
          · have hz2 : z.cells.size = s := by rw [← hc.2.1, cellsV_eq]; simp
            have hbig : ¬ len * s > 2 ^ 24 := by have := hc.1; omega
            simp only [Instr.buildSlice, Sem.run_bind, run_und (sliceElem_und hel), Result.andThen_ok, run_szT hs, if_neg hbig, hpl]
            by_cases h0 : len * s = 0
            · simp only [h0, if_true, pure_bind]
              have : repl len (cellsV z) = [] := by
                rw [repl_eq]; rw [hc.2.1, h0]; rfl
              rw [this] at hr
              have e0 : (Array.map (fun x => (#[] : Array Value)[x % (#[] : Array Value).size]!) (Array.range 0)) = ⟨[]⟩ := by simp
              rw [e0, hr]
              simp [newRow]
            · simp only [h0, if_false, Sem.run_bind, hzr, Result.andThen_ok, Sem.run_pure]
              have e0 := zeroCells_eq z.cells len
              rw [hz2] at e0
              rw [hz2, e0, ← cellsV_eq, hr]
              simp [newRow]
          · simp only [VR]
            exact ⟨_, _, rfl, ⟨⟨0, ext_new _ _ _⟩, rfl, rfl⟩, .inl ⟨hc.2.2, rfl⟩⟩
        · cases e
      · cases e
    · cases e
  · cases e
theorem nilCheck_ok {x : Operand} {v : Value} (o : Oper) (ho : o.op = .nilCheck x) (e : oNilCheck x st = some (v, st')) :
    Done P (execOp a.eval o) w₀ W φ w st v st' := by
  unfold oNilCheck at e
  split at e
  · rename_i ad hx
    simp only [Option.some.injEq, Prod.mk.injEq] at e
    obtain ⟨rfl, rfl⟩ := e
    have hv := opd_ok ht hx
    have hv2 := hv; simp only [VR] at hv2
    obtain ⟨ad', e2, _⟩ := hv2
    rw [e2] at hv
    exact Done.same h (by simp [execOp, ho, e2]) hv
  · rename_i f p q hx
    simp only [Option.some.injEq, Prod.mk.injEq] at e
    obtain ⟨rfl, rfl⟩ := e
    have hv := opd_ok ht hx
    have hv2 := hv; simp only [VR] at hv2
    obtain ⟨f', p', q', e2, e3, _⟩ := hv2
    simp only [FR] at e3; subst e3
    rw [e2] at hv
    exact Done.same h (by simp [execOp, ho, e2]) hv
  · cases e
omit h ht in
theorem nilEq_ok {x y : Operand} {t : TypeId} {u v u' v' : Value} {r : Bool} (hu : VR φ u u') (hv : VR φ v v') (e : nilEq P t u v = some r) (w : World) :
    (guardBin .eql t x y u' v').run P w = .ok (.bool r) w ∧ (guardBin .neq t x y u' v').run P w = .ok (.bool (!r)) w := by
  have key : ∀ (op : BinOp), eqGuard op t x y u' v' = pure () → (∀ d, (Op.equalIn (d + 1) t u' v').run P w = .ok r w) →
      binOp .eql t u' v' = (do pure (.bool (← Op.equal t u' v'))) → binOp .neq t u' v' = (do pure (.bool (!(← Op.equal t u' v')))) →
      (op = .eql → (guardBin op t x y u' v').run P w = .ok (.bool r) w) ∧ (op = .neq → (guardBin op t x y u' v').run P w = .ok (.bool (!r)) w) := by
    intro op h1 h2 h3 h4
    have h2' : (Op.equal t u' v').run P w = .ok r w := by unfold Op.equal Op.maxDepth; exact h2 9999
    constructor
    · rintro rfl; simp [guardBin, h1, h3, h2']
    · rintro rfl; simp [guardBin, h1, h4, h2']
  have fin : (eqGuard .eql t x y u' v' = pure ()) → (eqGuard .neq t x y u' v' = pure ()) → (∀ d, (Op.equalIn (d + 1) t u' v').run P w = .ok r w) →
      binOp .eql t u' v' = (do pure (.bool (← Op.equal t u' v'))) → binOp .neq t u' v' = (do pure (.bool (!(← Op.equal t u' v')))) →
      (guardBin .eql t x y u' v').run P w = .ok (.bool r) w ∧ (guardBin .neq t x y u' v').run P w = .ok (.bool (!r)) w :=
    fun g1 g2 h2 h3 h4 => ⟨(key .eql g1 h2 h3 h4).1 rfl, (key .neq g2 h2 h3 h4).2 rfl⟩
  unfold nilEq at e
  split at e
  · rename_i el n1 c1 b n2 c2 hund
    cases e
    simp only [VR] at hu; subst hu
    cases b with
    | none => simp only [VR] at hv; subst hv; exact fin rfl rfl (fun d => by simp [Op.equalIn, run_und hund]) rfl rfl
    | some b => simp only [VR] at hv; obtain ⟨b', c', rfl, _⟩ := hv; exact fin rfl rfl (fun d => by simp [Op.equalIn, run_und hund]) rfl rfl
  · rename_i el b n1 c1 n2 c2 hund
    cases e
    simp only [VR] at hu hv; subst hv
    obtain ⟨b', c', rfl, _⟩ := hu
    exact fin rfl rfl (fun d => by simp [Op.equalIn, run_und hund]) rfl rfl
  · rename_i el b hund
    cases e
    simp only [VR] at hu; subst hu
    cases b with
    | none => simp only [VR] at hv; subst hv; exact fin rfl rfl (fun d => by simp [Op.equalIn, run_und hund]) rfl rfl
    | some b => simp only [VR] at hv; obtain ⟨b', rfl, _⟩ := hv; exact fin rfl rfl (fun d => by simp [Op.equalIn, run_und hund]) rfl rfl
  · rename_i el b hund
    cases e
    simp only [VR] at hu hv; subst hv
    obtain ⟨b', rfl, _⟩ := hu
    exact fin rfl rfl (fun d => by simp [Op.equalIn, run_und hund]) rfl rfl
  · rename_i p q s hund
    cases e
    simp only [VR] at hu hv; subst hu; subst hv
    exact fin rfl rfl (fun d => by simp [Op.equalIn, run_und hund]) rfl rfl
  · rename_i p q s f x1 x2 hund
    cases e
    simp only [VR] at hu hv; subst hu
    obtain ⟨f', a', b', rfl, _⟩ := hv
    exact fin rfl rfl (fun d => by simp [Op.equalIn, run_und hund]) rfl rfl
  · rename_i p q s f x1 x2 hund
    cases e
    simp only [VR] at hu hv; subst hv
    obtain ⟨f', a', b', rfl, _⟩ := hu
    exact fin rfl rfl (fun d => by simp [Op.equalIn, run_und hund]) rfl rfl
  · cases e
omit h ht in
theorem mk64_ok {n : Nat} {v : Value} (e : mk64 n = some v) : v = .int .i64 (n : Int) ∧ IntKind.i64.wrap (n : Int) = n := by
  unfold mk64 at e
  split at e
  · rename_i hb
    cases e
    have hlt : n < 9223372036854775808 := by simpa using hb
    refine ⟨rfl, ?_⟩
    have e1 : (n : Int) % 18446744073709551616 = n := by omega
    simp [IntKind.wrap, IntKind.bits, IntKind.signed, e1]
    omega
  · cases e
omit h ht in
theorem quick_ok {op : BinOp} {x y : Operand} {t : TypeId} {a b v : Value} (e : quickBin op a b = some v) (w : World) :
    (guardBin op t x y a b).run P w = .ok v w ∧ pureV v = true ∧ pureV a = true ∧ pureV b = true := by
  unfold quickBin at e
  split at e
  · rename_i m
    split at e
    · rename_i n
      refine ⟨?_, ?_, rfl, rfl⟩
      · have hg : ∀ op', eqGuard op' t x y (.int .i64 (.ofNat m)) (.int .i64 (.ofNat n)) = pure () := by
          intro op'; unfold eqGuard; split <;> rfl
        unfold guardBin
        rw [hg]
        unfold natBin at e
        cases op <;> simp only at e
        case add => obtain ⟨rfl, hw⟩ := mk64_ok e; simpa [binOp, Op.intArith] using hw
        case mul => obtain ⟨rfl, hw⟩ := mk64_ok e; simpa [binOp, Op.intArith] using hw
        case sub =>
          split at e
          · rename_i hle
            have hle := Nat.le_of_ble_eq_true hle
            obtain ⟨rfl, hw⟩ := mk64_ok e
            have e3 : ((m - n : Nat) : Int) = (m : Int) - n := by omega
            rw [e3] at hw
            simp [binOp, Op.intArith, e3, hw]
          · cases e
        case eql => cases e; have : ((m : Int) == (n : Int)) = Nat.beq m n := (by rw [Bool.eq_iff_iff]; simp; omega); simp [binOp, Op.intCmp, this]
        case neq => cases e; have : ((m : Int) == (n : Int)) = Nat.beq m n := (by rw [Bool.eq_iff_iff]; simp; omega); simp [binOp, Op.intCmp, bne, this]
        case lss => cases e; have : decide ((m : Int) < (n : Int)) = Nat.blt m n := (by rw [Bool.eq_iff_iff]; simp); simp [binOp, Op.intCmp, ← this]
        case gtr => cases e; have : decide ((n : Int) < (m : Int)) = Nat.blt n m := (by rw [Bool.eq_iff_iff]; simp); simp [binOp, Op.intCmp, ← this]
        case leq => cases e; have : decide ((m : Int) ≤ (n : Int)) = Nat.ble m n := (by rw [Bool.eq_iff_iff]; simp); simp [binOp, Op.intCmp, ← this]
        case geq => cases e; have : decide ((n : Int) ≤ (m : Int)) = Nat.ble n m := (by rw [Bool.eq_iff_iff]; simp); simp [binOp, Op.intCmp, ← this]
        all_goals cases e
      · unfold natBin at e
        cases op <;> simp only at e <;> first | cases e | (obtain ⟨rfl, _⟩ := mk64_ok e; rfl) | (split at e <;> first | cases e | (obtain ⟨rfl, _⟩ := mk64_ok e; rfl))
        all_goals rfl
    · cases e
  · cases e
omit h ht in
theorem flatFs_eq {xs ys : List Value} (d : Nat) : ∀ {fs : List Field} {i : Nat} {l l' : List Value} {r : Bool}, flatFs P fs i = true → xs.drop i = l → ys.drop i = l' → fs.length = l.length → eqCells l l' = some r →
    (Op.eqFields (d + 1) ⟨xs⟩ ⟨ys⟩ fs).run P w = .ok r w
  | [], i, l, l', r, _, _, _, hl, he => by
    cases l with
    | cons z zs => simp at hl
    | nil => cases l' with
      | nil => simp [eqCells] at he; simp [Op.eqFields, he]
      | cons z zs => simp [eqCells] at he
  | f :: fs, i, l, l', r, hf, hx, hy, hlen, he => by
    simp only [flatFs] at hf
    split at hf
    · rename_i k hn hu ha
      simp only [Bool.and_eq_true, bne_iff_ne, ne_eq, Nat.beq_eq] at hn
      obtain ⟨hn, rfl⟩ := hn
      match l, l', he with
      | [], _, _ => simp at hlen
      | .int k1 a :: l, .int k2 b :: l', he =>
        have gx : xs[f.offset]? = some (.int k1 a) := by
          have := congrArg (fun z => z[0]?) hx; simpa using this
        have gy : ys[f.offset]? = some (.int k2 b) := by
          have := congrArg (fun z => z[0]?) hy; simpa using this
        have px : (part f.type ⟨xs⟩ f.offset).run P w = .ok (.int k1 a) w := by simp [part, run_isAggT ha, gx]
        have py : (part f.type ⟨ys⟩ f.offset).run P w = .ok (.int k2 b) w := by simp [part, run_isAggT ha, gy]
        have dx : xs.drop (f.offset + 1) = l := by rw [← List.drop_drop, hx]; rfl
        have dy : ys.drop (f.offset + 1) = l' := by rw [← List.drop_drop, hy]; rfl
        simp only [eqCells] at he
        split at he
        · rename_i h1 h2
          have h1 := of_decide_eq_true h1
          have h2 := of_decide_eq_true h2
          subst h1; subst h2
          have ih := flatFs_eq d hf dx dy (by simpa using hlen) he
          simp only [Op.eqFields, hn, ne_eq, not_false_eq_true, if_true, Sem.run_bind, px, py, Result.andThen_ok, run_equalIn_int w d f.type k1 k a a hu, beq_self_eq_true, Bool.not_true, Bool.false_eq_true, if_false, ih]
        · rename_i h1 h2
          have h1 := of_decide_eq_true h1
          have h2 := of_decide_eq_false h2
          cases he
          subst h1
          simp only [Op.eqFields, hn, ne_eq, not_false_eq_true, if_true, Sem.run_bind, px, py, Result.andThen_ok, run_equalIn_int w d f.type k1 k a b hu, beq_eq_false_iff_ne.2 h2, Bool.not_false, Sem.run_pure]
        · cases he
    · cases hf
omit h ht in
theorem flatK_eq {k : TypeId} {n : Nat} (e : flatK P k = some n) : ∃ fs : Array Field, P.underlying k = some (.struct fs) ∧ P.stoodInHeld k = false ∧ flatFs P fs.toList 0 = true ∧ fs.toList.length = n := by
  unfold flatK at e
  split at e
  · rename_i fs hu
    split at e
    · rename_i hb
      simp only [Bool.and_eq_true, Bool.not_eq_true'] at hb
      cases e
      exact ⟨fs, hu, hb.1, hb.2, rfl⟩
    · cases e
  · cases e
omit h ht in
theorem aggEq_ok {t : TypeId} {a b : Value} {r : Bool} (e : aggEq P t a b = some r) (x y : Operand) (w : World) :
    (guardBin .eql t x y a b).run P w = .ok (.bool r) w ∧ (guardBin .neq t x y a b).run P w = .ok (.bool (!r)) w := by
  unfold aggEq at e
  split at e
  · rename_i l l'
    split at e
    · rename_i n hn
      obtain ⟨fs, hu, hp, hf, hl⟩ := flatK_eq hn
      split at e
      · rename_i hb
        simp only [Bool.and_eq_true, Bool.not_eq_true', Nat.beq_eq] at hb
        have hfo : P.fieldsOf t = fs := by simp [Program.fieldsOf, hu]
        have he : (Op.equalIn 10000 t (.agg ⟨l⟩) (.agg ⟨l'⟩)).run P w = .ok r w := by
          rw [show (10000 : Nat) = 9998 + 1 + 1 from rfl, run_equalIn_struct w (9998 + 1) t _ _ (by rw [hfo]; exact hu) hp, hfo]
          exact flatFs_eq 9998 hf (List.drop_zero) (List.drop_zero) (by omega) e
        unfold guardBin
        constructor
        · simp only [Sem.run_bind, run_eqGuard_agg w .eql t x y _ _ hb.2, Result.andThen_ok, run_eql_struct, he]
        · simp only [Sem.run_bind, run_eqGuard_agg w .neq t x y _ _ hb.2, Result.andThen_ok, run_neq_struct, he]
      · cases e
    · cases e
  · cases e
omit h ht in
theorem aggBin_ok {op : BinOp} {t : TypeId} {a b v : Value} (e : aggBin P op t a b = some v) (x y : Operand) (w : World) :
    (guardBin op t x y a b).run P w = .ok v w ∧ pureV v = true := by
  unfold aggBin at e
  split at e
  · split at e
    · rename_i r hr; cases e; exact ⟨(aggEq_ok hr x y w).1, rfl⟩
    · cases e
  · split at e
    · rename_i r hr; cases e; exact ⟨(aggEq_ok hr x y w).2, rfl⟩
    · cases e
  · cases e
theorem bin_ok {op : BinOp} {t : TypeId} {x y : Operand} {v : Value} (e : oBin P op t x y st = some (v, st')) :
    Done P (valOf (guardBin op t x y (a.eval x) (a.eval y))) w₀ W φ w st v st' := by
  unfold oBin at e
  split at e
  · rename_i p q hp hq
    have hp' := opd_ok ht hp
    have hq' := opd_ok ht hq
    refine Done.keep h e fun v hv => ?_
    unfold binV at hv
    split at hv
    · rename_i u hu
      cases hv
      obtain ⟨k1, k2, k3, k4⟩ := quick_ok (P := P) (x := x) (y := y) (t := t) hu w
      rw [pureV.eq k3 hp', pureV.eq k4 hq']
      exact ⟨_, k1, pureV.refl k2⟩
    · unfold slowBin at hv
      split at hv
      · rename_i hpure
        simp only [Bool.and_eq_true] at hpure
        rw [pureV.eq hpure.1 hp', pureV.eq hpure.2 hq']
        split at hv
        · rename_i u hu
          cases hv
          obtain ⟨k1, k2⟩ := aggBin_ok hu x y w
          exact ⟨_, k1, pureV.refl k2⟩
        split at hv
        · rename_i u hu
          split at hv
          · rename_i hpu
            cases hv
            exact ⟨_, semPure_run hu w, pureV.refl hpu⟩
          · cases hv
        · cases hv
      · split at hv
        · split at hv
          · rename_i r hr
            cases hv
            exact ⟨.bool r, (nilEq_ok hp' hq' hr w).1, pureV.refl rfl⟩
          · cases hv
        · split at hv
          · rename_i r hr
            cases hv
            exact ⟨.bool (!r), (nilEq_ok hp' hq' hr w).2, pureV.refl rfl⟩
          · cases hv
        · cases hv
  · cases e
omit ht in
theorem viaPure_ok {m : Sem Value} {v : Value} (e : viaPure P m st = some (v, st')) : Done P (valOf m) w₀ W φ w st v st' := by
  unfold viaPure at e
  split at e
  · rename_i u hu
    split at e
    · rename_i hp
      simp only [Option.some.injEq, Prod.mk.injEq] at e
      obtain ⟨rfl, rfl⟩ := e
      exact Done.val h (semPure_run hu w) (pureV.refl hp)
    · cases e
  · cases e
theorem un_ok {op : UnOp} {x : Operand} {v : Value} (e : oUn P op x st = some (v, st')) : Done P (valOf (Op.unary op (a.eval x))) w₀ W φ w st v st' := by
  unfold oUn at e
  split at e
  · rename_i u hu
    split at e
    · rename_i hp
      rw [pureV.eq hp (opd_ok ht hu)]
      exact viaPure_ok h e
    · cases e
  · cases e
theorem convert_ok {s d : TypeId} {x : Operand} {v : Value} (e : oConvert P s d x st = some (v, st')) : Done P (valOf (convert s d (a.eval x))) w₀ W φ w st v st' := by
  unfold oConvert at e
  split at e
  · rename_i u hu
    split at e
    · rename_i hp
      rw [pureV.eq hp (opd_ok ht hu)]
      exact viaPure_ok h e
    · cases e
  · cases e
theorem fieldAddr_ok {t : TypeId} {x : Operand} {f : Nat} {v : Value} (e : oFieldAddr P t x f st = some (v, st')) :
    Done P (valOf (Instr.fieldAt t (a.eval x) f)) w₀ W φ w st v st' := by
  unfold oFieldAddr at e
  split at e
  · rename_i u hu
    refine Done.keep h e fun v hv => ?_
    unfold fieldAddrV at hv
    split at hv
    · rename_i ad
      split at hv
      · rename_i off ft hsp hf
        split at hv
        · rename_i s hs
          split at hv
          · cases hv
          · rename_i hne
            cases hv
            have hvr := opd_ok ht hu; simp only [VR] at hvr
            obtain ⟨ad', e1, har⟩ := hvr
            unfold fieldOf at hf
            split at hf
            · rename_i fs hund
              split at hf
              · rename_i fl hfl
                simp only [Option.some.injEq, Prod.mk.injEq] at hf
                obtain ⟨rfl, rfl⟩ := hf
                refine ⟨.pointer (some (ad'.add fl.offset)), ?_, by simp only [VR]; exact ⟨_, rfl, har.add hsp _⟩⟩
                have hfl' : fs[f]? = some fl := by simpa using hfl
                simp [Instr.fieldAt, run_und hund, hfl', e1, Instr.sureAddr, fieldPlace, run_szT hs, hne]
              · cases hf
            · cases hf
        · cases hv
      · cases hv
    · cases hv
  · cases e
theorem field_ok {t : TypeId} {x : Operand} {f : Nat} {v : Value} (e : oField P t x f st = some (v, st')) :
    Done P (valOf (Instr.field t (a.eval x) f)) w₀ W φ w st v st' := by
  unfold oField at e
  split at e
  · rename_i u hu
    refine Done.keep h e fun v hv => ?_
    unfold fieldV at hv
    split at hv
    · rename_i cs
      split at hv
      · rename_i off ft hf
        have hvr := opd_ok ht hu; simp only [VR] at hvr
        obtain ⟨cs', e1, har⟩ := hvr
        unfold fieldOf at hf
        split at hf
        · rename_i fs hund
          split at hf
          · rename_i fl hfl
            simp only [Option.some.injEq, Prod.mk.injEq] at hf
            obtain ⟨rfl, rfl⟩ := hf
            have hl : VRL φ cs.toList cs'.toList := by cases cs; simpa only [VRA] using har
            obtain ⟨v', h1, h2⟩ := part_ok (P := P) hl hv w
            have hfl' : fs[f]? = some fl := by simpa using hfl
            refine ⟨v', ?_, h2⟩
            have h1' : (part fl.type cs' fl.offset).run P w = .ok v' w := h1
            simp [Instr.field, run_und hund, hfl', e1, asAgg, h1']
          · cases hf
        · cases hf
      · cases hv
    · cases hv
  · cases e
theorem indexAddr_ok {t : TypeId} {x i : Operand} {v : Value} (e : oIndexAddr P t x i st = some (v, st')) :
    Done P (valOf (Instr.indexAt t (a.eval x) (a.eval i))) w₀ W φ w st v st' := by
  unfold oIndexAddr at e
  split at e
  · rename_i u k hu hk
    refine Done.keep h e fun v hv => ?_
    unfold indexAddrV at hv
    split at hv
    · rename_i len el ad hund
      split at hv
      · cases hv
      · rename_i hsp
        split at hv
        · rename_i j s hj hs
          cases hv
          obtain ⟨q, rfl, hlt⟩ := idxIn_inv hj
          have hvr := opd_ok ht hu; simp only [VR] at hvr
          obtain ⟨ad', e1, har⟩ := hvr
          have hkr := opd_ok ht hk; simp only [VR] at hkr
          refine ⟨.pointer (some (ad'.add (j * s))), ?_, by simp only [VR]; exact ⟨_, rfl, har.add hsp _⟩⟩
          simp [Instr.indexAt, hkr, asIntOf, run_und hund, e1, Instr.sureAddr, run_szT hs, hlt]
        · cases hv
    · rename_i el ad len cap hund
      split at hv
      · cases hv
      · rename_i hsp
        split at hv
        · rename_i j s hj hs
          cases hv
          obtain ⟨q, rfl, hlt⟩ := idxIn_inv hj
          have hvr := opd_ok ht hu; simp only [VR] at hvr
          obtain ⟨ad', c', e1, har, _⟩ := hvr
          have hkr := opd_ok ht hk; simp only [VR] at hkr
          refine ⟨.pointer (some (ad'.add (j * s))), ?_, by simp only [VR]; exact ⟨_, rfl, har.add hsp _⟩⟩
          simp [Instr.indexAt, hkr, asIntOf, run_und hund, e1, run_szT hs, hlt]
        · cases hv
    · cases hv
  · cases e
theorem index_ok {t : TypeId} {x i : Operand} {v : Value} (e : oIndex P t x i st = some (v, st')) :
    Done P (valOf (Instr.index t (a.eval x) (a.eval i))) w₀ W φ w st v st' := by
  unfold oIndex at e
  split at e
  · rename_i u k hu hk
    refine Done.keep h e fun v hv => ?_
    unfold indexV at hv
    split at hv
    · rename_i len el cs hund
      split at hv
      · rename_i j s hj hs
        obtain ⟨q, rfl, hlt⟩ := idxIn_inv hj
        have hvr := opd_ok ht hu; simp only [VR] at hvr
        obtain ⟨cs', e1, har⟩ := hvr
        have hkr := opd_ok ht hk; simp only [VR] at hkr
        have hl : VRL φ cs.toList cs'.toList := by cases cs; simpa only [VRA] using har
        obtain ⟨v', h1, h2⟩ := part_ok (P := P) hl hv w
        refine ⟨v', ?_, h2⟩
        have h1' : (part el cs' (j * s)).run P w = .ok v' w := h1
        simp [Instr.index, hkr, asIntOf, run_und hund, e1, run_szT hs, hlt, h1']
      · cases hv
    · rename_i s hund
      split at hv
      · rename_i j hj
        split at hv
        · rename_i b hb
          cases hv
          obtain ⟨q, rfl, hlt⟩ := idxIn_inv hj
          have hvr := opd_ok ht hu; simp only [VR] at hvr
          have hkr := opd_ok ht hk; simp only [VR] at hkr
          have hs : s[j]? = some b := by
            cases s with
            | mk d =>
              have hlt' : j < d.size := hlt
              rw [Array.getElem?_toList, Array.getElem?_eq_getElem hlt'] at hb
              rw [getElem?_pos (⟨d⟩ : ByteArray) j hlt]
              exact hb
          refine ⟨.int .u8 b.toNat, ?_, by simp only [VR]⟩
          simp [Instr.index, hkr, asIntOf, run_und hund, hvr, hs]
        · cases hv
      · cases hv
    · cases hv
  · cases e
theorem extract_ok {x : Operand} {i : Nat} {v : Value} (e : oExtract x i st = some (v, st')) :
    Done P (valOf (Instr.extract (a.eval x) i)) w₀ W φ w st v st' := by
  unfold oExtract at e
  split at e
  · rename_i vs hx
    refine Done.keep h e fun v hv => ?_
    have hvr := opd_ok ht hx; simp only [VR] at hvr
    obtain ⟨cs', e1, har⟩ := hvr
    have hl : VRL φ vs.toList cs'.toList := by cases vs; simpa only [VRA] using har
    obtain ⟨v', h1, h2⟩ := hl.get hv
    have h1' : cs'[i]? = some v' := by simpa using h1
    exact ⟨v', by simp [Instr.extract, e1, h1'], h2⟩
  · cases e
theorem makeFunc_ok {fn : Fn} {first cap : Array Operand} {v : Value} (e : oMakeFunc fn first cap st = some (v, st')) :
    Done P (valOf (Instr.makeFunc fn (first.map a.eval) (cap.map a.eval))) w₀ W φ w st v st' := by
  unfold oMakeFunc at e
  split at e
  · rename_i f
    split at e
    · rename_i p q hp hq
      simp only [Option.some.injEq, Prod.mk.injEq] at e
      obtain ⟨rfl, rfl⟩ := e
      refine Done.val h (v' := .func (.func f) (first.map a.eval) (cap.map a.eval)) rfl ?_
      simp only [VR]
      refine ⟨_, _, _, rfl, rfl, ?_, ?_⟩
      · simp only [VRA]; simpa using opds_ok ht hp
      · simp only [VRA]; simpa using opds_ok ht hq
    · cases e
  · cases e
end
end Go.Ev
