import Derived.Test.YtakjjillnllocaaEv8
namespace Go.Ev
open Go
variable {P : Program} {w₀ : World} {W : Sets} {φ : Phi} {st st' : St} {w : World} {a : Act} {H : Hp} {n : Nat}
theorem I.congr {H' : Hp} (h : I w₀ W φ H n w) (e : ∀ i, H'.get i = H.get i) : I w₀ W φ H' n w :=
  ⟨h.dom, fun i b x => h.rel i b (by rw [← e]; exact x), fun i j b c p q x y => h.inj i j b c p q (by rw [← e]; exact x) (by rw [← e]; exact y), h.keep, h.size,
   fun i b p x => h.wr i b p (by rw [← e]; exact x), fun i b p x => h.src i b p (by rw [← e]; exact x), h.os, h.tape, h.output, h.fz⟩
theorem I.rename (h : I w₀ W φ H n w) {i : Nat} {b : Blk} {p : Nat × Nat} (hi : H.get i = some b) (hp : φ i = some p) :
    I w₀ W (ext φ n p) ((H.set i none).set n (some b)) (n + 1) w := by
  have hle := ext_le (p := p) h.free
  have old : ∀ j c, j ≠ n → ((H.set i none).set n (some b)).get j = some c → j ≠ i ∧ H.get j = some c := by
    intro j c hj e
    rw [Tr.get_set, if_neg hj, Tr.get_set] at e
    split at e
    · cases e
    · rename_i x; exact ⟨x, e⟩
  have oldφ : ∀ j q, j ≠ n → ext φ n p j = some q → φ j = some q := by
    intro j q hj e; unfold ext at e; rwa [if_neg hj] at e
  refine ⟨?_, ?_, ?_, h.keep, h.size, ?_, ?_, h.os, h.tape, h.output, h.fz⟩
  · intro j q e
    by_cases hj : j = n
    · subst hj; rw [ext_new] at e; cases e
      exact ⟨by omega, (h.dom i p hp).2⟩
    · have := h.dom j q (oldφ j q hj e); omega
  · intro j c e
    by_cases hj : j = n
    · subst hj; rw [Tr.get_set, if_pos rfl] at e; cases e
      obtain ⟨q, o, f, g, k⟩ := h.rel i b hi
      rw [hp] at f; cases f
      exact ⟨p, o, ext_new _ _ _, g, k.mono hle⟩
    · obtain ⟨_, e'⟩ := old j c hj e
      obtain ⟨q, o, f, g, k⟩ := h.rel j c e'
      exact ⟨q, o, hle _ _ f, g, k.mono hle⟩
  · intro j k c d q r e f g g' x
    by_cases hj : j = n <;> by_cases hk : k = n
    · rw [hj, hk]
    · exfalso
      subst hj; rw [ext_new] at g; cases g
      obtain ⟨h1, h2⟩ := old k d hk f
      exact h1 (h.inj i k b d p r hi h2 hp (oldφ k r hk g') x).symm
    · exfalso
      subst hk; rw [ext_new] at g'; cases g'
      obtain ⟨h1, h2⟩ := old j c hj e
      exact h1 (h.inj j i c b q p h2 hi (oldφ j q hj g) hp x)
    · exact h.inj j k c d q r (old j c hj e).2 (old k d hk f).2 (oldφ j q hj g) (oldφ k r hk g') x
  · intro j c q e r g
    by_cases hj : j = n
    · subst hj; rw [ext_new] at g; cases g
      rw [Tr.get_set, if_pos rfl] at e; cases e
      exact h.wr i b p hi r hp
    · exact h.wr j c q (old j c hj e).2 r (oldφ j q hj g)
  · intro j c q e g
    by_cases hj : j = n
    · subst hj; rw [ext_new] at g; cases g
      rw [Tr.get_set, if_pos rfl] at e; cases e
      exact h.src i b p hi hp
    · exact h.src j c q (old j c hj e).2 (oldφ j q hj g)
theorem nextslicecap_le {need cap : Nat} (h : cap < need) : Builtin.nextslicecap need cap ≤ 4 * need + 4096 := by
  unfold Builtin.nextslicecap
  split
  · omega
  · split
    · omega
    · simp only [Builtin.growBy]
      repeat' split
      all_goals omega
theorem VR.slice_none {n c : Nat} {v' : Value} (k : VR φ (.slice none n c) v') : v' = .slice none n c := by simpa only [VR] using k
theorem src_ok (h : I w₀ W φ H n w) {s m : Nat} {y y' : Value} {l : List Value} (hy : VR φ y y') (e : srcCells H s y = some (l, m)) :
    ∃ l', VRL φ l l' ∧ (∃ b c, y' = .slice b m c) ∧ l'.length = m * s ∧ (Builtin.firstCells s m y').run P w = .ok ⟨l'⟩ w := by
  unfold srcCells at e
  split at e
  · rename_i k c
    split at e
    · rename_i hk
      subst hk
      simp only [Option.some.injEq, Prod.mk.injEq] at e
      obtain ⟨rfl, rfl⟩ := e
      have := hy.slice_none; subst this
      exact ⟨[], VRL.nil, ⟨_, _, rfl⟩, by simp, by simp [Builtin.firstCells]⟩
    · cases e
  · rename_i ad k c
    split at e
    · rename_i l0 hl0
      simp only [Option.some.injEq, Prod.mk.injEq] at e
      obtain ⟨rfl, rfl⟩ := e
      obtain ⟨ad', c', rfl, har, _⟩ := VR.slice_inv hy
      have hlen : l0.length = k * s := by
        unfold loadN at hl0
        split at hl0
        · cases hl0
        · split at hl0
          · exact (cut_eq hl0).2
          · split at hl0
            · rename_i hl
              split at hl0
              · cases hl0; exact (cut_eq hl).2
              · cases hl0
            · cases hl0
          · cases hl0
      obtain ⟨l', h1, h2⟩ := loadN_ok (P := P) h har hl0
      exact ⟨l', h1, ⟨_, _, rfl⟩, by rw [h1.length, hlen], by simpa [Builtin.firstCells] using h2⟩
    · cases e
  · cases e
theorem append_grow {t t2 e e2 ty : TypeId} {base : Option Addr} {len m c' s b : Nat} {y' z : Value} {by' : Option Addr} {cy : Nat} {old' new' : List Value}
    (hel : P.underlying t = some (.slice e)) (h2 : P.underlying t2 = some (.slice e2)) (hs : szT P e = some s) (hb : bytesT P e = some b) (hz : zeroT P e = some z)
    (hzl : (cellsV z).length = s) (big : bigOk (len + m) s b = true) (hgt : c' < len + m) (hy : y' = .slice by' m cy)
    (hold : (Builtin.firstCells s len (.slice base len c')).run P { w with drawn := w.drawn + 1 } = .ok ⟨old'⟩ { w with drawn := w.drawn + 1 })
    (hnew : (Builtin.firstCells s m y').run P { w with drawn := w.drawn + 1 } = .ok ⟨new'⟩ { w with drawn := w.drawn + 1 }) :
    ∃ newCap rest, len + m ≤ newCap ∧ rest.length = (newCap - (len + m)) * s ∧
      (Builtin.append_ #[t, t2] ty #[.slice base len c', y']).run P w = .ok (.slice (some ⟨w.heap.size, 0, none⟩) (len + m) newCap)
        { w with heap := w.heap.push (.cells ⟨old' ++ new' ++ rest⟩ e), drawn := w.drawn + 1 } := by
  obtain ⟨b1, b2, b3⟩ := bigOk_inv big
  obtain ⟨i, hir, rfl⟩ := run_bytesT hb w
  obtain ⟨i2, hir2, hi2⟩ := run_bytesT hb { w with drawn := w.drawn + 1 }
  have hnc := nextslicecap_le hgt
  have hroom : ¬ Builtin.nextslicecap (len + m) c' * i.bytes > 2 ^ 48 := by
    have : Builtin.nextslicecap (len + m) c' * i.bytes ≤ 4198400 * 1048576 := Nat.mul_le_mul (by omega) (by omega)
    omega
  have hmax : ¬ (((len + m : Nat) : Int) > IntKind.i64.max) := by
    have : IntKind.i64.max = 9223372036854775807 := by decide
    rw [this]; omega
  have hne : ¬ len + m ≤ c' := by omega
  subst hy
  refine ⟨(Question.appendCap (len + m) c' e).cut (w.tape w.drawn (.appendCap (len + m) c' e)), repl ((Question.appendCap (len + m) c' e).cut (w.tape w.drawn (.appendCap (len + m) c' e)) - (len + m)) (cellsV z), ?_, ?_, ?_⟩
  · simp [Question.cut]
  · rw [repl_length, hzl]
  · have hzc : ∀ k, Builtin.zeroCells z.cells k = ⟨repl k (cellsV z)⟩ := by
      intro k; rw [cellsV_eq]; exact zeroCells_eq z.cells k
    have hzr := (run_zeroT hz { w with drawn := w.drawn + 1 }).1
    simp only [Builtin.append_, List.getElem?_toArray, List.getElem?_cons_zero, List.getElem?_cons_succ, Sem.run_bind, run_und hel, run_und h2, Result.andThen_ok, run_szT hs, Sem.run_pure,
      Builtin.lenOf, Bool.false_eq_true, if_false, Sem.run_ite, if_neg hne]
    have hnot : ¬ (((len + m : Nat) : Int) > IntKind.i64.max ∧ (False ∨ i.bytes = 0)) := fun x => hmax x.1
    have hf : (Question.appendCap (len + m) c' e).forced = false := rfl
    simp only [hir, Result.andThen_ok, if_neg hnot, if_neg hroom, run_choose, hf, Bool.false_eq_true, if_false, hir2, run_askRoom, hold, Bool.not_false, if_true, hnew, hzr, hzc, newRow, Sem.run_bind, run_newObj, Sem.run_pure]
    simp
theorem append_ok (h : I w₀ W φ st.H st.n w) {t t2 ty : TypeId} {x y x' y' v : Value} (hx : VR φ x x') (hy : VR φ y y') (e : appendV P st t t2 x y = some (v, st')) :
    Done P (valOf (Builtin.append_ #[t, t2] ty #[x', y'])) w₀ W φ w st v st' := by
  unfold appendV at e
  split at e
  case h_2 => cases e
  rename_i el el2 hel hel2
  split at e
  case h_2 => cases e
  rename_i s b z hs hb hz
  split at e
  case h_2 => cases e
  rename_i new m hsrc hzl
  have hzl := Nat.eq_of_beq_eq_true hzl
  have hund := sliceElem_und hel
  have hund2 := sliceElem_und hel2
  obtain ⟨new', hn1, ⟨by', cy, hyv⟩, hnl, hn2⟩ := src_ok (P := P) h hy hsrc
  obtain ⟨new2, hm1, _, hml, hm2⟩ := src_ok (P := P) (h.drew (w.drawn + 1)) hy hsrc
  have hlenN : new.length = m * s := by rw [← hn1.length, hnl]
  split at e
  · -- nil
    have := hx.slice_none; subst this
    cases m with
    | zero =>
      simp only [Option.some.injEq, Prod.mk.injEq] at e
      obtain ⟨rfl, rfl⟩ := e
      refine Done.val h (v' := .slice none 0 0) ?_ (by simp only [VR])
      subst hyv
      simp [Builtin.append_, run_und hund, run_und hund2, run_szT hs, Builtin.lenOf, hn2]
    | succ k =>
      simp only at e
      split at e
      case h_2 => cases e
      rename_i big
      simp only [growV, Option.some.injEq, Prod.mk.injEq] at e
      obtain ⟨rfl, rfl⟩ := e
      obtain ⟨nc, rest, hnc, hrl, hrun⟩ := append_grow (w := w) (ty := ty) (base := none) (len := 0) (m := k + 1) (c' := 0) (old' := []) hund hund2 hs hb hz hzl (by simpa using big) (by omega) hyv
        (by simp [Builtin.firstCells]) hm2
      have e0 : (0 : Nat) + (k + 1) = k + 1 := by omega
      rw [e0] at hrun hnc hrl
      refine Done.row (w1 := { w with drawn := w.drawn + 1 }) (c' := [] ++ new2 ++ rest) (cp := nc) (h.drew _) ?_ ?_ hrun ?_
      · unfold Pre
        rw [hlenN]
        have : ([] ++ new2 ++ rest).take ((k + 1) * s) = new2 := by rw [List.nil_append, ← hml]; simp
        rw [this]; exact hm1
      · intro s' hs'
        cases hs'
        simp only [List.nil_append, List.length_append, hml, hrl]
        rw [← Nat.add_mul]; congr 1; omega
      · simp only [VR]
        exact ⟨_, _, rfl, ⟨⟨nc, ext_new _ _ _⟩, rfl, rfl⟩, .inr (.inl ⟨rfl, rfl, rfl, hnc, _, ext_new _ _ _⟩)⟩
  · rename_i ad len cap
    split at e
    case h_2 => cases e
    rename_i old hold hsp big
    obtain ⟨ad', c', rfl, har, hcr⟩ := VR.slice_inv hx
    obtain ⟨old', ho1, ho2⟩ := loadN_ok (P := P) h har hold
    obtain ⟨old2, hp1, hp2⟩ := loadN_ok (P := P) (h.drew (w.drawn + 1)) har hold
    have hol : old.length = len * s := by
      unfold loadN at hold
      split at hold
      · cases hold
      · split at hold
        · exact (cut_eq hold).2
        · split at hold
          · rename_i hl
            split at hold
            · cases hold; exact (cut_eq hl).2
            · cases hold
          · cases hold
        · cases hold
    have grow : ∀ {H' : Hp}, I w₀ W φ H' st.n w → c' < len + m → some (growV st H' (len + m) s (old ++ new) el) = some (v, st') →
        Done P (valOf (Builtin.append_ #[t, t2] ty #[.slice (some ad') len c', y'])) w₀ W φ w st v st' := by
      intro H' hI hlt e
      simp only [growV, Option.some.injEq, Prod.mk.injEq] at e
      obtain ⟨rfl, rfl⟩ := e
      obtain ⟨nc, rest, hnc, hrl, hrun⟩ := append_grow (w := w) (ty := ty) (base := some ad') (len := len) (m := m) (c' := c') (old' := old2) hund hund2 hs hb hz hzl big hlt hyv
        (by simpa [Builtin.firstCells] using hp2) hm2
      have hcat := hp1.append hm1
      have := Done.row (st := { st with H := H' }) (w1 := { w with drawn := w.drawn + 1 }) (P := P) (w := w) (c := old ++ new) (c' := old2 ++ new2 ++ rest) (cp := nc) (vec := some s) (e := el) (hI.drew _) ?_ ?_ hrun
        (v := .slice (some ⟨st.n, 0, none⟩) (len + m) capV) ?_
      · exact this
      · unfold Pre
        have : (old2 ++ new2 ++ rest).take (old ++ new).length = old2 ++ new2 := List.take_left' hcat.length
        rw [this]; exact hcat
      · intro s' hs'
        cases hs'
        have l1 : old2.length = len * s := by rw [hp1.length, hol]
        simp only [List.length_append, l1, hml, hrl]
        rw [← Nat.add_mul, ← Nat.add_mul]; congr 1; omega
      · simp only [VR]
        exact ⟨_, _, rfl, ⟨⟨nc, ext_new _ _ _⟩, rfl, rfl⟩, .inr (.inl ⟨rfl, rfl, rfl, hnc, _, ext_new _ _ _⟩)⟩
    have place : len + m ≤ c' → ∀ {w' : World}, (storeCells (ad'.add (len * s)) new').run P w = .ok () w' →
        (Builtin.append_ #[t, t2] ty #[.slice (some ad') len c', y']).run P w = .ok (.slice (some ad') (len + m) c') w' := by
      intro hle w' hst
      subst hyv
      simp [Builtin.append_, run_und hund, run_und hund2, run_szT hs, Builtin.lenOf, hle, hn2, hst]
    unfold appendTo at e
    split at e
    · rename_i hcap
      have hcap : cap < capV := by simpa using hcap
      have hc' : c' = cap := by
        rcases hcr with ⟨_, q⟩ | ⟨q, _⟩ | ⟨q, _⟩
        · exact q
        · omega
        · unfold capV capR at *; omega
      subst hc'
      split at e
      · rename_i hle
        have hle : len + m ≤ c' := Nat.le_of_ble_eq_true hle
        split at e
        · rename_i H' hH'
          simp only [Option.some.injEq, Prod.mk.injEq] at e
          obtain ⟨rfl, rfl⟩ := e
          obtain ⟨w', s1, s2⟩ := storeN_ok (P := P) h (har.add hsp (len * s)) hn1 hH'
          refine ⟨φ, _, w', .inl (valOf_run (place hle s1)), Ext.refl _ _, s2, ?_, rfl, rfl⟩
          simp only [VR]
          exact ⟨_, _, rfl, har, .inl ⟨hcap, rfl⟩⟩
        · cases e
      · rename_i hle
        have hle : ¬ len + m ≤ c' := fun x => by rw [Nat.ble_eq_true_of_le x] at hle; cases hle
        exact grow h (by omega) e
    · split at e
      case h_2 => cases e
      rename_i cells e' s' hbeq hbl
      have hcv := Nat.eq_of_beq_eq_true hbeq
      split at e
      case h_2 => cases e
      rename_i hconds
      simp only [Bool.and_eq_true] at hconds
      obtain ⟨⟨he', hs'⟩, hleaf⟩ := hconds
      have he' := Nat.eq_of_beq_eq_true he'
      have hs' := Nat.eq_of_beq_eq_true hs'
      subst he' hs'
      by_cases hle : len + m ≤ c'
      · -- in place
        obtain ⟨q1, q2, q3, q4, bb, q5⟩ : cap = capV ∧ ad.off = 0 ∧ ad.spot = none ∧ len ≤ c' ∧ ∃ b, φ ad.block = some (b, c') := by
          rcases hcr with ⟨q, _⟩ | q | ⟨q, _⟩
          · omega
          · exact q
          · unfold capV capR at *; omega
        simp only [growV, Option.some.injEq, Prod.mk.injEq] at e
        obtain ⟨rfl, rfl⟩ := e
        obtain ⟨p, arr, fr, f, g, fr0, k, sz⟩ := row_of h hbl
        rw [q5] at f; cases f
        obtain ⟨⟨cc, r1⟩, r2, r3⟩ := har
        rw [q5] at r1
        have hbb : bb = ad'.block := by injection r1 with r1; injection r1
        subst hbb
        have hszA := sz s' rfl
        simp only at hszA g
        have fr00 := fr0 rfl
        subst fr00
        have had' : ad' = ⟨ad'.block, 0, none⟩ := by rw [spot_none (r3.trans hsp)]; simp [r2, q2]
        have hroom : len * s' + new'.length ≤ arr.size := by
          rw [hnl, hszA, ← Nat.add_mul]; exact Nat.mul_le_mul_right _ hle
        have hrun := run_storeCells_at (P := P) ad'.block (len * s') e' new' 0 arr w g (by omega) (hn1.leaf hleaf)
        have hadd : ad'.add (len * s') = ⟨ad'.block, len * s', none⟩ := by rw [had', addr_add]; simp
        rw [← hadd] at hrun
        refine ⟨ext φ st.n (ad'.block, c'), _, _, .inl (valOf_run (place hle hrun)), h.ext_push _, ?_, ?_, rfl, rfl⟩
        · rw [setRow_eq w _ _ _ _ _ g]
          have hput := h.put hbl q5 rfl (b' := .cells (old ++ new) e' false (some s')) (o' := .cells ⟨List.take (len * s' + 0) arr.toList ++ new' ++ List.drop (len * s' + 0 + new'.length) arr.toList⟩ e' (0, 0)) ⟨_, _, rfl, fun _ => rfl, ?_, ?_⟩
          · have hren := hput.rename (i := ad.block) (b := .cells (old ++ new) e' false (some s')) (by rw [Tr.get_set, if_pos rfl]) q5
            refine hren.congr ?_
            intro i
            simp only [pushB, Tr.get_set]
            by_cases h1 : i = st.n
            · simp only [if_pos h1]
            · by_cases h2 : i = ad.block
              · simp only [if_neg h1, if_pos h2]
              · simp only [if_neg h1, if_neg h2]
          · have e0 : old = (cells.drop 0).take (len * s') := by
              unfold loadN at hold
              split at hold
              · cases hold
              · rw [hbl] at hold
                simp only at hold
                have := (cut_eq hold).1
                rw [q2] at this; exact this
            have hpre := k.take (len * s')
            have e1 : VRL φ old (arr.toList.take (len * s')) := by
              rw [e0]; simp only [List.drop_zero]
              have : (List.take cells.length arr.toList).take (len * s') = arr.toList.take (len * s') := by
                rw [List.take_take]
                congr 1
                have : old.length ≤ cells.length := by rw [e0]; simp; omega
                omega
              rw [← this]; exact hpre
            have hcat := e1.append hn1
            unfold Pre
            have : (List.take (len * s' + 0) arr.toList ++ new' ++ List.drop (len * s' + 0 + new'.length) arr.toList).take (old ++ new).length = arr.toList.take (len * s') ++ new' :=
              List.take_left' hcat.length
            rw [this]; exact hcat
          · intro s2 hs2
            cases hs2
            simp only [List.size_toArray, List.length_append, List.length_take, List.length_drop, Array.length_toList]
            rw [← hszA]; omega
        · simp only [VR]
          refine ⟨_, _, rfl, ⟨⟨c', ext_new _ _ _⟩, r2.trans q2, r3.trans q3⟩, .inr (.inl ⟨rfl, rfl, rfl, hle, _, ext_new _ _ _⟩)⟩
      · exact grow (h.kill _) (by omega) e
  · cases e
end Go.Ev
