import Derived.Test.YtakjjillnllocaaN1
import Derived.Test.YtakjjillnllocaaEv35
import Derived.Test.YtakjjillnllocaaEv36
namespace Go.Proofs.Ytakjjillnllocaa.spec
open Go.Ev Go.Proofs.Ytakjjillnllocaa.nestFits Go.Proofs.Ytakjjillnllocaa.G
set_option maxRecDepth 100000
theorem sz95 : szT P 95 = some 2 := by kernel_rfl
theorem fa95_0 (b o : Nat) : fieldAddrV P 95 (.pointer (some ⟨b, o, none⟩)) 0 = some (.pointer (some ⟨b, o + 0, none⟩)) := by kernel_rfl
theorem fa95_1 (b o : Nat) : fieldAddrV P 95 (.pointer (some ⟨b, o, none⟩)) 1 = some (.pointer (some ⟨b, o + 1, none⟩)) := by kernel_rfl
theorem pad_at {H : Hp} {n np i : Nat} {ps : List Int} {z : Value} (hz : SliceI H n 2 z np ps) (hk : i < np) :
    ∃ b o, indexAddrV P 22 z (.int .i64 i) = some (.pointer (some ⟨b, o, none⟩)) ∧ ∀ j, j < 2 → loadV P H 3 ⟨b, o + j, none⟩ = some (.int .i64 (ps.getD (i * 2 + j) 0)) := by
  obtain ⟨b, o, hix, hbn, hc⟩ := hz.at_ und22 sz95 hk
  refine ⟨b, o + i * 2, hix, fun j hj => ?_⟩
  have hlen : i * 2 + 2 ≤ ps.length := by rw [hz.1]; omega
  rw [show o + i * 2 + j = o + (i * 2 + j) by omega]
  exact loadV_int hc agg3 (ints_get (by rw [List.getD_eq_getElem?_getD, List.getElem?_eq_getElem (show i * 2 + j < ps.length by omega)]; rfl))
def PBad (ps : List Int) (i : Nat) : Prop := ¬ (0 ≤ ps.getD (i * 2) 0 ∧ ps.getD (i * 2) 0 ≤ ps.getD (i * 2 + 1) 0 ∧ ps.getD (i * 2 + 1) 0 ≤ 1000)
theorem fault_pads (l : Nat) (g np nj nk : Nat) (ps js ks : List Int) (sp sj sk : Value) (hnp : np ≤ 100) (hnj : nj ≤ 100) (hnk : nk ≤ 100) : ∀ (m i : Nat) (H : Hp) (n : Nat), g < n → CellsAt H g 0 [sp, sj, sk] → SliceI H n 2 sp np ps → SliceI H n 2 sj nj js → SliceI H n 5 sk nk ks →
    i ≤ np → np - i ≤ m →
    Says01 ((∃ q, i ≤ q ∧ q < np ∧ PBad ps q) ∨ (∃ q, 0 ≤ q ∧ q < nk ∧ KBad ks q) ∨ ∃ q, 0 ≤ q ∧ q < nj ∧ JBad js np q) (S63_1 (cal (l + 2)) KK m (.pointer (some ⟨g, 0, none⟩)) (.int .i64 i) H n) n H := by
  have body : ∀ (b2 : Value → Value → Hp → Nat → Res) (m i : Nat) (H : Hp) (n : Nat), g < n → CellsAt H g 0 [sp, sj, sk] → SliceI H n 2 sp np ps → SliceI H n 2 sj nj js → SliceI H n 5 sk nk ks → i ≤ np →
      (i < np → Says01 ((∃ q, i + 1 ≤ q ∧ q < np ∧ PBad ps q) ∨ (∃ q, 0 ≤ q ∧ q < nk ∧ KBad ks q) ∨ ∃ q, 0 ≤ q ∧ q < nj ∧ JBad js np q) (b2 (.pointer (some ⟨g, 0, none⟩)) (.int .i64 ((i + 1 : Nat) : Int)) H n) n H) →
      Says01 ((∃ q, i ≤ q ∧ q < np ∧ PBad ps q) ∨ (∃ q, 0 ≤ q ∧ q < nk ∧ KBad ks q) ∨ ∃ q, 0 ≤ q ∧ q < nj ∧ JBad js np q) (C63_1 (cal (l + 2)) KK m b2 (.pointer (some ⟨g, 0, none⟩)) (.int .i64 i) H n) n H := by
    intro b2 m i H n hgn hg hp hj hk hi ih
    have hl : loadV P H 22 ⟨g, 0 + 0, none⟩ = some sp := loadV_scalar hg agg22 rfl hp.hole.1 hp.hole.2
    have hlen : lenV P 22 sp = some (.int .i64 np) := hp.len_eq und22
    unfold C63_1 B63_1
    simp only [fa26_0, bindO_some, addrV_eq, hl, hlen, binK_some bin_lss, ifK_d]
    by_cases hlt : i < np
    · rw [if_pos (by omega)]
      obtain ⟨bb, o, hix, hld⟩ := pad_at hp hlt
      have hI : I64 ((i : Int) + 1) := by unfold I64; omega
      have hcast : ((i : Int) + 1) = ((i + 1 : Nat) : Int) := by omega
      have q0 := hld 0 (by omega)
      have q1 := hld 1 (by omega)
      simp only [Nat.add_zero] at q0
      simp only [hix, bindO_some, addrV_eq, fa95_0, fa95_1, Nat.add_zero, q0, q1]
      rw [span_call l]
      cases c1 : decide (0 ≤ ps.getD (i * 2) 0 ∧ ps.getD (i * 2) 0 ≤ ps.getD (i * 2 + 1) 0 ∧ ps.getD (i * 2 + 1) 0 ≤ 1000) with
      | false =>
        simp only [not_f, bindO_some, ifK_t]
        exact .inl ⟨.inl ⟨i, Nat.le_refl _, hlt, of_decide_eq_false c1⟩, H, n, rfl, by omega, Keep.refl _ _⟩
      | true =>
        simp only [not_t, bindO_some, ifK_f, binK_some (bin_add hI), hcast]
        have nb : ¬ PBad ps i := fun h => h (of_decide_eq_true c1)
        rcases ih hlt with ⟨h, h2⟩ | ⟨h, h2⟩
        · refine .inl ⟨?_, h2⟩
          rcases h with ⟨q, q1, q2, q3⟩ | h
          · exact .inl ⟨q, by omega, q2, q3⟩
          · exact .inr h
        · refine .inr ⟨?_, h2⟩
          rintro (⟨q, q1, q2, q3⟩ | h')
          · rcases Nat.eq_or_lt_of_le q1 with z | z
            · subst z; exact nb q3
            · exact h (.inl ⟨q, z, q2, q3⟩)
          · exact h (.inr h')
    · rw [if_neg (by omega)]
      rcases fault_kinds l g np nj nk ps js ks sp sj sk hnp hnj hnk KK 0 H n hgn hg hp hj hk (by omega) (by unfold KK; omega) with ⟨h1, h2⟩ | ⟨h1, h2⟩
      · exact .inl ⟨.inr h1, h2⟩
      · refine .inr ⟨?_, h2⟩
        rintro (⟨q, q1, q2, _⟩ | h)
        · omega
        · exact h1 h
  intro m
  induction m with
  | zero =>
    intro i H n h1 h2 h3 h4 h5 h6 h7
    exact body _ 0 i H n h1 h2 h3 h4 h5 h6 (fun h => by omega)
  | succ m ih =>
    intro i H n h1 h2 h3 h4 h5 h6 h7
    exact body _ (m + 1) i H n h1 h2 h3 h4 h5 h6 (fun q => ih (i + 1) H n h1 h2 h3 h4 h5 (by omega) (by omega))
def GBad (np nj nk : Nat) (ps js ks : List Int) : Prop := (∃ q, q < np ∧ PBad ps q) ∨ (∃ q, q < nk ∧ KBad ks q) ∨ ∃ q, q < nj ∧ JBad js np q
open Classical in
noncomputable def faultN (np nj nk : Nat) (ps js ks : List Int) : Int :=
  if 8 < np ∨ 16 < nj ∨ 3 < nk then 3 else if np = 0 ∨ nk = 0 then 1 else if GBad np nj nk ps js ks then 1 else 0
theorem fault_spec (l : Nat) {np nj nk : Nat} {ps js ks : List Int} {H : Hp} {n : Nat} {v : Value} (hg : GroveI H n v np nj nk ps js ks) :
    Ret (C63_0 (cal (l + 2)) KK v H n) n H (.int .i64 (faultN np nj nk ps js ks)) := by
  obtain ⟨x, y, z, rfl, h1, h2, h3⟩ := hg.eq
  unfold C63_0 B63_0
  simp only [boxK_eq, cellsV, ptr]
  have hkeep : Keep n H (H.set n (some (.cells [x, y, z] 26 false none))) := (Keep.refl n H).set (Nat.le_refl _) _
  have hbox : CellsAt (H.set n (some (.cells [x, y, z] 26 false none))) n 0 [x, y, z] := CellsAt.new
  have s1 := (h1.keep hkeep (Nat.le_refl _)).up (show n ≤ n + 1 by omega)
  have s2 := (h2.keep hkeep (Nat.le_refl _)).up (show n ≤ n + 1 by omega)
  have s3 := (h3.keep hkeep (Nat.le_refl _)).up (show n ≤ n + 1 by omega)
  generalize H.set n (some (.cells [x, y, z] 26 false none)) = H1 at hkeep hbox s1 s2 s3 ⊢
  have lx : loadV P H1 22 ⟨n, 0 + 0, none⟩ = some x := loadV_scalar hbox agg22 rfl h1.hole.1 h1.hole.2
  have ly : loadV P H1 23 ⟨n, 0 + 1, none⟩ = some y := loadV_scalar hbox agg23 rfl h2.hole.1 h2.hole.2
  have lz : loadV P H1 24 ⟨n, 0 + 2, none⟩ = some z := loadV_scalar hbox agg24 rfl h3.hole.1 h3.hole.2
  have e1 : lenV P 22 x = some (.int .i64 np) := h1.len_eq und22
  have e2 : lenV P 23 y = some (.int .i64 nj) := h2.len_eq und23
  have e3 : lenV P 24 z = some (.int .i64 nk) := h3.len_eq und24
  simp only [fa26_0, fa26_1, fa26_2, bindO_some, addrV_eq, lx, e1, binK_some bin_gtr]
  have three : (8 < np ∨ 16 < nj ∨ 3 < nk) → ∀ H' n', n ≤ n' → Keep n H H' → Ret (some (Value.int .i64 3, H', n')) n H (.int .i64 (faultN np nj nk ps js ks)) := by
    intro h H' n' q1 q2
    unfold faultN
    rw [if_pos h]
    exact ⟨H', n', rfl, q1, q2⟩
  have one : ¬ (8 < np ∨ 16 < nj ∨ 3 < nk) → (np = 0 ∨ nk = 0) → ∀ H' n', n ≤ n' → Keep n H H' → Ret (some (Value.int .i64 1, H', n')) n H (.int .i64 (faultN np nj nk ps js ks)) := by
    intro h h' H' n' q1 q2
    unfold faultN
    rw [if_neg h, if_pos h']
    exact ⟨H', n', rfl, q1, q2⟩
  have rest : ¬ (8 < np ∨ 16 < nj ∨ 3 < nk) → ¬ (np = 0 ∨ nk = 0) → Ret (S63_1 (cal (l + 2)) KK KK (.pointer (some ⟨n, 0, none⟩)) (.int .i64 0) H1 (n + 1)) n H (.int .i64 (faultN np nj nk ps js ks)) := by
    intro h h'
    unfold faultN
    rw [if_neg h, if_neg h']
    rcases fault_pads l n np nj nk ps js ks x y z (by omega) (by omega) (by omega) KK 0 H1 (n + 1) (by omega) hbox s1 s2 s3 (by omega) (by unfold KK; omega) with ⟨h1, H', n', f1, f2, f3⟩ | ⟨h1, H', n', f1, f2, f3⟩
    · rw [if_pos (by simpa [GBad] using h1)]
      exact ⟨H', n', f1, by omega, hkeep.trans f3 (by omega)⟩
    · rw [if_neg (by simpa [GBad] using h1)]
      exact ⟨H', n', f1, by omega, hkeep.trans f3 (by omega)⟩
  cases c1 : decide ((8 : Int) < (np : Int)) <;> cases c2 : decide ((16 : Int) < (nj : Int)) <;> cases c3 : decide ((3 : Int) < (nk : Int)) <;>
    simp only [guardK_ff, guardK_tf, bindO_some, pickV_t, pickV_f, ifK_t, ifK_f, c2, c3, addrV_eq, ly, lz, e2, e3, binK_some bin_gtr] <;>
    first
    | exact three (by simp only [decide_eq_true_eq] at c1 c2 c3; omega) _ _ (by omega) hkeep
    | skip
  simp only [decide_eq_false_iff_not] at c1 c2 c3
  have h : ¬ (8 < np ∨ 16 < nj ∨ 3 < nk) := by omega
  simp only [bindO_some, lx, e1, binK_some bin_eql]
  cases d1 : decide ((np : Int) = 0) <;> cases d2 : decide ((nk : Int) = 0) <;>
    simp only [guardK_ff, guardK_tf, bindO_some, pickV_t, pickV_f, ifK_t, ifK_f, d2, addrV_eq, lz, e3, binK_some bin_eql] <;>
    first
    | exact one h (by simp only [decide_eq_true_eq] at d1 d2; omega) _ _ (by omega) hkeep
    | exact rest h (by simp only [decide_eq_false_iff_not] at d1 d2; omega)
end Go.Proofs.Ytakjjillnllocaa.spec
namespace Go.Proofs.Ytakjjillnllocaa.spec
open Go.Ev Go.Proofs.Ytakjjillnllocaa.nestFits Go.Proofs.Ytakjjillnllocaa.G
set_option maxRecDepth 100000
variable {ρ : Type}
def thin (np nj nk nl : Nat) : Prop := np ≤ 11 ∧ nj ≤ 19 ∧ nk ≤ 6 ∧ nl ≤ 11
theorem thin_spec (c : Cal) (k : Nat) {np nj nk nl : Nat} {ps js ks : List Int} {H : Hp} {n : Nat} {v l : Value} (hg : GroveI H n v np nj nk ps js ks) (hl : lenV P 44 l = some (.int .i64 nl)) :
    ∃ r, Ret (C15_0 c k v l H n) n H (.bool r) ∧ (r = true ↔ thin np nj nk nl) := by
  obtain ⟨x, y, z, rfl, h1, h2, h3⟩ := hg.eq
  unfold C15_0 B15_0
  simp only [boxK_eq, cellsV, ptr]
  have hkeep : Keep n H (H.set n (some (.cells [x, y, z] 26 false none))) := (Keep.refl n H).set (Nat.le_refl _) _
  have hbox : CellsAt (H.set n (some (.cells [x, y, z] 26 false none))) n 0 [x, y, z] := CellsAt.new
  generalize H.set n (some (.cells [x, y, z] 26 false none)) = H1 at hkeep hbox ⊢
  have lx : loadV P H1 22 ⟨n, 0 + 0, none⟩ = some x := loadV_scalar hbox agg22 rfl h1.hole.1 h1.hole.2
  have ly : loadV P H1 23 ⟨n, 0 + 1, none⟩ = some y := loadV_scalar hbox agg23 rfl h2.hole.1 h2.hole.2
  have lz : loadV P H1 24 ⟨n, 0 + 2, none⟩ = some z := loadV_scalar hbox agg24 rfl h3.hole.1 h3.hole.2
  have e1 : lenV P 22 x = some (.int .i64 np) := h1.len_eq und22
  have e2 : lenV P 23 y = some (.int .i64 nj) := h2.len_eq und23
  have e3 : lenV P 24 z = some (.int .i64 nk) := h3.len_eq und24
  simp only [fa26_0, fa26_1, fa26_2, bindO_some, addrV_eq, lx, e1, binK_some bin_leq]
  unfold thin
  cases c1 : decide ((np : Int) ≤ 11) <;> cases c2 : decide ((nj : Int) ≤ 19) <;> cases c3 : decide ((nk : Int) ≤ 6) <;> cases c4 : decide ((nl : Int) ≤ 11) <;>
    simp only [guardK_tt, guardK_ft, guardK_u, bindO_some, pickV_t, pickV_f, c2, c3, c4, addrV_eq, ly, lz, e2, e3, hl, binK_some bin_leq] <;>
    refine ⟨_, ⟨_, _, rfl, by omega, hkeep⟩, ?_⟩ <;>
    simp only [decide_eq_true_eq, decide_eq_false_iff_not] at c1 c2 c3 c4 <;> simp <;> omega
theorem call15 (l : Nat) (a b : Value) (H : Hp) (n : Nat) : (cal (l + 1)).call 15 [a, b] H n = C15_0 (cal l) KK a b H n := by kernel_rfl
theorem thin_call (l : Nat) {np nj nk nl : Nat} {ps js ks : List Int} {H : Hp} {n : Nat} {v w : Value} (hg : GroveI H n v np nj nk ps js ks) (hl : lenV P 44 w = some (.int .i64 nl)) :
    ∃ (r : Bool) (H' : Hp) (n' : Nat), (r = true ↔ thin np nj nk nl) ∧ (∀ k : Value → Hp → Nat → Option ρ, callFK P (cal (l + 1)) 15 [v, w] H n k = k (.bool r) H' n') ∧ n ≤ n' ∧ Keep n H H' := by
  obtain ⟨r, H', n', ⟨b, rfl, hb⟩, e1, e2, e3⟩ := callFK_spec (ρ := ρ) (P := P) (cal := cal (l + 1)) (f := 15) (args := [v, w]) (H := H) (n := n)
    (Pre := fun H n => GroveI H n v np nj nk ps js ks) (Q := fun r => ∃ b : Bool, r = .bool b ∧ (b = true ↔ thin np nj nk nl))
    (fun H n h => by
      obtain ⟨r, h1, h2⟩ := thin_spec (cal l) KK h hl
      exact ⟨.bool r, by rw [call15]; exact h1, r, rfl, h2⟩) (fun r ⟨b, e, _⟩ _ => by subst e; rfl) hg (fun hp => hg.nil (by simp only [pureL, Bool.and_eq_true] at hp; exact hp.1))
  exact ⟨b, H', n', hb, e1, e2, e3⟩
theorem zero53 : zeroT P 53 = some (.agg #[.int .i64 0, .int .i64 0]) := by kernel_rfl
theorem build53 (a b : Int) : buildP P 53 [(0, .int .i64 a), (1, .int .i64 b)] = some (.agg ⟨[.int .i64 a, .int .i64 b]⟩) := by kernel_rfl
theorem store53 (H : Hp) (b o : Nat) (u v : Value) : storeP P 53 (.pointer (some ⟨b, o, none⟩)) (.agg ⟨[u, v]⟩) H = storeN H ⟨b, o, none⟩ [u, v] := by kernel_rfl
theorem agg53 : isAggT P 53 = some true := by kernel_rfl
theorem sz53 : szT P 53 = some 2 := by kernel_rfl
theorem res26 (H : Hp) (b : Nat) : resV P (Tr.set Tr.nil 2 (some (.pointer (some ⟨b, 0, none⟩)))) H results26 = (match loadV P H 53 ⟨b, 0, none⟩ with
  | none => none
  | some v => some [v]) := by kernel_rfl
theorem to_spec (c : Cal) (k : Nat) (a b : Int) (H : Hp) (n : Nat) : Ret (C26_0 c k (.agg ⟨[.int .i64 a, .int .i64 b]⟩) H n) n H (.agg ⟨[.int .i64 a, .int .i64 b]⟩) := by
  unfold C26_0 B26_0
  simp only [boxK_eq, allocK_eq zero53, cellsV, ptr]
  have h0 : CellsAt ((H.set n (some (.cells [.int .i64 a, .int .i64 b] 55 false none))).set (n + 1) (some (.cells [.int .i64 0, .int .i64 0] 53 false none))) n 0 [.int .i64 a, .int .i64 b] := CellsAt.new.set (by omega)
  have l0 : loadV P ((H.set n (some (.cells [.int .i64 a, .int .i64 b] 55 false none))).set (n + 1) (some (.cells [.int .i64 0, .int .i64 0] 53 false none))) 3 ⟨n, 0 + 0, none⟩ = some (.int .i64 a) := loadV_int h0 agg3 rfl
  have l1 : loadV P ((H.set n (some (.cells [.int .i64 a, .int .i64 b] 55 false none))).set (n + 1) (some (.cells [.int .i64 0, .int .i64 0] 53 false none))) 3 ⟨n, 0 + 1, none⟩ = some (.int .i64 b) := loadV_int h0 agg3 rfl
  have hst := storeN_whole (H := (H.set n (some (.cells [.int .i64 a, .int .i64 b] 55 false none))).set (n + 1) (some (.cells [.int .i64 0, .int .i64 0] 53 false none))) (b := n + 1) (c := [.int .i64 0, .int .i64 0]) (vs := [.int .i64 a, .int .i64 b]) (e := 53) (vec := none) (by rw [Tr.get_set, if_pos rfl]) rfl rfl
  simp only [fa55_0, fa55_1, bindO_some, addrV_eq, l0, l1, build53, store53, hst, res26]
  have hnew := CellsAt.new (H := (H.set n (some (.cells [.int .i64 a, .int .i64 b] 55 false none))).set (n + 1) (some (.cells [.int .i64 0, .int .i64 0] 53 false none))) (n := n + 1) (vs := [.int .i64 a, .int .i64 b]) (e := 53) (ro := false) (vec := none)
  have ld := loadV_agg (o := 0) (k := 0) hnew agg53 sz53 (by simp) rfl
  simp only [Nat.add_zero] at ld
  rw [ld]
  exact ⟨_, _, rfl, by omega, (((Keep.refl n H).set (Nat.le_refl _) _).set (by omega) _).set (by omega) _⟩
theorem flat26 : flatF P 26 = true := by kernel_rfl
theorem call26 (l : Nat) (a : Value) (H : Hp) (n : Nat) : (cal (l + 1)).call 26 [a] H n = C26_0 (cal l) KK a H n := by kernel_rfl
theorem to_call (l : Nat) (a b : Int) (H : Hp) (n : Nat) (k : Value → Hp → Nat → Option ρ) :
    callFK P (cal (l + 1)) 26 [.agg ⟨[.int .i64 a, .int .i64 b]⟩] H n k = k (.agg ⟨[.int .i64 a, .int .i64 b]⟩) H n := by
  obtain ⟨H', n', e, _, _⟩ := to_spec (cal l) KK a b .nil 0
  exact callFK_pure flat26 rfl ((call26 ..).trans e) rfl
end Go.Proofs.Ytakjjillnllocaa.spec
namespace Go.Proofs.Ytakjjillnllocaa.spec
open Go.Ev Go.Proofs.Ytakjjillnllocaa.nestFits Go.Proofs.Ytakjjillnllocaa.G
set_option maxRecDepth 100000
variable {ρ : Type}
def GroveP (H : Hp) (n : Nat) (v : Value) (np nj nk : Nat) (ps js ks : List Int) : Prop :=
  ∃ a b c, v = .agg ⟨[a, b, c]⟩ ∧ SliceR H n 2 a np ps ∧ SliceR H n 2 b nj js ∧ SliceR H n 5 c nk ks
theorem GroveP.keep {H H' : Hp} {n m : Nat} {v : Value} {np nj nk : Nat} {ps js ks : List Int} (h : GroveP H n v np nj nk ps js ks) (hk : Keep n H H') (hm : n ≤ m) : GroveP H' m v np nj nk ps js ks := by
  obtain ⟨a, b, c, rfl, h1, h2, h3⟩ := h
  exact ⟨a, b, c, rfl, (h1.keep hk (Nat.le_refl _)).up hm, (h2.keep hk (Nat.le_refl _)).up hm, (h3.keep hk (Nat.le_refl _)).up hm⟩
theorem GroveP.nil {H : Hp} {n : Nat} {v : Value} {np nj nk : Nat} {ps js ks : List Int} (h : GroveP H n v np nj nk ps js ks) (hp : pureV v = true) : GroveP .nil 0 v np nj nk ps js ks := by
  obtain ⟨a, b, c, rfl, h1, h2, h3⟩ := h
  simp only [pureV, pureA, pureL, Bool.and_eq_true, and_true] at hp
  exact ⟨a, b, c, rfl, h1.nil hp.1, h2.nil hp.2.1, h3.nil hp.2.2⟩
theorem _root_.Go.Ev.VecAt.low {H : Hp} {n0 n s len : Nat} {e : TypeId} {v : Value} {xs : List Int} (h : VecAt H n0 n s e v len xs) {k : Nat} (hb : blockIs v k) : n0 ≤ k ∧ k < n := by
  obtain ⟨o, l, cp, sp, hb⟩ := hb
  rcases h.2 with ⟨rfl, _⟩ | ⟨b, rfl, h1, h2, _⟩
  · cases hb
  · cases hb; exact ⟨h1, h2⟩
structure GS (H : Hp) (base n : Nat) (x y z a b c : Value) (np nj nk ia ib ic : Nat) (ps js ks : List Int) : Prop where
  n0 : base + 3 ≤ n
  box : CellsAt H base 0 [x, y, z]
  out : H.get (base + 2) = some (.cells [a, b, c] 35 false none)
  res : ∃ w, H.get (base + 1) = some (.cells w 35 false none) ∧ w.length = 3
  sx : SliceI H base 2 x np ps
  sy : SliceI H base 2 y nj js
  sz : SliceI H base 5 z nk ks
  va : VecAt H (base + 3) n 2 90 a ia (ps.take (ia * 2))
  vb : VecAt H (base + 3) n 2 88 b ib (js.take (ib * 2))
  vc : VecAt H (base + 3) n 5 86 c ic (ks.take (ic * 5))
  ab : ∀ k, blockIs a k → ¬ blockIs b k
  ac : ∀ k, blockIs a k → ¬ blockIs c k
  bc : ∀ k, blockIs b k → ¬ blockIs c k
variable {H H' : Hp} {base n m np nj nk ia ib ic : Nat} {x y z a b c a' : Value} {ps js ks : List Int}
theorem CellsAt.of_get {b o : Nat} {vs : List Value} (h : CellsAt H b o vs) (e : H'.get b = H.get b) : CellsAt H' b o vs := by
  obtain ⟨B, c, h1, h2, h3⟩ := h
  exact ⟨B, c, by rw [e]; exact h1, h2, h3⟩
theorem GS.same (h : GS H base n x y z a b c np nj nk ia ib ic ps js ks) (v : Value) (hlow : ∀ k, blockIs v k → base + 3 ≤ k) (hk : ∀ k, k < n → ¬ blockIs v k → H'.get k = H.get k) (X : Option Blk) :
    Keep base H (H'.set (base + 2) X) ∧ CellsAt (H'.set (base + 2) X) base 0 [x, y, z] ∧ (∃ w, (H'.set (base + 2) X).get (base + 1) = some (.cells w 35 false none) ∧ w.length = 3) ∧
      H'.get (base + 2) = some (.cells [a, b, c] 35 false none) ∧ ∀ k, k < n → ¬ blockIs v k → k ≠ base + 2 → (H'.set (base + 2) X).get k = H.get k := by
  have hn0 := h.n0
  have get' : ∀ k, k < n → ¬ blockIs v k → k ≠ base + 2 → (H'.set (base + 2) X).get k = H.get k := fun k h1 h2 h3 => by rw [Tr.get_set, if_neg h3]; exact hk k h1 h2
  have off : ∀ k, k < base + 3 → ¬ blockIs v k := fun k hlt hb => by have := hlow k hb; omega
  refine ⟨fun k hlt => get' k (by omega) (off k (by omega)) (by omega), CellsAt.of_get h.box (get' base (by omega) (off _ (by omega)) (by omega)), ?_, ?_, get'⟩
  · obtain ⟨w, h1, h2⟩ := h.res
    exact ⟨w, by rw [get' (base + 1) (by omega) (off _ (by omega)) (by omega)]; exact h1, h2⟩
  · rw [hk (base + 2) (by omega) (off _ (by omega))]; exact h.out
theorem GS.pa (h : GS H base n x y z a b c np nj nk ia ib ic ps js ks) (hm : n ≤ m) (hk : ∀ k, k < n → ¬ blockIs a k → H'.get k = H.get k)
    (hv : VecAt H' (base + 3) m 2 90 a' (ia + 1) (ps.take ((ia + 1) * 2))) (hf : ∀ k, blockIs a' k → n ≤ k) :
    ∃ H'', storeN H' ⟨base + 2, 0 + 0, none⟩ [a'] = some H'' ∧ Keep base H H'' ∧ GS H'' base m x y z a' b c np nj nk (ia + 1) ib ic ps js ks := by
  have hn0 := h.n0
  obtain ⟨k1, k2, k3, k4, k5⟩ := h.same a (fun k hb => (h.va.low hb).1) hk (some (.cells [a', b, c] 35 false none))
  refine ⟨H'.set (base + 2) (some (.cells [a', b, c] 35 false none)), ?_, k1, ⟨by omega, k2, by rw [Tr.get_set, if_pos rfl], k3, h.sx.keep k1 (Nat.le_refl _), h.sy.keep k1 (Nat.le_refl _), h.sz.keep k1 (Nat.le_refl _), ?_, ?_, ?_, ?_, ?_, h.bc⟩⟩
  · unfold storeN
    simp only [k4, List.all_cons, hv.leaf.1, List.all_nil, Bool.and_self, if_true]
    rfl
  · exact hv.same (Nat.le_refl _) fun k _ hb => by rw [Tr.get_set, if_neg]; have := (hv.low hb).1; omega
  · exact h.vb.same hm fun k hlt hb => k5 k hlt (fun q => h.ab k q hb) (by have := (h.vb.low hb).1; omega)
  · exact h.vc.same hm fun k hlt hb => k5 k hlt (fun q => h.ac k q hb) (by have := (h.vc.low hb).1; omega)
  · intro k h1 h2; have := hf k h1; have := (h.vb.low h2).2; omega
  · intro k h1 h2; have := hf k h1; have := (h.vc.low h2).2; omega
theorem GS.pb (h : GS H base n x y z a b c np nj nk ia ib ic ps js ks) (hm : n ≤ m) (hk : ∀ k, k < n → ¬ blockIs b k → H'.get k = H.get k)
    (hv : VecAt H' (base + 3) m 2 88 a' (ib + 1) (js.take ((ib + 1) * 2))) (hf : ∀ k, blockIs a' k → n ≤ k) :
    ∃ H'', storeN H' ⟨base + 2, 0 + 1, none⟩ [a'] = some H'' ∧ Keep base H H'' ∧ GS H'' base m x y z a a' c np nj nk ia (ib + 1) ic ps js ks := by
  have hn0 := h.n0
  obtain ⟨k1, k2, k3, k4, k5⟩ := h.same b (fun k hb => (h.vb.low hb).1) hk (some (.cells [a, a', c] 35 false none))
  refine ⟨H'.set (base + 2) (some (.cells [a, a', c] 35 false none)), ?_, k1, ⟨by omega, k2, by rw [Tr.get_set, if_pos rfl], k3, h.sx.keep k1 (Nat.le_refl _), h.sy.keep k1 (Nat.le_refl _), h.sz.keep k1 (Nat.le_refl _), ?_, ?_, ?_, ?_, h.ac, ?_⟩⟩
  · unfold storeN
    simp only [k4, List.all_cons, hv.leaf.1, List.all_nil, Bool.and_self, if_true]
    rfl
  · exact h.va.same hm fun k hlt hb => k5 k hlt (fun q => h.ab k hb q) (by have := (h.va.low hb).1; omega)
  · exact hv.same (Nat.le_refl _) fun k _ hb => by rw [Tr.get_set, if_neg]; have := (hv.low hb).1; omega
  · exact h.vc.same hm fun k hlt hb => k5 k hlt (fun q => h.bc k q hb) (by have := (h.vc.low hb).1; omega)
  · intro k h1 h2; have := hf k h2; have := (h.va.low h1).2; omega
  · intro k h1 h2; have := hf k h1; have := (h.vc.low h2).2; omega
theorem GS.pc (h : GS H base n x y z a b c np nj nk ia ib ic ps js ks) (hm : n ≤ m) (hk : ∀ k, k < n → ¬ blockIs c k → H'.get k = H.get k)
    (hv : VecAt H' (base + 3) m 5 86 a' (ic + 1) (ks.take ((ic + 1) * 5))) (hf : ∀ k, blockIs a' k → n ≤ k) :
    ∃ H'', storeN H' ⟨base + 2, 0 + 2, none⟩ [a'] = some H'' ∧ Keep base H H'' ∧ GS H'' base m x y z a b a' np nj nk ia ib (ic + 1) ps js ks := by
  have hn0 := h.n0
  obtain ⟨k1, k2, k3, k4, k5⟩ := h.same c (fun k hb => (h.vc.low hb).1) hk (some (.cells [a, b, a'] 35 false none))
  refine ⟨H'.set (base + 2) (some (.cells [a, b, a'] 35 false none)), ?_, k1, ⟨by omega, k2, by rw [Tr.get_set, if_pos rfl], k3, h.sx.keep k1 (Nat.le_refl _), h.sy.keep k1 (Nat.le_refl _), h.sz.keep k1 (Nat.le_refl _), ?_, ?_, ?_, h.ab, ?_, ?_⟩⟩
  · unfold storeN
    simp only [k4, List.all_cons, hv.leaf.1, List.all_nil, Bool.and_self, if_true]
    rfl
  · exact h.va.same hm fun k hlt hb => k5 k hlt (fun q => h.ac k hb q) (by have := (h.va.low hb).1; omega)
  · exact h.vb.same hm fun k hlt hb => k5 k hlt (fun q => h.bc k hb q) (by have := (h.vb.low hb).1; omega)
  · exact hv.same (Nat.le_refl _) fun k _ hb => by rw [Tr.get_set, if_neg]; have := (hv.low hb).1; omega
  · intro k h1 h2; have := hf k h2; have := (h.va.low h1).2; omega
  · intro k h1 h2; have := hf k h2; have := (h.vb.low h1).2; omega
end Go.Proofs.Ytakjjillnllocaa.spec
namespace Go.Proofs.Ytakjjillnllocaa.spec
open Go.Ev Go.Proofs.Ytakjjillnllocaa.nestFits Go.Proofs.Ytakjjillnllocaa.G
set_option maxRecDepth 100000
variable {ρ : Type}
theorem agg31 : isAggT P 31 = some false := by kernel_rfl
theorem agg32 : isAggT P 32 = some false := by kernel_rfl
theorem agg33 : isAggT P 33 = some false := by kernel_rfl
theorem agg35 : isAggT P 35 = some true := by kernel_rfl
theorem sz35 : szT P 35 = some 3 := by kernel_rfl
theorem zero35 : zeroT P 35 = some (.agg #[.slice none 0 0, .slice none 0 0, .slice none 0 0]) := by kernel_rfl
theorem fa35_0 (b o : Nat) : fieldAddrV P 35 (.pointer (some ⟨b, o, none⟩)) 0 = some (.pointer (some ⟨b, o + 0, none⟩)) := by kernel_rfl
theorem fa35_1 (b o : Nat) : fieldAddrV P 35 (.pointer (some ⟨b, o, none⟩)) 1 = some (.pointer (some ⟨b, o + 1, none⟩)) := by kernel_rfl
theorem fa35_2 (b o : Nat) : fieldAddrV P 35 (.pointer (some ⟨b, o, none⟩)) 2 = some (.pointer (some ⟨b, o + 2, none⟩)) := by kernel_rfl
theorem sl31 : sliceElem P 31 = some 90 := by kernel_rfl
theorem sl32 : sliceElem P 32 = some 88 := by kernel_rfl
theorem sl33 : sliceElem P 33 = some 86 := by kernel_rfl
theorem sz90 : szT P 90 = some 2 := by kernel_rfl
theorem sz88 : szT P 88 = some 2 := by kernel_rfl
theorem sz86 : szT P 86 = some 5 := by kernel_rfl
theorem by90 : bytesT P 90 = some 16 := by kernel_rfl
theorem by88 : bytesT P 88 = some 16 := by kernel_rfl
theorem by86 : bytesT P 86 = some 40 := by kernel_rfl
theorem zero90 : zeroT P 90 = some (.agg #[.int .i64 0, .int .i64 0]) := by kernel_rfl
theorem zero88 : zeroT P 88 = some (.agg #[.int .i64 0, .int .i64 0]) := by kernel_rfl
theorem zero86 : zeroT P 86 = some (.agg #[.int .i64 0, .int .i64 0, .int .i64 0, .int .i64 0, .int .i64 0]) := by kernel_rfl
theorem build90 (a b : Int) : buildP P 90 [(0, .int .i64 a), (1, .int .i64 b)] = some (.agg ⟨[.int .i64 a, .int .i64 b]⟩) := by kernel_rfl
theorem build88 (a b : Int) : buildP P 88 [(0, .int .i64 a), (1, .int .i64 b)] = some (.agg ⟨[.int .i64 a, .int .i64 b]⟩) := by kernel_rfl
theorem build86 (y a b c d : Int) : buildP P 86 [(0, .int .i64 y), (1, .agg ⟨[.int .i64 a, .int .i64 b]⟩), (2, .agg ⟨[.int .i64 c, .int .i64 d]⟩)] = some (.agg ⟨[.int .i64 y, .int .i64 a, .int .i64 b, .int .i64 c, .int .i64 d]⟩) := by kernel_rfl
theorem row31 (a b : Int) : rowOf P 31 1 [(0, .agg ⟨[.int .i64 a, .int .i64 b]⟩)] = some ([.int .i64 a, .int .i64 b], 90) := by kernel_rfl
theorem row32 (a b : Int) : rowOf P 32 1 [(0, .agg ⟨[.int .i64 a, .int .i64 b]⟩)] = some ([.int .i64 a, .int .i64 b], 88) := by kernel_rfl
theorem row33 (y a b c d : Int) : rowOf P 33 1 [(0, .agg ⟨[.int .i64 y, .int .i64 a, .int .i64 b, .int .i64 c, .int .i64 d]⟩)] = some ([.int .i64 y, .int .i64 a, .int .i64 b, .int .i64 c, .int .i64 d], 86) := by kernel_rfl
theorem store31 (H : Hp) (b o : Nat) {v : Value} (h : leafV v = true) : storeP P 31 (.pointer (some ⟨b, o, none⟩)) v H = storeN H ⟨b, o, none⟩ [v] := by
  have e : szT P 31 = some 1 := by kernel_rfl
  unfold storeP; simp only [e]; cases v <;> first | rfl | cases h
theorem store32 (H : Hp) (b o : Nat) {v : Value} (h : leafV v = true) : storeP P 32 (.pointer (some ⟨b, o, none⟩)) v H = storeN H ⟨b, o, none⟩ [v] := by
  have e : szT P 32 = some 1 := by kernel_rfl
  unfold storeP; simp only [e]; cases v <;> first | rfl | cases h
theorem store33 (H : Hp) (b o : Nat) {v : Value} (h : leafV v = true) : storeP P 33 (.pointer (some ⟨b, o, none⟩)) v H = storeN H ⟨b, o, none⟩ [v] := by
  have e : szT P 33 = some 1 := by kernel_rfl
  unfold storeP; simp only [e]; cases v <;> first | rfl | cases h
theorem store35 (H : Hp) (b o : Nat) (u v w : Value) : storeP P 35 (.pointer (some ⟨b, o, none⟩)) (.agg ⟨[u, v, w]⟩) H = storeN H ⟨b, o, none⟩ [u, v, w] := by kernel_rfl
theorem res18 (H : Hp) (b : Nat) : resV P (Tr.set Tr.nil 2 (some (.pointer (some ⟨b, 0, none⟩)))) H results18 = (match loadV P H 35 ⟨b, 0, none⟩ with
  | none => none
  | some v => some [v]) := by kernel_rfl
theorem take_next (xs : List Int) (i s : Nat) (h : (i + 1) * s ≤ xs.length) : xs.take (i * s) ++ (List.range s).map (fun j => xs.getD (i * s + j) 0) = xs.take ((i + 1) * s) := by
  have e : (i + 1) * s = i * s + s := by rw [Nat.add_mul, Nat.one_mul]
  rw [e, List.take_add]
  congr 1
  apply List.ext_getElem?
  intro k
  rw [List.getElem?_take]
  by_cases hk : k < s
  · rw [if_pos hk, List.getElem?_drop, List.getElem?_map, List.getElem?_range hk, List.getElem?_eq_getElem (show i * s + k < xs.length by omega)]
    simp [List.getD_eq_getElem?_getD, List.getElem?_eq_getElem (show i * s + k < xs.length by omega)]
  · rw [if_neg hk, List.getElem?_eq_none (by simp; omega)]
theorem slice_new {n len cp k : Nat} (h : blockIs (.slice (some ⟨n, 0, none⟩) len cp) k) : k = n := by
  obtain ⟨o, l, c, sp, h⟩ := h
  cases h; rfl
def RetG (r : Res) (n base : Nat) (H : Hp) (np nj nk : Nat) (ps js ks : List Int) : Prop := ∃ v H' n', r = some (v, H', n') ∧ n ≤ n' ∧ Keep base H H' ∧ GroveP H' n' v np nj nk ps js ks
theorem RetG.after {r : Res} {n m base : Nat} {H H2 : Hp} {np nj nk : Nat} {ps js ks : List Int} (h : RetG r m base H2 np nj nk ps js ks) (hm : n ≤ m) (hk : Keep base H H2) : RetG r n base H np nj nk ps js ks := by
  obtain ⟨v, H', n', e, h1, h2, h3⟩ := h
  exact ⟨v, H', n', e, by omega, hk.trans h2 (Nat.le_refl _), h3⟩
theorem grove_3 (l k base np nj nk : Nat) (ps js ks : List Int) (x y z a b : Value) (hps : ∀ q ∈ ps, I64 q) (hjs : ∀ q ∈ js, I64 q) (hks : ∀ q ∈ ks, I64 q) (hlp : ps.length = np * 2) (hlj : js.length = nj * 2) (hlk : ks.length = nk * 5) (hnk : nk ≤ 100) :
    ∀ (m i : Nat) (c : Value) (H : Hp) (n : Nat), GS H base n x y z a b c np nj nk np nj i ps js ks → i ≤ nk → nk - i ≤ m →
    RetG (S18_3 (cal (l + 1)) k m (.pointer (some ⟨base, 0, none⟩)) (.pointer (some ⟨base + 1, 0, none⟩)) (.pointer (some ⟨base + 2, 0, none⟩)) (.int .i64 i) H n) n base H np nj nk ps js ks := by
  have body : ∀ (b3 : Value → Value → Value → Value → Hp → Nat → Res) (m i : Nat) (c : Value) (H : Hp) (n : Nat), GS H base n x y z a b c np nj nk np nj i ps js ks → i ≤ nk →
      (∀ c' H' n', n ≤ n' → GS H' base n' x y z a b c' np nj nk np nj (i + 1) ps js ks → i < nk → RetG (b3 (.pointer (some ⟨base, 0, none⟩)) (.pointer (some ⟨base + 1, 0, none⟩)) (.pointer (some ⟨base + 2, 0, none⟩)) (.int .i64 ((i + 1 : Nat) : Int)) H' n') n' base H' np nj nk ps js ks) →
      RetG (C18_3 (cal (l + 1)) k m b3 (.pointer (some ⟨base, 0, none⟩)) (.pointer (some ⟨base + 1, 0, none⟩)) (.pointer (some ⟨base + 2, 0, none⟩)) (.int .i64 i) H n) n base H np nj nk ps js ks := by
    intro b3 m i c H n hs hi ih
    have hn0 := hs.n0
    have hz := hs.sz
    have hl : loadV P H 24 ⟨base, 0 + 2, none⟩ = some z := loadV_scalar hs.box agg24 rfl hz.hole.1 hz.hole.2
    have hlen : lenV P 24 z = some (.int .i64 nk) := hz.len_eq und24
    unfold C18_3 B18_3
    simp only [fa26_2, bindO_some, addrV_eq, hl, hlen, binK_some bin_lss, ifK_d]
    by_cases hlt : i < nk
    · rw [if_pos (by omega)]
      obtain ⟨bb, o, hix, hbn, hc⟩ := hz.at_ und24 sz94 hlt
      have hlen2 : i * 5 + 5 ≤ ks.length := by rw [hz.1]; omega
      have hld : loadV P H 94 ⟨bb, o + i * 5, none⟩ = some (.agg ⟨[.int .i64 (ks.getD (i * 5) 0), .int .i64 (ks.getD (i * 5 + 1) 0), .int .i64 (ks.getD (i * 5 + 2) 0), .int .i64 (ks.getD (i * 5 + 3) 0), .int .i64 (ks.getD (i * 5 + 4) 0)]⟩) := by
        rw [loadV_agg hc agg94 sz94 (by rw [ints_length]; exact hlen2) (ints_noHole _), five_at hlen2]
      have htake := take_next ks i 5 (by omega)
      have hrange : (List.range 5).map (fun j => ks.getD (i * 5 + j) 0) = [ks.getD (i * 5) 0, ks.getD (i * 5 + 1) 0, ks.getD (i * 5 + 2) 0, ks.getD (i * 5 + 3) 0, ks.getD (i * 5 + 4) 0] := rfl
      rw [hrange] at htake
      generalize hy : ks.getD (i * 5) 0 = w0 at *
      generalize h1 : ks.getD (i * 5 + 1) 0 = w1 at *
      generalize h2 : ks.getD (i * 5 + 2) 0 = w2 at *
      generalize h3 : ks.getD (i * 5 + 3) 0 = w3 at *
      generalize h4 : ks.getD (i * 5 + 4) 0 = w4 at *
      simp only [hix, bindO_some, addrV_eq, hld, allocK_eq zero94, ptr, store94, cellsV]
      have hst := storeN_whole (H := H.set n (some (.cells [.int .i64 0, .int .i64 0, .int .i64 0, .int .i64 0, .int .i64 0] 94 false none))) (b := n) (c := [.int .i64 0, .int .i64 0, .int .i64 0, .int .i64 0, .int .i64 0]) (vs := [.int .i64 w0, .int .i64 w1, .int .i64 w2, .int .i64 w3, .int .i64 w4]) (e := 94) (vec := none) (by rw [Tr.get_set, if_pos rfl]) rfl rfl
      rw [hst]
      have hkp : Keep n H ((H.set n (some (.cells [.int .i64 0, .int .i64 0, .int .i64 0, .int .i64 0, .int .i64 0] 94 false none))).set n (some (.cells [.int .i64 w0, .int .i64 w1, .int .i64 w2, .int .i64 w3, .int .i64 w4] 94 false none))) := keep55
      have hgn : ((H.set n (some (.cells [.int .i64 0, .int .i64 0, .int .i64 0, .int .i64 0, .int .i64 0] 94 false none))).set n (some (.cells [.int .i64 w0, .int .i64 w1, .int .i64 w2, .int .i64 w3, .int .i64 w4] 94 false none))).get n = some (.cells [.int .i64 w0, .int .i64 w1, .int .i64 w2, .int .i64 w3, .int .i64 w4] 94 false none) := by rw [Tr.get_set, if_pos rfl]
      generalize (H.set n (some (.cells [.int .i64 0, .int .i64 0, .int .i64 0, .int .i64 0, .int .i64 0] 94 false none))).set n (some (.cells [.int .i64 w0, .int .i64 w1, .int .i64 w2, .int .i64 w3, .int .i64 w4] 94 false none)) = H2 at hkp hgn ⊢
      have hnew : CellsAt H2 n 0 [.int .i64 w0, .int .i64 w1, .int .i64 w2, .int .i64 w3, .int .i64 w4] := ⟨_, _, hgn, rfl, fun k v h => by simpa using h⟩
      have hq : CellsAt H2 (base + 2) 0 [a, b, c] := ⟨_, _, (hkp (base + 2) (by omega)).trans hs.out, rfl, fun k v h => by simpa using h⟩
      have lc : loadV P H2 33 ⟨base + 2, 0 + 2, none⟩ = some c := loadV_scalar hq agg33 rfl hs.vc.leaf.2.1 hs.vc.leaf.2.2
      have l0 : loadV P H2 3 ⟨n, 0 + 0, none⟩ = some (.int .i64 w0) := loadV_int hnew agg3 rfl
      have l1 : loadV P H2 55 ⟨n, 0 + 1, none⟩ = some (.agg ⟨[.int .i64 w1, .int .i64 w2]⟩) := loadV_agg (k := 1) hnew agg55 sz55 (by simp) rfl
      have l2 : loadV P H2 55 ⟨n, 0 + 3, none⟩ = some (.agg ⟨[.int .i64 w3, .int .i64 w4]⟩) := loadV_agg (k := 3) hnew agg55 sz55 (by simp) rfl
      simp only [fa35_2, fa94_0, fa94_1, fa94_2, bindO_some, addrV_eq, lc, l0, l1, l2]
      have ok2 : ∀ H3 : Hp, (∀ b, H3.get b = H2.get b) → ∀ ex : List Extra, (∀ y ∈ ex, y = .l 55 ⟨n, 0 + 3, none⟩ ∨ y = .l 3 ⟨n, 0 + 0, none⟩ ∨ y = .l 33 ⟨base + 2, 0 + 2, none⟩) → LoadsOk H3 ex := by
        intro H3 h3 ex hex y hy
        rcases hex y hy with rfl | rfl | rfl
        · exact ⟨_, _, rfl, .inl ⟨_, _, _, _, by rw [h3]; exact hgn⟩⟩
        · exact ⟨_, _, rfl, .inl ⟨_, _, _, _, by rw [h3]; exact hgn⟩⟩
        · exact ⟨_, _, rfl, .inl ⟨_, _, _, _, by rw [h3]; exact (hkp (base + 2) (by omega)).trans hs.out⟩⟩
      obtain ⟨H3, s3, e3⟩ := effK_pure (P := P) (ρ := Value × Hp × Nat) (ex := [.l 55 ⟨n, 0 + 3, none⟩, .l 3 ⟨n, 0 + 0, none⟩, .l 33 ⟨base + 2, 0 + 2, none⟩]) (H := H2) (n := n + 1) (v := .agg ⟨[.int .i64 w1, .int .i64 w2]⟩)
        (op := fun H n k => callFK P (cal (l + 1)) 26 [.agg ⟨[.int .i64 w1, .int .i64 w2]⟩] H n fun v H n => k v H n) (ok2 H2 (fun _ => rfl) _ (by simp)) (fun H k => to_call l w1 w2 H (n + 1) _)
      rw [e3]
      obtain ⟨H4, s4, e4⟩ := effK_pure (P := P) (ρ := Value × Hp × Nat) (ex := [.l 3 ⟨n, 0 + 0, none⟩, .l 33 ⟨base + 2, 0 + 2, none⟩]) (H := H3) (n := n + 1) (v := .agg ⟨[.int .i64 w3, .int .i64 w4]⟩)
        (op := fun H n k => callFK P (cal (l + 1)) 26 [.agg ⟨[.int .i64 w3, .int .i64 w4]⟩] H n fun v H n => k v H n) (ok2 H3 s3 _ (by simp)) (fun H k => to_call l w3 w4 H (n + 1) _)
      rw [e4]
      simp only [build86, bindO_some, row33, newK]
      have hrow : CellsAt (H4.set (n + 1) (some (.cells [.int .i64 w0, .int .i64 w1, .int .i64 w2, .int .i64 w3, .int .i64 w4] 86 false none))) (n + 1) 0 (ints [w0, w1, w2, w3, w4]) := CellsAt.new
      have hk4 : Keep n H (H4.set (n + 1) (some (.cells [.int .i64 w0, .int .i64 w1, .int .i64 w2, .int .i64 w3, .int .i64 w4] 86 false none))) := fun q hq => by
        rw [Tr.get_set, if_neg (by omega), s4, s3]; exact hkp q hq
      generalize H4.set (n + 1) (some (.cells [.int .i64 w0, .int .i64 w1, .int .i64 w2, .int .i64 w3, .int .i64 w4] 86 false none)) = H5 at hrow hk4 ⊢
      have hv5 : VecAt H5 (base + 3) (n + 1 + 1) 5 86 c i (ks.take (i * 5)) := hs.vc.same (by omega) fun q hq _ => hk4 q hq
      obtain ⟨H6, ea, ev, eo⟩ := append_vec (P := P) (t := 33) (t2 := 33) (cap2 := 1) hv5 sl33 sl33 sz86 by86 zero86 rfl hrow rfl (by omega) (by omega) (by omega) (by omega)
      rw [htake] at ev
      unfold stK
      rw [ea]
      simp only [bindO_some, bare]
      obtain ⟨H7, es, ek, eg⟩ := hs.pc (m := n + 1 + 1 + 1) (by omega) (fun q hq hb => (eo q (by omega) hb).trans (hk4 q hq)) ev (fun q hb => by rw [slice_new hb]; omega)
      rw [store33 _ _ _ (by rfl), es]
      have hI : I64 ((i : Int) + 1) := by unfold I64; omega
      have hcast : ((i : Int) + 1) = ((i + 1 : Nat) : Int) := by omega
      simp only [bindO_some, binK_some (bin_add hI), hcast]
      exact (ih _ H7 (n + 1 + 1 + 1) (by omega) eg hlt).after (by omega) ek
    · rw [if_neg (by omega)]
      have hi' : i = nk := by omega
      subst hi'
      have hq : CellsAt H (base + 2) 0 [a, b, c] := ⟨_, _, hs.out, rfl, fun k v h => by simpa using h⟩
      have l35 : loadV P H 35 ⟨base + 2, 0, none⟩ = some (.agg ⟨[a, b, c]⟩) := loadV_agg (o := 0) (k := 0) hq agg35 sz35 (by simp) (by simp [hs.va.leaf.2.1, hs.vb.leaf.2.1, hs.vc.leaf.2.1])
      obtain ⟨w, hr, hw⟩ := hs.res
      have hst := storeN_whole (H := H) (b := base + 1) (c := w) (vs := [a, b, c]) (e := 35) (vec := none) hr hw.symm (by simp [hs.va.leaf.1, hs.vb.leaf.1, hs.vc.leaf.1])
      simp only [addrV_eq, bindO_some, l35, store35, hst, res18]
      have hnew := CellsAt.new (H := H) (n := base + 1) (vs := [a, b, c]) (e := 35) (ro := false) (vec := none)
      have ld := loadV_agg (o := 0) (k := 0) hnew agg35 sz35 (by simp) (by simp [hs.va.leaf.2.1, hs.vb.leaf.2.1, hs.vc.leaf.2.1])
      simp only [Nat.add_zero] at ld
      rw [ld]
      have hsame : ∀ q, q ≠ base + 1 → (H.set (base + 1) (some (.cells [a, b, c] 35 false none))).get q = H.get q := fun q hq => by rw [Tr.get_set, if_neg hq]
      have va := hs.va.same (H' := H.set (base + 1) (some (.cells [a, b, c] 35 false none))) (Nat.le_refl _) fun q _ hb => hsame q (by have := (hs.va.low hb).1; omega)
      have vb := hs.vb.same (H' := H.set (base + 1) (some (.cells [a, b, c] 35 false none))) (Nat.le_refl _) fun q _ hb => hsame q (by have := (hs.vb.low hb).1; omega)
      have vc := hs.vc.same (H' := H.set (base + 1) (some (.cells [a, b, c] 35 false none))) (Nat.le_refl _) fun q _ hb => hsame q (by have := (hs.vc.low hb).1; omega)
      rw [← hlp, List.take_length] at va
      rw [← hlj, List.take_length] at vb
      rw [← hlk, List.take_length] at vc
      exact ⟨_, _, _, rfl, Nat.le_refl _, fun q hq => hsame q (by omega), a, b, c, rfl, va.slice hps, vb.slice hjs, vc.slice hks⟩
  intro m
  induction m with
  | zero =>
    intro i c H n h1 h2 h3
    exact body _ 0 i c H n h1 h2 (fun _ _ _ _ _ h => by omega)
  | succ m ih =>
    intro i c H n h1 h2 h3
    exact body _ (m + 1) i c H n h1 h2 (fun c' H' n' _ q2 _ => ih (i + 1) c' H' n' q2 (by omega) (by omega))
end Go.Proofs.Ytakjjillnllocaa.spec
namespace Go.Proofs.Ytakjjillnllocaa.spec
open Go.Ev Go.Proofs.Ytakjjillnllocaa.nestFits Go.Proofs.Ytakjjillnllocaa.G
set_option maxRecDepth 100000
variable {ρ : Type}
theorem join_at {H : Hp} {n nj i : Nat} {js : List Int} {z : Value} (hz : SliceI H n 2 z nj js) (hk : i < nj) :
    ∃ b o, indexAddrV P 23 z (.int .i64 i) = some (.pointer (some ⟨b, o, none⟩)) ∧ ∀ j, j < 2 → loadV P H 3 ⟨b, o + j, none⟩ = some (.int .i64 (js.getD (i * 2 + j) 0)) := by
  obtain ⟨b, o, hix, hbn, hc⟩ := hz.at_ und23 sz104 hk
  refine ⟨b, o + i * 2, hix, fun j hj => ?_⟩
  have hlen : i * 2 + 2 ≤ js.length := by rw [hz.1]; omega
  rw [show o + i * 2 + j = o + (i * 2 + j) by omega]
  exact loadV_int hc agg3 (ints_get (by rw [List.getD_eq_getElem?_getD, List.getElem?_eq_getElem (show i * 2 + j < js.length by omega)]; rfl))
theorem grove_2 (l k base np nj nk : Nat) (ps js ks : List Int) (x y z a c : Value) (hps : ∀ q ∈ ps, I64 q) (hjs : ∀ q ∈ js, I64 q) (hks : ∀ q ∈ ks, I64 q) (hlp : ps.length = np * 2) (hlj : js.length = nj * 2) (hlk : ks.length = nk * 5) (hnk : nk ≤ 100) (hnj : nj ≤ 100) (hK : nk ≤ k) :
    ∀ (m i : Nat) (b : Value) (H : Hp) (n : Nat), GS H base n x y z a b c np nj nk np i 0 ps js ks → i ≤ nj → nj - i ≤ m →
    RetG (S18_2 (cal (l + 1)) k m (.pointer (some ⟨base, 0, none⟩)) (.pointer (some ⟨base + 1, 0, none⟩)) (.pointer (some ⟨base + 2, 0, none⟩)) (.int .i64 i) H n) n base H np nj nk ps js ks := by
  have body : ∀ (b3 : Value → Value → Value → Value → Hp → Nat → Res) (m i : Nat) (b : Value) (H : Hp) (n : Nat), GS H base n x y z a b c np nj nk np i 0 ps js ks → i ≤ nj →
      (∀ b' H' n', n ≤ n' → GS H' base n' x y z a b' c np nj nk np (i + 1) 0 ps js ks → i < nj → RetG (b3 (.pointer (some ⟨base, 0, none⟩)) (.pointer (some ⟨base + 1, 0, none⟩)) (.pointer (some ⟨base + 2, 0, none⟩)) (.int .i64 ((i + 1 : Nat) : Int)) H' n') n' base H' np nj nk ps js ks) →
      RetG (C18_2 (cal (l + 1)) k m b3 (.pointer (some ⟨base, 0, none⟩)) (.pointer (some ⟨base + 1, 0, none⟩)) (.pointer (some ⟨base + 2, 0, none⟩)) (.int .i64 i) H n) n base H np nj nk ps js ks := by
    intro b3 m i b H n hs hi ih
    have hn0 := hs.n0
    have hz := hs.sy
    have hl : loadV P H 23 ⟨base, 0 + 1, none⟩ = some y := loadV_scalar hs.box agg23 rfl hz.hole.1 hz.hole.2
    have hlen : lenV P 23 y = some (.int .i64 nj) := hz.len_eq und23
    unfold C18_2 B18_2
    simp only [fa26_1, bindO_some, addrV_eq, hl, hlen, binK_some bin_lss, ifK_d]
    by_cases hlt : i < nj
    · rw [if_pos (by omega)]
      obtain ⟨bb, o, hix, hld⟩ := join_at hz hlt
      have hlen2 : (i + 1) * 2 ≤ js.length := by rw [hz.1]; omega
      have htake := take_next js i 2 hlen2
      have hrange : (List.range 2).map (fun j => js.getD (i * 2 + j) 0) = [js.getD (i * 2) 0, js.getD (i * 2 + 1) 0] := rfl
      rw [hrange] at htake
      have q0 := hld 0 (by omega)
      have q1 := hld 1 (by omega)
      simp only [Nat.add_zero] at q0
      have hq : CellsAt H (base + 2) 0 [a, b, c] := ⟨_, _, hs.out, rfl, fun k v h => by simpa using h⟩
      have lc : loadV P H 32 ⟨base + 2, 0 + 1, none⟩ = some b := loadV_scalar hq agg32 rfl hs.vb.leaf.2.1 hs.vb.leaf.2.2
      simp only [fa35_1, hix, bindO_some, addrV_eq, fa104_0, fa104_1, lc, Nat.add_zero, q0, q1, build88, row32, newK]
      have hrow : CellsAt (H.set n (some (.cells [.int .i64 (js.getD (i * 2) 0), .int .i64 (js.getD (i * 2 + 1) 0)] 88 false none))) n 0 (ints [js.getD (i * 2) 0, js.getD (i * 2 + 1) 0]) := CellsAt.new
      have hk4 : Keep n H (H.set n (some (.cells [.int .i64 (js.getD (i * 2) 0), .int .i64 (js.getD (i * 2 + 1) 0)] 88 false none))) := (Keep.refl n H).set (Nat.le_refl _) _
      generalize H.set n (some (.cells [.int .i64 (js.getD (i * 2) 0), .int .i64 (js.getD (i * 2 + 1) 0)] 88 false none)) = H5 at hrow hk4 ⊢
      have hv5 : VecAt H5 (base + 3) (n + 1) 2 88 b i (js.take (i * 2)) := hs.vb.same (by omega) fun q hq _ => hk4 q hq
      obtain ⟨H6, ea, ev, eo⟩ := append_vec (P := P) (t := 32) (t2 := 32) (cap2 := 1) hv5 sl32 sl32 sz88 by88 zero88 rfl hrow rfl (by omega) (by omega) (by omega) (by omega)
      rw [htake] at ev
      unfold stK
      rw [ea]
      simp only [bindO_some, bare]
      obtain ⟨H7, es, ek, eg⟩ := hs.pb (m := n + 1 + 1) (by omega) (fun q hq hb => (eo q (by omega) hb).trans (hk4 q hq)) ev (fun q hb => by rw [slice_new hb]; omega)
      rw [store32 _ _ _ (by rfl), es]
      have hI : I64 ((i : Int) + 1) := by unfold I64; omega
      have hcast : ((i : Int) + 1) = ((i + 1 : Nat) : Int) := by omega
      simp only [bindO_some, binK_some (bin_add hI), hcast]
      exact (ih _ H7 (n + 1 + 1) (by omega) eg hlt).after (by omega) ek
    · rw [if_neg (by omega)]
      have hi' : i = nj := by omega
      subst hi'
      exact grove_3 l k base np i nk ps js ks x y z a b hps hjs hks hlp hlj hlk hnk k 0 c H n hs (by omega) (by omega)
  intro m
  induction m with
  | zero =>
    intro i b H n h1 h2 h3
    exact body _ 0 i b H n h1 h2 (fun _ _ _ _ _ h => by omega)
  | succ m ih =>
    intro i b H n h1 h2 h3
    exact body _ (m + 1) i b H n h1 h2 (fun b' H' n' _ q2 _ => ih (i + 1) b' H' n' q2 (by omega) (by omega))
theorem grove_1 (l k base np nj nk : Nat) (ps js ks : List Int) (x y z b c : Value) (hps : ∀ q ∈ ps, I64 q) (hjs : ∀ q ∈ js, I64 q) (hks : ∀ q ∈ ks, I64 q) (hlp : ps.length = np * 2) (hlj : js.length = nj * 2) (hlk : ks.length = nk * 5) (hnk : nk ≤ 100) (hnj : nj ≤ 100) (hnp : np ≤ 100) (hK : nk ≤ k) (hK2 : nj ≤ k) :
    ∀ (m i : Nat) (a : Value) (H : Hp) (n : Nat), GS H base n x y z a b c np nj nk i 0 0 ps js ks → i ≤ np → np - i ≤ m →
    RetG (S18_1 (cal (l + 1)) k m (.pointer (some ⟨base, 0, none⟩)) (.pointer (some ⟨base + 1, 0, none⟩)) (.pointer (some ⟨base + 2, 0, none⟩)) (.int .i64 i) H n) n base H np nj nk ps js ks := by
  have body : ∀ (b3 : Value → Value → Value → Value → Hp → Nat → Res) (m i : Nat) (a : Value) (H : Hp) (n : Nat), GS H base n x y z a b c np nj nk i 0 0 ps js ks → i ≤ np →
      (∀ a' H' n', n ≤ n' → GS H' base n' x y z a' b c np nj nk (i + 1) 0 0 ps js ks → i < np → RetG (b3 (.pointer (some ⟨base, 0, none⟩)) (.pointer (some ⟨base + 1, 0, none⟩)) (.pointer (some ⟨base + 2, 0, none⟩)) (.int .i64 ((i + 1 : Nat) : Int)) H' n') n' base H' np nj nk ps js ks) →
      RetG (C18_1 (cal (l + 1)) k m b3 (.pointer (some ⟨base, 0, none⟩)) (.pointer (some ⟨base + 1, 0, none⟩)) (.pointer (some ⟨base + 2, 0, none⟩)) (.int .i64 i) H n) n base H np nj nk ps js ks := by
    intro b3 m i a H n hs hi ih
    have hn0 := hs.n0
    have hz := hs.sx
    have hl : loadV P H 22 ⟨base, 0 + 0, none⟩ = some x := loadV_scalar hs.box agg22 rfl hz.hole.1 hz.hole.2
    have hlen : lenV P 22 x = some (.int .i64 np) := hz.len_eq und22
    unfold C18_1 B18_1
    simp only [fa26_0, bindO_some, addrV_eq, hl, hlen, binK_some bin_lss, ifK_d]
    by_cases hlt : i < np
    · rw [if_pos (by omega)]
      obtain ⟨bb, o, hix, hld⟩ := pad_at hz hlt
      have hlen2 : (i + 1) * 2 ≤ ps.length := by rw [hz.1]; omega
      have htake := take_next ps i 2 hlen2
      have hrange : (List.range 2).map (fun j => ps.getD (i * 2 + j) 0) = [ps.getD (i * 2) 0, ps.getD (i * 2 + 1) 0] := rfl
      rw [hrange] at htake
      have q0 := hld 0 (by omega)
      have q1 := hld 1 (by omega)
      simp only [Nat.add_zero] at q0 hl
      have hq : CellsAt H (base + 2) 0 [a, b, c] := ⟨_, _, hs.out, rfl, fun k v h => by simpa using h⟩
      have lc : loadV P H 31 ⟨base + 2, 0 + 0, none⟩ = some a := loadV_scalar hq agg31 rfl hs.va.leaf.2.1 hs.va.leaf.2.2
      simp only [Nat.add_zero] at lc
      simp only [fa35_0, hix, hl, bindO_some, addrV_eq, fa95_0, fa95_1, lc, Nat.add_zero, q0, q1, build90, row31, newK]
      have hrow : CellsAt (H.set n (some (.cells [.int .i64 (ps.getD (i * 2) 0), .int .i64 (ps.getD (i * 2 + 1) 0)] 90 false none))) n 0 (ints [ps.getD (i * 2) 0, ps.getD (i * 2 + 1) 0]) := CellsAt.new
      have hk4 : Keep n H (H.set n (some (.cells [.int .i64 (ps.getD (i * 2) 0), .int .i64 (ps.getD (i * 2 + 1) 0)] 90 false none))) := (Keep.refl n H).set (Nat.le_refl _) _
      generalize H.set n (some (.cells [.int .i64 (ps.getD (i * 2) 0), .int .i64 (ps.getD (i * 2 + 1) 0)] 90 false none)) = H5 at hrow hk4 ⊢
      have hv5 : VecAt H5 (base + 3) (n + 1) 2 90 a i (ps.take (i * 2)) := hs.va.same (by omega) fun q hq _ => hk4 q hq
      obtain ⟨H6, ea, ev, eo⟩ := append_vec (P := P) (t := 31) (t2 := 31) (cap2 := 1) hv5 sl31 sl31 sz90 by90 zero90 rfl hrow rfl (by omega) (by omega) (by omega) (by omega)
      rw [htake] at ev
      unfold stK
      rw [ea]
      simp only [bindO_some, bare]
      obtain ⟨H7, es, ek, eg⟩ := hs.pa (m := n + 1 + 1) (by omega) (fun q hq hb => (eo q (by omega) hb).trans (hk4 q hq)) ev (fun q hb => by rw [slice_new hb]; omega)
      simp only [Nat.add_zero] at es
      rw [store31 _ _ _ (by rfl), es]
      have hI : I64 ((i : Int) + 1) := by unfold I64; omega
      have hcast : ((i : Int) + 1) = ((i + 1 : Nat) : Int) := by omega
      simp only [bindO_some, binK_some (bin_add hI), hcast]
      exact (ih _ H7 (n + 1 + 1) (by omega) eg hlt).after (by omega) ek
    · rw [if_neg (by omega)]
      have hi' : i = np := by omega
      subst hi'
      exact grove_2 l k base i nj nk ps js ks x y z a c hps hjs hks hlp hlj hlk hnk hnj hK k 0 b H n hs (by omega) (by omega)
  intro m
  induction m with
  | zero =>
    intro i a H n h1 h2 h3
    exact body _ 0 i a H n h1 h2 (fun _ _ _ _ _ h => by omega)
  | succ m ih =>
    intro i a H n h1 h2 h3
    exact body _ (m + 1) i a H n h1 h2 (fun a' H' n' _ q2 _ => ih (i + 1) a' H' n' q2 (by omega) (by omega))
theorem nil_vec {H : Hp} {n0 n s : Nat} {e : TypeId} {xs : List Int} : VecAt H n0 n s e (.slice none 0 0) 0 (xs.take (0 * s)) := ⟨by simp, .inl ⟨rfl, rfl⟩⟩
theorem nil_off {v : Value} {k : Nat} : ¬ blockIs (.slice none 0 0) k := by
  rintro ⟨o, l, c, sp, h⟩; cases h
theorem grove_spec (l : Nat) {np nj nk : Nat} {ps js ks : List Int} {H : Hp} {n : Nat} {v : Value} (hg : GroveI H n v np nj nk ps js ks) (hnp : np ≤ 100) (hnj : nj ≤ 100) (hnk : nk ≤ 100) :
    RetG (C18_0 (cal (l + 1)) KK v H n) n n H np nj nk ps js ks := by
  obtain ⟨x, y, z, rfl, h1, h2, h3⟩ := hg.eq
  unfold C18_0 B18_0
  simp only [boxK_eq, allocK_eq zero35, cellsV, ptr]
  have hk : Keep n H (((H.set n (some (.cells [x, y, z] 26 false none))).set (n + 1) (some (.cells [.slice none 0 0, .slice none 0 0, .slice none 0 0] 35 false none))).set (n + 1 + 1) (some (.cells [.slice none 0 0, .slice none 0 0, .slice none 0 0] 35 false none))) :=
    (((Keep.refl n H).set (Nat.le_refl _) _).set (by omega) _).set (by omega) _
  have hb : CellsAt (((H.set n (some (.cells [x, y, z] 26 false none))).set (n + 1) (some (.cells [.slice none 0 0, .slice none 0 0, .slice none 0 0] 35 false none))).set (n + 1 + 1) (some (.cells [.slice none 0 0, .slice none 0 0, .slice none 0 0] 35 false none))) n 0 [x, y, z] :=
    (CellsAt.new.set (by omega)).set (by omega)
  have hr : (((H.set n (some (.cells [x, y, z] 26 false none))).set (n + 1) (some (.cells [.slice none 0 0, .slice none 0 0, .slice none 0 0] 35 false none))).set (n + 1 + 1) (some (.cells [.slice none 0 0, .slice none 0 0, .slice none 0 0] 35 false none))).get (n + 1) = some (.cells [.slice none 0 0, .slice none 0 0, .slice none 0 0] 35 false none) := by
    rw [Tr.get_set, if_neg (by omega), Tr.get_set, if_pos rfl]
  have ho : (((H.set n (some (.cells [x, y, z] 26 false none))).set (n + 1) (some (.cells [.slice none 0 0, .slice none 0 0, .slice none 0 0] 35 false none))).set (n + 1 + 1) (some (.cells [.slice none 0 0, .slice none 0 0, .slice none 0 0] 35 false none))).get (n + 2) = some (.cells [.slice none 0 0, .slice none 0 0, .slice none 0 0] 35 false none) := by
    rw [Tr.get_set, if_pos rfl]
  generalize ((H.set n (some (.cells [x, y, z] 26 false none))).set (n + 1) (some (.cells [.slice none 0 0, .slice none 0 0, .slice none 0 0] 35 false none))).set (n + 1 + 1) (some (.cells [.slice none 0 0, .slice none 0 0, .slice none 0 0] 35 false none)) = H1 at hk hb hr ho ⊢
  refine RetG.after (m := n + 1 + 1 + 1) (H2 := H1) (grove_1 l KK n np nj nk ps js ks x y z (.slice none 0 0) (.slice none 0 0) h1.2.1 h2.2.1 h3.2.1 h1.1 h2.1 h3.1 hnk hnj hnp (by unfold KK; omega) (by unfold KK; omega) KK 0 (.slice none 0 0) H1 (n + 1 + 1 + 1) ?_ (by omega) (by unfold KK; omega)) (by omega) hk
  exact ⟨by omega, hb, ho, ⟨_, hr, rfl⟩, h1.keep hk (Nat.le_refl _), h2.keep hk (Nat.le_refl _), h3.keep hk (Nat.le_refl _), nil_vec, nil_vec, nil_vec, fun k h => absurd h (nil_off (v := x)), fun k h => absurd h (nil_off (v := x)), fun k h => absurd h (nil_off (v := x))⟩
theorem call18 (l : Nat) (a : Value) (H : Hp) (n : Nat) : (cal (l + 1)).call 18 [a] H n = C18_0 (cal l) KK a H n := by kernel_rfl
theorem flat18 : flatF P 18 = false := by kernel_rfl
theorem grove_call (l : Nat) {np nj nk : Nat} {ps js ks : List Int} {H : Hp} {n : Nat} {v : Value} (hg : GroveI H n v np nj nk ps js ks) (hnp : np ≤ 100) (hnj : nj ≤ 100) (hnk : nk ≤ 100) :
    ∃ u H' n', (∀ k : Value → Hp → Nat → Option ρ, callFK P (cal (l + 2)) 18 [v] H n k = k u H' n') ∧ n ≤ n' ∧ Keep n H H' ∧ GroveP H' n' u np nj nk ps js ks := by
  obtain ⟨u, H', n', e, h1, h2, h3⟩ := grove_spec l hg hnp hnj hnk
  refine ⟨u, H', n', fun k => ?_, h1, h2, h3⟩
  unfold callFK
  rw [flat18, call18, e]
  rfl
end Go.Proofs.Ytakjjillnllocaa.spec
namespace Go.Proofs.Ytakjjillnllocaa.spec
open Go.Ev Go.Proofs.Ytakjjillnllocaa.nestFits Go.Proofs.Ytakjjillnllocaa.G
set_option maxRecDepth 100000
variable {ρ : Type}
theorem fa90_0 (b o : Nat) : fieldAddrV P 90 (.pointer (some ⟨b, o, none⟩)) 0 = some (.pointer (some ⟨b, o + 0, none⟩)) := by kernel_rfl
theorem fa90_1 (b o : Nat) : fieldAddrV P 90 (.pointer (some ⟨b, o, none⟩)) 1 = some (.pointer (some ⟨b, o + 1, none⟩)) := by kernel_rfl
theorem fa53_0 (b o : Nat) : fieldAddrV P 53 (.pointer (some ⟨b, o, none⟩)) 0 = some (.pointer (some ⟨b, o + 0, none⟩)) := by kernel_rfl
theorem fa53_1 (b o : Nat) : fieldAddrV P 53 (.pointer (some ⟨b, o, none⟩)) 1 = some (.pointer (some ⟨b, o + 1, none⟩)) := by kernel_rfl
theorem fa86_0 (b o : Nat) : fieldAddrV P 86 (.pointer (some ⟨b, o, none⟩)) 0 = some (.pointer (some ⟨b, o + 0, none⟩)) := by kernel_rfl
theorem fa86_1 (b o : Nat) : fieldAddrV P 86 (.pointer (some ⟨b, o, none⟩)) 1 = some (.pointer (some ⟨b, o + 1, none⟩)) := by kernel_rfl
theorem fa86_2 (b o : Nat) : fieldAddrV P 86 (.pointer (some ⟨b, o, none⟩)) 2 = some (.pointer (some ⟨b, o + 3, none⟩)) := by kernel_rfl
theorem und31 : P.underlying 31 = some (.slice 90) := by kernel_rfl
theorem und32 : P.underlying 32 = some (.slice 88) := by kernel_rfl
theorem und33 : P.underlying 33 = some (.slice 86) := by kernel_rfl
theorem agg90 : isAggT P 90 = some true := by kernel_rfl
theorem agg88 : isAggT P 88 = some true := by kernel_rfl
theorem agg86 : isAggT P 86 = some true := by kernel_rfl
theorem bool_eq {b b' : Bool} {H : Hp} {n : Nat} (h : b = b') : (some (.bool b, H, n) : Res) = some (.bool b', H, n) := by rw [h]
def okR (a b : Int) : Prop := 0 ≤ a ∧ a ≤ b ∧ b ≤ 1000
instance (a b : Int) : Decidable (okR a b) := by unfold okR; infer_instance
theorem valid92_spec (c : Cal) (k : Nat) (a b : Int) : ∃ H' n', C92_0 c k (.agg ⟨[.int .i64 a, .int .i64 b]⟩) .nil 0 = some (.bool (decide (okR a b)), H', n') := by
  unfold C92_0 B92_0
  simp only [boxK_eq, cellsV, ptr]
  have h0 : CellsAt ((Tr.nil : Hp).set 0 (some (.cells [.int .i64 a, .int .i64 b] 90 false none))) 0 0 [.int .i64 a, .int .i64 b] := CellsAt.new
  generalize (Tr.nil : Hp).set 0 (some (.cells [.int .i64 a, .int .i64 b] 90 false none)) = H1 at h0 ⊢
  have l0 : loadV P H1 3 ⟨0, 0 + 0, none⟩ = some (.int .i64 a) := loadV_int h0 agg3 rfl
  have l1 : loadV P H1 3 ⟨0, 0 + 1, none⟩ = some (.int .i64 b) := loadV_int h0 agg3 rfl
  simp only [fa90_0, fa90_1, bindO_some, addrV_eq, l0, binK_some bin_geq]
  unfold okR
  cases c1 : decide (0 ≤ a) <;> cases c2 : decide (a ≤ b) <;> cases c3 : decide (b ≤ 1000) <;>
    simp only [guardK_tt, guardK_ft, guardK_u, bindO_some, pickV_t, pickV_f, c2, c3, addrV_eq, l0, l1, binK_some bin_leq] <;>
    refine ⟨_, _, bool_eq ?_⟩ <;> simp only [decide_eq_true_eq, decide_eq_false_iff_not] at c1 c2 c3 <;> simp [c1, c2, c3]
theorem flat92 : flatF P 92 = true := by kernel_rfl
theorem call92 (l : Nat) (a : Value) (H : Hp) (n : Nat) : (cal (l + 1)).call 92 [a] H n = C92_0 (cal l) KK a H n := by kernel_rfl
theorem valid92_call (l : Nat) (a b : Int) (H : Hp) (n : Nat) (k : Value → Hp → Nat → Option ρ) :
    callFK P (cal (l + 1)) 92 [.agg ⟨[.int .i64 a, .int .i64 b]⟩] H n k = k (.bool (decide (okR a b))) H n := by
  obtain ⟨H', n', e⟩ := valid92_spec (cal l) KK a b
  exact callFK_pure flat92 rfl ((call92 ..).trans e) rfl
theorem valid114_spec (c : Cal) (k : Nat) (a b : Int) : ∃ H' n', C114_0 c k (.agg ⟨[.int .i64 a, .int .i64 b]⟩) .nil 0 = some (.bool (decide (okR a b)), H', n') := by
  unfold C114_0 B114_0
  simp only [boxK_eq, cellsV, ptr]
  have h0 : CellsAt ((Tr.nil : Hp).set 0 (some (.cells [.int .i64 a, .int .i64 b] 53 false none))) 0 0 [.int .i64 a, .int .i64 b] := CellsAt.new
  generalize (Tr.nil : Hp).set 0 (some (.cells [.int .i64 a, .int .i64 b] 53 false none)) = H1 at h0 ⊢
  have l0 : loadV P H1 3 ⟨0, 0 + 0, none⟩ = some (.int .i64 a) := loadV_int h0 agg3 rfl
  have l1 : loadV P H1 3 ⟨0, 0 + 1, none⟩ = some (.int .i64 b) := loadV_int h0 agg3 rfl
  simp only [fa53_0, fa53_1, bindO_some, addrV_eq, l0, binK_some bin_geq]
  unfold okR
  cases c1 : decide (0 ≤ a) <;> cases c2 : decide (a ≤ b) <;> cases c3 : decide (b ≤ 1000) <;>
    simp only [guardK_tt, guardK_ft, guardK_u, bindO_some, pickV_t, pickV_f, c2, c3, addrV_eq, l0, l1, binK_some bin_leq] <;>
    refine ⟨_, _, bool_eq ?_⟩ <;> simp only [decide_eq_true_eq, decide_eq_false_iff_not] at c1 c2 c3 <;> simp [c1, c2, c3]
theorem flat114 : flatF P 114 = true := by kernel_rfl
theorem call114 (l : Nat) (a : Value) (H : Hp) (n : Nat) : (cal (l + 1)).call 114 [a] H n = C114_0 (cal l) KK a H n := by kernel_rfl
theorem valid114_call (l : Nat) (a b : Int) (H : Hp) (n : Nat) (k : Value → Hp → Nat → Option ρ) :
    callFK P (cal (l + 1)) 114 [.agg ⟨[.int .i64 a, .int .i64 b]⟩] H n k = k (.bool (decide (okR a b))) H n := by
  obtain ⟨H', n', e⟩ := valid114_spec (cal l) KK a b
  exact callFK_pure flat114 rfl ((call114 ..).trans e) rfl
def okK (y a b c d : Int) : Prop := (0 ≤ y ∧ y ≤ 1000) ∧ okR a b ∧ okR c d
instance (y a b c d : Int) : Decidable (okK y a b c d) := by unfold okK; infer_instance
theorem valid96_spec (l k : Nat) (y a b c d : Int) : ∃ H' n', C96_0 (cal (l + 1)) k (.agg ⟨[.int .i64 y, .int .i64 a, .int .i64 b, .int .i64 c, .int .i64 d]⟩) .nil 0 = some (.bool (decide (okK y a b c d)), H', n') := by
  unfold C96_0 B96_0
  simp only [boxK_eq, cellsV, ptr]
  have h0 : CellsAt ((Tr.nil : Hp).set 0 (some (.cells [.int .i64 y, .int .i64 a, .int .i64 b, .int .i64 c, .int .i64 d] 86 false none))) 0 0 [.int .i64 y, .int .i64 a, .int .i64 b, .int .i64 c, .int .i64 d] := CellsAt.new
  generalize (Tr.nil : Hp).set 0 (some (.cells [.int .i64 y, .int .i64 a, .int .i64 b, .int .i64 c, .int .i64 d] 86 false none)) = H1 at h0 ⊢
  have l0 : loadV P H1 3 ⟨0, 0 + 0, none⟩ = some (.int .i64 y) := loadV_int h0 agg3 rfl
  have l1 : loadV P H1 53 ⟨0, 0 + 1, none⟩ = some (.agg ⟨[.int .i64 a, .int .i64 b]⟩) := loadV_agg (k := 1) h0 agg53 sz53 (by simp) rfl
  have l2 : loadV P H1 53 ⟨0, 0 + 3, none⟩ = some (.agg ⟨[.int .i64 c, .int .i64 d]⟩) := loadV_agg (k := 3) h0 agg53 sz53 (by simp) rfl
  simp only [fa86_0, fa86_1, fa86_2, bindO_some, addrV_eq, l0, binK_some bin_geq]
  unfold okK
  cases c1 : decide (0 ≤ y) <;> cases c2 : decide (y ≤ 1000) <;> cases c3 : decide (okR a b) <;> cases c4 : decide (okR c d) <;>
    simp only [guardK_tt, guardK_ft, guardK_u, bindO_some, pickV_t, pickV_f, c2, c3, c4, addrV_eq, l0, l1, l2, binK_some bin_leq, valid114_call] <;>
    refine ⟨_, _, bool_eq ?_⟩ <;> simp only [decide_eq_true_eq, decide_eq_false_iff_not] at c1 c2 c3 c4 <;> simp [c1, c2, c3, c4]
theorem flat96 : flatF P 96 = true := by kernel_rfl
theorem call96 (l : Nat) (a : Value) (H : Hp) (n : Nat) : (cal (l + 1)).call 96 [a] H n = C96_0 (cal l) KK a H n := by kernel_rfl
theorem valid96_call (l : Nat) (y a b c d : Int) (H : Hp) (n : Nat) (k : Value → Hp → Nat → Option ρ) :
    callFK P (cal (l + 2)) 96 [.agg ⟨[.int .i64 y, .int .i64 a, .int .i64 b, .int .i64 c, .int .i64 d]⟩] H n k = k (.bool (decide (okK y a b c d))) H n := by
  obtain ⟨H', n', e⟩ := valid96_spec l KK y a b c d
  exact callFK_pure flat96 rfl ((call96 ..).trans e) rfl
def Holds (c : Cal) (fv : Value) (s : Nat) (xs : List Int) (len : Nat) (p : Nat → Prop) (H0 : Hp) (n0 : Nat) : Prop :=
  ∀ i, i < len → ∀ (H : Hp) (n : Nat), n0 ≤ n → Keep n0 H0 H → ∃ (b : Bool) (H' : Hp) (n' : Nat), (b = true ↔ p i) ∧
    (∀ k : Value → Hp → Nat → Res, callVK P c fv [.agg ⟨((ints xs).drop (i * s)).take s⟩] H n k = k (.bool b) H' n') ∧ n ≤ n' ∧ Keep n H H'
theorem each91_loop (c : Cal) (k : Nat) (fv v : Value) (xs : List Int) (len : Nat) (p : Nat → Prop) (H0 : Hp) (n0 : Nat) (hx : SliceR H0 n0 2 v len xs) (hlen : len ≤ 1000) (hf : Holds c fv 2 xs len p H0 n0) :
    ∀ (m i : Nat) (H : Hp) (n : Nat), n0 ≤ n → Keep n0 H0 H → i ≤ len → len - i ≤ m →
    ∃ r, Ret (S91_1 c k m fv v (.int .i64 len) (.int .i64 i) H n) n H (.bool r) ∧ (r = true ↔ ∀ q, i ≤ q → q < len → p q) := by
  have body : ∀ (b1 : Value → Value → Value → Value → Hp → Nat → Res) (m i : Nat) (H : Hp) (n : Nat), n0 ≤ n → Keep n0 H0 H → i ≤ len →
      (∀ H' n', n ≤ n' → Keep n H H' → i < len → ∃ r, Ret (b1 fv v (.int .i64 len) (.int .i64 ((i + 1 : Nat) : Int)) H' n') n' H' (.bool r) ∧ (r = true ↔ ∀ q, i + 1 ≤ q → q < len → p q)) →
      ∃ r, Ret (C91_1 c k m b1 fv v (.int .i64 len) (.int .i64 i) H n) n H (.bool r) ∧ (r = true ↔ ∀ q, i ≤ q → q < len → p q) := by
    intro b1 m i H n hn hk hi ih
    unfold C91_1 B91_1
    simp only [binK_some bin_lss, ifK_d]
    by_cases hlt : i < len
    · rw [if_pos (by omega)]
      have hx' := (hx.keep hk (Nat.le_refl _)).up hn
      obtain ⟨bb, o, hix, hbn, hc⟩ := hx'.at_ und31 sz90 hlt
      have hl2 : i * 2 + 2 ≤ xs.length := by rw [hx.1]; omega
      obtain ⟨g1, g2⟩ := ints_take hl2
      have hld : loadV P H 90 ⟨bb, o + i * 2, none⟩ = some (.agg ⟨((ints xs).drop (i * 2)).take 2⟩) := loadV_agg hc agg90 sz90 (by rw [ints_length]; exact hl2) (ints_noHole _)
      obtain ⟨H1, k1, k2, k3⟩ := spill (P := P) (ρ := Value × Hp × Nat) (H := H) (n := n) zero90 rfl sz90 g1 g2
      simp only [hix, bindO_some, addrV_eq, hld]
      rw [k3]
      have hback := load_all k2 agg90 sz90 g1
      obtain ⟨b, H2, n2, e1, e2, e3, e4⟩ := hf i hlt H1 (n + 1) (by omega) (hk.trans k1 hn)
      have kk : Keep n H H2 := k1.trans e4 (by omega)
      simp only [addrV_eq, bindO_some, hback]
      rw [e2]
      cases b with
      | false =>
        simp only [not_f, bindO_some, ifK_t]
        refine ⟨false, ⟨H2, n2, rfl, by omega, kk⟩, ⟨fun h => (by cases h), fun h => ?_⟩⟩
        exact absurd (e1.2 (h i (Nat.le_refl _) hlt)) (by simp)
      | true =>
        have hI : I64 ((i : Int) + 1) := by unfold I64; omega
        have hcast : ((i : Int) + 1) = ((i + 1 : Nat) : Int) := by omega
        simp only [not_t, bindO_some, ifK_f, binK_some (bin_add hI), hcast]
        obtain ⟨r, ⟨H', n', q1, q2, q3⟩, q4⟩ := ih H2 n2 (by omega) kk hlt
        refine ⟨r, ⟨H', n', q1, by omega, kk.trans q3 (by omega)⟩, q4.trans ⟨fun h q h1 h2 => ?_, fun h q h1 h2 => h q (by omega) h2⟩⟩
        rcases Nat.eq_or_lt_of_le h1 with z | z
        · subst z; exact e1.1 rfl
        · exact h q z h2
    · rw [if_neg (by omega)]
      exact ⟨true, ⟨H, n, rfl, Nat.le_refl _, Keep.refl _ _⟩, ⟨fun _ q h1 h2 => by omega, fun _ => rfl⟩⟩
  intro m
  induction m with
  | zero =>
    intro i H n h1 h2 h3 h4
    exact body _ 0 i H n h1 h2 h3 (fun _ _ _ _ h => by omega)
  | succ m ih =>
    intro i H n h1 h2 h3 h4
    exact body _ (m + 1) i H n h1 h2 h3 (fun H' n' q1 q2 q3 => ih (i + 1) H' n' (by omega) (h2.trans q2 h1) (by omega) (by omega))
theorem each91_spec (c : Cal) (fv v : Value) (xs : List Int) (len : Nat) (p : Nat → Prop) (H : Hp) (n : Nat) (hx : SliceR H n 2 v len xs) (hlen : len ≤ 1000) (hf : Holds c fv 2 xs len p H n) :
    ∃ r, Ret (C91_0 c KK v fv H n) n H (.bool r) ∧ (r = true ↔ ∀ q, q < len → p q) := by
  unfold C91_0 B91_0
  have hl : lenV P 31 v = some (.int .i64 len) := hx.len_eq und31
  simp only [hl, bindO_some]
  obtain ⟨r, h1, h2⟩ := each91_loop c KK fv v xs len p H n hx hlen hf KK 0 H n (Nat.le_refl _) (Keep.refl _ _) (by omega) (by unfold KK; omega)
  exact ⟨r, h1, h2.trans ⟨fun h q => h q (by omega), fun h q _ => h q⟩⟩
theorem call91 (l : Nat) (a b : Value) (H : Hp) (n : Nat) : (cal (l + 1)).call 91 [a, b] H n = C91_0 (cal l) KK a b H n := by kernel_rfl
theorem flat91 : flatF P 91 = true := by kernel_rfl
theorem each93_loop (c : Cal) (k : Nat) (fv v : Value) (xs : List Int) (len : Nat) (p : Nat → Prop) (H0 : Hp) (n0 : Nat) (hx : SliceR H0 n0 2 v len xs) (hlen : len ≤ 1000) (hf : Holds c fv 2 xs len p H0 n0) :
    ∀ (m i : Nat) (H : Hp) (n : Nat), n0 ≤ n → Keep n0 H0 H → i ≤ len → len - i ≤ m →
    ∃ r, Ret (S93_1 c k m fv v (.int .i64 len) (.int .i64 i) H n) n H (.bool r) ∧ (r = true ↔ ∀ q, i ≤ q → q < len → p q) := by
  have body : ∀ (b1 : Value → Value → Value → Value → Hp → Nat → Res) (m i : Nat) (H : Hp) (n : Nat), n0 ≤ n → Keep n0 H0 H → i ≤ len →
      (∀ H' n', n ≤ n' → Keep n H H' → i < len → ∃ r, Ret (b1 fv v (.int .i64 len) (.int .i64 ((i + 1 : Nat) : Int)) H' n') n' H' (.bool r) ∧ (r = true ↔ ∀ q, i + 1 ≤ q → q < len → p q)) →
      ∃ r, Ret (C93_1 c k m b1 fv v (.int .i64 len) (.int .i64 i) H n) n H (.bool r) ∧ (r = true ↔ ∀ q, i ≤ q → q < len → p q) := by
    intro b1 m i H n hn hk hi ih
    unfold C93_1 B93_1
    simp only [binK_some bin_lss, ifK_d]
    by_cases hlt : i < len
    · rw [if_pos (by omega)]
      have hx' := (hx.keep hk (Nat.le_refl _)).up hn
      obtain ⟨bb, o, hix, hbn, hc⟩ := hx'.at_ und32 sz88 hlt
      have hl2 : i * 2 + 2 ≤ xs.length := by rw [hx.1]; omega
      obtain ⟨g1, g2⟩ := ints_take hl2
      have hld : loadV P H 88 ⟨bb, o + i * 2, none⟩ = some (.agg ⟨((ints xs).drop (i * 2)).take 2⟩) := loadV_agg hc agg88 sz88 (by rw [ints_length]; exact hl2) (ints_noHole _)
      obtain ⟨H1, k1, k2, k3⟩ := spill (P := P) (ρ := Value × Hp × Nat) (H := H) (n := n) zero88 rfl sz88 g1 g2
      simp only [hix, bindO_some, addrV_eq, hld]
      rw [k3]
      have hback := load_all k2 agg88 sz88 g1
      obtain ⟨b, H2, n2, e1, e2, e3, e4⟩ := hf i hlt H1 (n + 1) (by omega) (hk.trans k1 hn)
      have kk : Keep n H H2 := k1.trans e4 (by omega)
      simp only [addrV_eq, bindO_some, hback]
      rw [e2]
      cases b with
      | false =>
        simp only [not_f, bindO_some, ifK_t]
        refine ⟨false, ⟨H2, n2, rfl, by omega, kk⟩, ⟨fun h => (by cases h), fun h => ?_⟩⟩
        exact absurd (e1.2 (h i (Nat.le_refl _) hlt)) (by simp)
      | true =>
        have hI : I64 ((i : Int) + 1) := by unfold I64; omega
        have hcast : ((i : Int) + 1) = ((i + 1 : Nat) : Int) := by omega
        simp only [not_t, bindO_some, ifK_f, binK_some (bin_add hI), hcast]
        obtain ⟨r, ⟨H', n', q1, q2, q3⟩, q4⟩ := ih H2 n2 (by omega) kk hlt
        refine ⟨r, ⟨H', n', q1, by omega, kk.trans q3 (by omega)⟩, q4.trans ⟨fun h q h1 h2 => ?_, fun h q h1 h2 => h q (by omega) h2⟩⟩
        rcases Nat.eq_or_lt_of_le h1 with z | z
        · subst z; exact e1.1 rfl
        · exact h q z h2
    · rw [if_neg (by omega)]
      exact ⟨true, ⟨H, n, rfl, Nat.le_refl _, Keep.refl _ _⟩, ⟨fun _ q h1 h2 => by omega, fun _ => rfl⟩⟩
  intro m
  induction m with
  | zero =>
    intro i H n h1 h2 h3 h4
    exact body _ 0 i H n h1 h2 h3 (fun _ _ _ _ h => by omega)
  | succ m ih =>
    intro i H n h1 h2 h3 h4
    exact body _ (m + 1) i H n h1 h2 h3 (fun H' n' q1 q2 q3 => ih (i + 1) H' n' (by omega) (h2.trans q2 h1) (by omega) (by omega))
theorem each93_spec (c : Cal) (fv v : Value) (xs : List Int) (len : Nat) (p : Nat → Prop) (H : Hp) (n : Nat) (hx : SliceR H n 2 v len xs) (hlen : len ≤ 1000) (hf : Holds c fv 2 xs len p H n) :
    ∃ r, Ret (C93_0 c KK v fv H n) n H (.bool r) ∧ (r = true ↔ ∀ q, q < len → p q) := by
  unfold C93_0 B93_0
  have hl : lenV P 32 v = some (.int .i64 len) := hx.len_eq und32
  simp only [hl, bindO_some]
  obtain ⟨r, h1, h2⟩ := each93_loop c KK fv v xs len p H n hx hlen hf KK 0 H n (Nat.le_refl _) (Keep.refl _ _) (by omega) (by unfold KK; omega)
  exact ⟨r, h1, h2.trans ⟨fun h q => h q (by omega), fun h q _ => h q⟩⟩
theorem call93 (l : Nat) (a b : Value) (H : Hp) (n : Nat) : (cal (l + 1)).call 93 [a, b] H n = C93_0 (cal l) KK a b H n := by kernel_rfl
theorem flat93 : flatF P 93 = true := by kernel_rfl
theorem each95_loop (c : Cal) (k : Nat) (fv v : Value) (xs : List Int) (len : Nat) (p : Nat → Prop) (H0 : Hp) (n0 : Nat) (hx : SliceR H0 n0 5 v len xs) (hlen : len ≤ 1000) (hf : Holds c fv 5 xs len p H0 n0) :
    ∀ (m i : Nat) (H : Hp) (n : Nat), n0 ≤ n → Keep n0 H0 H → i ≤ len → len - i ≤ m →
    ∃ r, Ret (S95_1 c k m fv v (.int .i64 len) (.int .i64 i) H n) n H (.bool r) ∧ (r = true ↔ ∀ q, i ≤ q → q < len → p q) := by
  have body : ∀ (b1 : Value → Value → Value → Value → Hp → Nat → Res) (m i : Nat) (H : Hp) (n : Nat), n0 ≤ n → Keep n0 H0 H → i ≤ len →
      (∀ H' n', n ≤ n' → Keep n H H' → i < len → ∃ r, Ret (b1 fv v (.int .i64 len) (.int .i64 ((i + 1 : Nat) : Int)) H' n') n' H' (.bool r) ∧ (r = true ↔ ∀ q, i + 1 ≤ q → q < len → p q)) →
      ∃ r, Ret (C95_1 c k m b1 fv v (.int .i64 len) (.int .i64 i) H n) n H (.bool r) ∧ (r = true ↔ ∀ q, i ≤ q → q < len → p q) := by
    intro b1 m i H n hn hk hi ih
    unfold C95_1 B95_1
    simp only [binK_some bin_lss, ifK_d]
    by_cases hlt : i < len
    · rw [if_pos (by omega)]
      have hx' := (hx.keep hk (Nat.le_refl _)).up hn
      obtain ⟨bb, o, hix, hbn, hc⟩ := hx'.at_ und33 sz86 hlt
      have hl2 : i * 5 + 5 ≤ xs.length := by rw [hx.1]; omega
      obtain ⟨g1, g2⟩ := ints_take hl2
      have hld : loadV P H 86 ⟨bb, o + i * 5, none⟩ = some (.agg ⟨((ints xs).drop (i * 5)).take 5⟩) := loadV_agg hc agg86 sz86 (by rw [ints_length]; exact hl2) (ints_noHole _)
      obtain ⟨H1, k1, k2, k3⟩ := spill (P := P) (ρ := Value × Hp × Nat) (H := H) (n := n) zero86 rfl sz86 g1 g2
      simp only [hix, bindO_some, addrV_eq, hld]
      rw [k3]
      have hback := load_all k2 agg86 sz86 g1
      obtain ⟨b, H2, n2, e1, e2, e3, e4⟩ := hf i hlt H1 (n + 1) (by omega) (hk.trans k1 hn)
      have kk : Keep n H H2 := k1.trans e4 (by omega)
      simp only [addrV_eq, bindO_some, hback]
      rw [e2]
      cases b with
      | false =>
        simp only [not_f, bindO_some, ifK_t]
        refine ⟨false, ⟨H2, n2, rfl, by omega, kk⟩, ⟨fun h => (by cases h), fun h => ?_⟩⟩
        exact absurd (e1.2 (h i (Nat.le_refl _) hlt)) (by simp)
      | true =>
        have hI : I64 ((i : Int) + 1) := by unfold I64; omega
        have hcast : ((i : Int) + 1) = ((i + 1 : Nat) : Int) := by omega
        simp only [not_t, bindO_some, ifK_f, binK_some (bin_add hI), hcast]
        obtain ⟨r, ⟨H', n', q1, q2, q3⟩, q4⟩ := ih H2 n2 (by omega) kk hlt
        refine ⟨r, ⟨H', n', q1, by omega, kk.trans q3 (by omega)⟩, q4.trans ⟨fun h q h1 h2 => ?_, fun h q h1 h2 => h q (by omega) h2⟩⟩
        rcases Nat.eq_or_lt_of_le h1 with z | z
        · subst z; exact e1.1 rfl
        · exact h q z h2
    · rw [if_neg (by omega)]
      exact ⟨true, ⟨H, n, rfl, Nat.le_refl _, Keep.refl _ _⟩, ⟨fun _ q h1 h2 => by omega, fun _ => rfl⟩⟩
  intro m
  induction m with
  | zero =>
    intro i H n h1 h2 h3 h4
    exact body _ 0 i H n h1 h2 h3 (fun _ _ _ _ h => by omega)
  | succ m ih =>
    intro i H n h1 h2 h3 h4
    exact body _ (m + 1) i H n h1 h2 h3 (fun H' n' q1 q2 q3 => ih (i + 1) H' n' (by omega) (h2.trans q2 h1) (by omega) (by omega))
theorem each95_spec (c : Cal) (fv v : Value) (xs : List Int) (len : Nat) (p : Nat → Prop) (H : Hp) (n : Nat) (hx : SliceR H n 5 v len xs) (hlen : len ≤ 1000) (hf : Holds c fv 5 xs len p H n) :
    ∃ r, Ret (C95_0 c KK v fv H n) n H (.bool r) ∧ (r = true ↔ ∀ q, q < len → p q) := by
  unfold C95_0 B95_0
  have hl : lenV P 33 v = some (.int .i64 len) := hx.len_eq und33
  simp only [hl, bindO_some]
  obtain ⟨r, h1, h2⟩ := each95_loop c KK fv v xs len p H n hx hlen hf KK 0 H n (Nat.le_refl _) (Keep.refl _ _) (by omega) (by unfold KK; omega)
  exact ⟨r, h1, h2.trans ⟨fun h q => h q (by omega), fun h q _ => h q⟩⟩
theorem call95 (l : Nat) (a b : Value) (H : Hp) (n : Nat) : (cal (l + 1)).call 95 [a, b] H n = C95_0 (cal l) KK a b H n := by kernel_rfl
theorem flat95 : flatF P 95 = true := by kernel_rfl
end Go.Proofs.Ytakjjillnllocaa.spec
namespace Go.Proofs.Ytakjjillnllocaa.spec
open Go.Ev Go.Proofs.Ytakjjillnllocaa.nestFits Go.Proofs.Ytakjjillnllocaa.G
set_option maxRecDepth 100000
variable {ρ : Type}
theorem fa88_0 (b o : Nat) : fieldAddrV P 88 (.pointer (some ⟨b, o, none⟩)) 0 = some (.pointer (some ⟨b, o + 0, none⟩)) := by kernel_rfl
theorem fa88_1 (b o : Nat) : fieldAddrV P 88 (.pointer (some ⟨b, o, none⟩)) 1 = some (.pointer (some ⟨b, o + 1, none⟩)) := by kernel_rfl
theorem flatK88 : flatK P 88 = some 2 := by kernel_rfl
theorem eqG88 : P.eqGuardType P.depth 88 = false := by kernel_rfl
theorem eq88 (p q : Operand) (x y a b : Int) : binV P .eql 88 p q (.agg ⟨[.int .i64 x, .int .i64 y]⟩) (.agg ⟨[.int .i64 a, .int .i64 b]⟩) = some (.bool (decide (x = a) && decide (y = b))) := by
  have h0 : quickBin .eql (.agg ⟨[.int .i64 x, .int .i64 y]⟩) (.agg ⟨[.int .i64 a, .int .i64 b]⟩) = none := rfl
  have h1 : (pureV (.agg ⟨[.int .i64 x, .int .i64 y]⟩) && pureV (.agg ⟨[.int .i64 a, .int .i64 b]⟩)) = true := rfl
  have h2 : eqCells [.int .i64 x, .int .i64 y] [.int .i64 a, .int .i64 b] = some (decide (x = a) && decide (y = b)) := by
    simp only [eqCells, decide_true]
    cases decide (x = a) <;> cases decide (y = b) <;> rfl
  unfold binV
  rw [h0]
  unfold slowBin
  simp only [h1, aggBin, aggEq, flatK88, eqG88, List.length_cons, List.length_nil, h2]
  rfl
theorem has_spec (c : Cal) (k : Nat) {H : Hp} {n np nj nk : Nat} {v : Value} {ps js ks : List Int} (hg : GroveP H n v np nj nk ps js ks) (a : Int) :
    ∃ r, Ret (C71_0 c k v (.int .i64 a) H n) n H (.bool r) ∧ (r = true ↔ 0 ≤ a ∧ a < np) := by
  obtain ⟨x, y, z, rfl, h1, h2, h3⟩ := hg
  unfold C71_0 B71_0
  simp only [boxK_eq, cellsV, ptr]
  have hk : Keep n H (H.set n (some (.cells [x, y, z] 35 false none))) := (Keep.refl n H).set (Nat.le_refl _) _
  have hb : CellsAt (H.set n (some (.cells [x, y, z] 35 false none))) n 0 [x, y, z] := CellsAt.new
  generalize H.set n (some (.cells [x, y, z] 35 false none)) = H1 at hk hb ⊢
  have lx : loadV P H1 31 ⟨n, 0 + 0, none⟩ = some x := loadV_scalar hb agg31 rfl h1.hole.1 h1.hole.2
  have e1 : lenV P 31 x = some (.int .i64 np) := h1.len_eq und31
  simp only [fa35_0, binK_some bin_geq]
  cases c1 : decide (0 ≤ a) <;> cases c2 : decide (a < np) <;>
    simp only [guardK_tt, guardK_ft, guardK_u, bindO_some, pickV_t, pickV_f, c2, addrV_eq, lx, e1, binK_some bin_lss] <;>
    refine ⟨_, ⟨H1, n + 1, rfl, by omega, hk⟩, ?_⟩ <;> simp only [decide_eq_true_eq, decide_eq_false_iff_not] at c1 c2 <;> simp <;> omega
theorem call71 (l : Nat) (a b : Value) (H : Hp) (n : Nat) : (cal (l + 1)).call 71 [a, b] H n = C71_0 (cal l) KK a b H n := by kernel_rfl
theorem has_call (l : Nat) {H : Hp} {n np nj nk : Nat} {v : Value} {ps js ks : List Int} (hg : GroveP H n v np nj nk ps js ks) (a : Int) :
    ∃ (r : Bool) (H' : Hp) (n' : Nat), (r = true ↔ 0 ≤ a ∧ a < np) ∧ (∀ k : Value → Hp → Nat → Option ρ, callFK P (cal (l + 1)) 71 [v, .int .i64 a] H n k = k (.bool r) H' n') ∧ n ≤ n' ∧ Keep n H H' := by
  obtain ⟨r, H', n', ⟨b, rfl, hb⟩, e1, e2, e3⟩ := callFK_spec (ρ := ρ) (P := P) (cal := cal (l + 1)) (f := 71) (args := [v, .int .i64 a]) (H := H) (n := n)
    (Pre := fun H n => GroveP H n v np nj nk ps js ks) (Q := fun r => ∃ b : Bool, r = .bool b ∧ (b = true ↔ 0 ≤ a ∧ a < np))
    (fun H n h => by
      obtain ⟨r, h1, h2⟩ := has_spec (cal l) KK h a
      exact ⟨.bool r, by rw [call71]; exact h1, r, rfl, h2⟩) (fun r ⟨b, e, _⟩ _ => by subst e; rfl) hg (fun hp => hg.nil (by simp only [pureL, Bool.and_eq_true] at hp; exact hp.1))
  exact ⟨b, H', n', hb, e1, e2, e3⟩
open Classical in
noncomputable def cnt (p : Nat → Prop) : Nat → Nat
  | 0 => 0
  | m + 1 => cnt p m + if p m then 1 else 0
theorem cnt_le (p : Nat → Prop) : ∀ m, cnt p m ≤ m
  | 0 => Nat.le_refl _
  | m + 1 => by have := cnt_le p m; simp only [cnt]; split <;> omega
theorem cnt_pos {p : Nat → Prop} {i : Nat} (h : p i) : ∀ {m}, i < m → 1 ≤ cnt p m
  | 0, h1 => by omega
  | m + 1, h1 => by
    simp only [cnt]
    by_cases e : i = m
    · subst e; rw [if_pos h]; omega
    · have := cnt_pos h (m := m) (by omega); omega
theorem cnt_two {p : Nat → Prop} {i q : Nat} (h : p i) (h' : p q) (hi : i < q) : ∀ {m}, q < m → 2 ≤ cnt p m
  | 0, h1 => by omega
  | m + 1, h1 => by
    simp only [cnt]
    by_cases e : q = m
    · subst e; rw [if_pos h']; have := cnt_pos h hi; omega
    · have := cnt_two h h' hi (m := m) (by omega); omega
theorem cnt_zero {p : Nat → Prop} : ∀ {m}, (∀ q, q < m → ¬ p q) → cnt p m = 0
  | 0, _ => rfl
  | m + 1, h => by
    simp only [cnt]
    rw [cnt_zero (fun q hq => h q (by omega)), if_neg (h m (by omega))]
theorem cnt_one {p : Nat → Prop} {i : Nat} (h : p i) : ∀ {m}, i < m → (∀ q, q < m → q ≠ i → ¬ p q) → cnt p m = 1
  | 0, h1, _ => by omega
  | m + 1, h1, h2 => by
    simp only [cnt]
    by_cases e : i = m
    · subst e; rw [if_pos h, cnt_zero (fun q hq => h2 q (by omega) (by omega))]
    · rw [cnt_one h (m := m) (by omega) (fun q hq => h2 q (by omega)), if_neg (h2 m (by omega) (by omega))]
def okJ (js : List Int) (np nj : Nat) (a b : Int) : Prop := (0 ≤ a ∧ a < np) ∧ (0 ≤ b ∧ b < np) ∧ a ≠ b ∧ cnt (J js a b) nj = 1
theorem joins_loop (l k : Nat) {np nj nk : Nat} {ps js ks : List Int} (a b : Int) (g1 g2 : Nat) (x y z : Value) (hnj : nj ≤ 1000) :
    ∀ (m i : Nat) (H : Hp) (n : Nat), g1 < n → g2 < n → CellsAt H g1 0 [x, y, z] → CellsAt H g2 0 [.int .i64 a, .int .i64 b] → GroveP H n (.agg ⟨[x, y, z]⟩) np nj nk ps js ks → i ≤ nj → nj - i ≤ m →
    ∃ r, Ret (S94_1 (cal (l + 1)) k m (.pointer (some ⟨g1, 0, none⟩)) (.pointer (some ⟨g2, 0, none⟩)) (.int .i64 (cnt (J js a b) i)) y (.int .i64 nj) (.int .i64 i) H n) n H (.bool r) ∧ (r = true ↔ okJ js np nj a b) := by
  have body : ∀ (b1 : Value → Value → Value → Value → Value → Value → Hp → Nat → Res) (m i : Nat) (H : Hp) (n : Nat), g1 < n → g2 < n → CellsAt H g1 0 [x, y, z] → CellsAt H g2 0 [.int .i64 a, .int .i64 b] → GroveP H n (.agg ⟨[x, y, z]⟩) np nj nk ps js ks → i ≤ nj →
      (∀ H' n', n ≤ n' → Keep n H H' → i < nj → ∃ r, Ret (b1 (.pointer (some ⟨g1, 0, none⟩)) (.pointer (some ⟨g2, 0, none⟩)) (.int .i64 (cnt (J js a b) (i + 1))) y (.int .i64 nj) (.int .i64 ((i + 1 : Nat) : Int)) H' n') n' H' (.bool r) ∧ (r = true ↔ okJ js np nj a b)) →
      ∃ r, Ret (C94_1 (cal (l + 1)) k m b1 (.pointer (some ⟨g1, 0, none⟩)) (.pointer (some ⟨g2, 0, none⟩)) (.int .i64 (cnt (J js a b) i)) y (.int .i64 nj) (.int .i64 i) H n) n H (.bool r) ∧ (r = true ↔ okJ js np nj a b) := by
    intro b1 m i H n hg1 hg2 hb1 hb2 hg hi ih
    have hg0 := hg
    obtain ⟨x', y', z', hxyz, h1, h2, h3⟩ := hg
    cases hxyz
    unfold C94_1 B94_1
    simp only [binK_some bin_lss, ifK_d]
    by_cases hlt : i < nj
    · rw [if_pos (by omega)]
      obtain ⟨bb, o, hix, hbn, hc⟩ := h2.at_ und32 sz88 hlt
      have hl2 : i * 2 + 2 ≤ js.length := by rw [h2.1]; omega
      obtain ⟨u, w, hu, hw, huw⟩ := pair_at hl2
      have hld : loadV P H 88 ⟨bb, o + i * 2, none⟩ = some (.agg ⟨[.int .i64 u, .int .i64 w]⟩) := by
        rw [loadV_agg hc agg88 sz88 (by rw [ints_length]; exact hl2) (ints_noHole _), huw]
      obtain ⟨H1, k1, k2, k3⟩ := spill (P := P) (ρ := Value × Hp × Nat) (H := H) (n := n) (L := [.int .i64 u, .int .i64 w]) zero88 rfl sz88 rfl rfl
      simp only [hix, bindO_some, addrV_eq, hld]
      rw [k3]
      have hback := load_all k2 agg88 sz88 rfl
      have hb2' := hb2.keep k1 hg2
      have lab : loadV P H1 88 ⟨g2, 0, none⟩ = some (.agg ⟨[.int .i64 a, .int .i64 b]⟩) := loadV_agg (o := 0) (k := 0) hb2' agg88 sz88 (by simp) rfl
      have la : loadV P H1 3 ⟨g2, 0 + 0, none⟩ = some (.int .i64 a) := loadV_int hb2' agg3 rfl
      have lb : loadV P H1 3 ⟨g2, 0 + 1, none⟩ = some (.int .i64 b) := loadV_int hb2' agg3 rfl
      have hJ : J js a b i ↔ (decide (u = a) = true ∧ decide (w = b) = true) ∨ (decide (u = b) = true ∧ decide (w = a) = true) := by
        unfold J; rw [hu, hw]; simp
      have hle := cnt_le (J js a b) i
      have hI : I64 ((i : Int) + 1) := by unfold I64; omega
      have hcast : ((i : Int) + 1) = ((i + 1 : Nat) : Int) := by omega
      have hIc : I64 ((cnt (J js a b) i : Int) + 1) := by unfold I64; omega
      obtain ⟨r, ⟨H', n', q1, q2, q3⟩, q4⟩ := ih H1 (n + 1) (by omega) k1 hlt
      have yes : J js a b i → ((cnt (J js a b) i : Int) + 1) = ((cnt (J js a b) (i + 1) : Nat) : Int) := fun h => by simp only [cnt]; rw [if_pos h]; omega
      have no : ¬ J js a b i → cnt (J js a b) (i + 1) = cnt (J js a b) i := fun h => by simp only [cnt]; rw [if_neg h]; omega
      simp only [addrV_eq, bindO_some, hback, lab, binK_some (eq88 ..), fa88_0, fa88_1]
      cases c1 : decide (u = a) <;> cases c2 : decide (w = b) <;> cases c3 : decide (u = b) <;> cases c4 : decide (w = a) <;>
        rw [c1, c2, c3, c4] at hJ <;>
        simp only [Bool.and_true, Bool.and_false, Bool.true_and, Bool.false_and, Bool.and_self, c3, c4, guardK_ff, guardK_tf, bindO_some, addrV_eq, hback, la, lb, build88, binK_some (eq88 ..), pickV_t, pickV_f, ifK_t, ifK_f, binK_some (bin_add hIc), C94_2, B94_2, binK_some (bin_add hI), hcast] <;>
        first
        | (rw [yes (by rw [hJ]; simp)]; exact ⟨r, ⟨H', n', q1, by omega, k1.trans q3 (by omega)⟩, q4⟩)
        | (rw [no (by rw [hJ]; simp)] at q1; exact ⟨r, ⟨H', n', q1, by omega, k1.trans q3 (by omega)⟩, q4⟩)
    · rw [if_neg (by omega)]
      have hi' : i = nj := by omega
      subst hi'
      have l35 : loadV P H 35 ⟨g1, 0, none⟩ = some (.agg ⟨[x, y, z]⟩) := loadV_agg (o := 0) (k := 0) hb1 agg35 sz35 (by simp) (by simp [h1.hole.1, h2.hole.1, h3.hole.1])
      have la : loadV P H 3 ⟨g2, 0 + 0, none⟩ = some (.int .i64 a) := loadV_int hb2 agg3 rfl
      obtain ⟨r1, H1, n1, e1, e2, e3, e4⟩ := has_call (ρ := Value × Hp × Nat) l hg0 a
      simp only [addrV_eq, bindO_some, l35, fa88_0, fa88_1, la]
      rw [e2]
      have hb1' := hb1.keep e4 hg1
      have hb2' := hb2.keep e4 hg2
      have l35' : loadV P H1 35 ⟨g1, 0, none⟩ = some (.agg ⟨[x, y, z]⟩) := loadV_agg (o := 0) (k := 0) hb1' agg35 sz35 (by simp) (by simp [h1.hole.1, h2.hole.1, h3.hole.1])
      have lb : loadV P H1 3 ⟨g2, 0 + 1, none⟩ = some (.int .i64 b) := loadV_int hb2' agg3 rfl
      cases r1 with
      | false =>
        simp only [guardK_ft, guardK_u, bindO_some, pickV_f]
        refine ⟨false, ⟨H1, n1, rfl, by omega, e4⟩, ⟨fun h => (by cases h), fun h => ?_⟩⟩
        exact absurd (e1.2 h.1) (by simp)
      | true =>
        obtain ⟨r2, H2, n2, f1, f2, f3, f4⟩ := has_call (ρ := Value × Hp × Nat) l (hg0.keep e4 e3) b
        simp only [guardK_tt, bindO_some, addrV_eq, l35', lb]
        rw [f2]
        have hb2'' := hb2'.keep f4 (by omega)
        have la2 : loadV P H2 3 ⟨g2, 0 + 0, none⟩ = some (.int .i64 a) := loadV_int hb2'' agg3 rfl
        have lb2 : loadV P H2 3 ⟨g2, 0 + 1, none⟩ = some (.int .i64 b) := loadV_int hb2'' agg3 rfl
        have kk : Keep n H H2 := e4.trans f4 e3
        have e1' := e1.1 rfl
        unfold okJ
        cases r2 with
        | false =>
          simp only [guardK_ft, guardK_u, bindO_some, pickV_t, pickV_f]
          refine ⟨false, ⟨H2, n2, rfl, by omega, kk⟩, ⟨fun h => (by cases h), fun h => ?_⟩⟩
          exact absurd (f1.2 h.2.1) (by simp)
        | true =>
          have f1' := f1.1 rfl
          cases c1 : decide (a = b) with
          | true =>
            simp only [guardK_tt, guardK_ft, guardK_u, bindO_some, pickV_t, pickV_f, addrV_eq, la2, lb2, binK_some bin_neq, c1, Bool.not_true]
            refine ⟨false, ⟨H2, n2, rfl, by omega, kk⟩, ⟨fun h => (by cases h), fun h => ?_⟩⟩
            exact absurd (of_decide_eq_true c1) h.2.2.1
          | false =>
            simp only [guardK_tt, bindO_some, pickV_t, addrV_eq, la2, lb2, binK_some bin_neq, c1, Bool.not_false, binK_some bin_eql]
            refine ⟨_, ⟨H2, n2, rfl, by omega, kk⟩, ?_⟩
            rw [decide_eq_true_eq]
            exact ⟨fun h => ⟨e1', f1', of_decide_eq_false c1, by omega⟩, fun h => by have := h.2.2.2; omega⟩
  intro m
  induction m with
  | zero =>
    intro i H n h1 h2 h3 h4 h5 h6 h7
    exact body _ 0 i H n h1 h2 h3 h4 h5 h6 (fun _ _ _ _ h => by omega)
  | succ m ih =>
    intro i H n h1 h2 h3 h4 h5 h6 h7
    exact body _ (m + 1) i H n h1 h2 h3 h4 h5 h6 (fun H' n' q1 q2 q3 => ih (i + 1) H' n' (by omega) (by omega) (h3.keep q2 h1) (h4.keep q2 h2) (h5.keep q2 q1) (by omega) (by omega))
theorem joins_spec (l : Nat) {np nj nk : Nat} {ps js ks : List Int} {H : Hp} {n : Nat} {v : Value} (hg : GroveP H n v np nj nk ps js ks) (hnj : nj ≤ 1000) (a b : Int) :
    ∃ r, Ret (C94_0 (cal (l + 1)) KK v (.agg ⟨[.int .i64 a, .int .i64 b]⟩) H n) n H (.bool r) ∧ (r = true ↔ okJ js np nj a b) := by
  have hg0 := hg
  obtain ⟨x, y, z, rfl, h1, h2, h3⟩ := hg
  unfold C94_0 B94_0
  simp only [boxK_eq, cellsV, ptr]
  have hk : Keep n H ((H.set n (some (.cells [x, y, z] 35 false none))).set (n + 1) (some (.cells [.int .i64 a, .int .i64 b] 88 false none))) := ((Keep.refl n H).set (Nat.le_refl _) _).set (by omega) _
  have hb1 : CellsAt ((H.set n (some (.cells [x, y, z] 35 false none))).set (n + 1) (some (.cells [.int .i64 a, .int .i64 b] 88 false none))) n 0 [x, y, z] := CellsAt.new.set (by omega)
  have hb2 : CellsAt ((H.set n (some (.cells [x, y, z] 35 false none))).set (n + 1) (some (.cells [.int .i64 a, .int .i64 b] 88 false none))) (n + 1) 0 [.int .i64 a, .int .i64 b] := CellsAt.new
  generalize (H.set n (some (.cells [x, y, z] 35 false none))).set (n + 1) (some (.cells [.int .i64 a, .int .i64 b] 88 false none)) = H1 at hk hb1 hb2 ⊢
  have ly : loadV P H1 32 ⟨n, 0 + 1, none⟩ = some y := loadV_scalar hb1 agg32 rfl h2.hole.1 h2.hole.2
  have e1 : lenV P 32 y = some (.int .i64 nj) := h2.len_eq und32
  simp only [fa35_1, bindO_some, addrV_eq, ly, e1]
  obtain ⟨r, ⟨H', n', q1, q2, q3⟩, q4⟩ := joins_loop l KK (ps := ps) (ks := ks) (np := np) (nk := nk) a b n (n + 1) x y z hnj KK 0 H1 (n + 1 + 1) (by omega) (by omega) hb1 hb2 (hg0.keep hk (by omega)) (by omega) (by unfold KK; omega)
  exact ⟨r, ⟨H', n', q1, by omega, hk.trans q3 (by omega)⟩, q4⟩
theorem call94 (l : Nat) (a b : Value) (H : Hp) (n : Nat) : (cal (l + 1)).call 94 [a, b] H n = C94_0 (cal l) KK a b H n := by kernel_rfl
theorem joins_call (l : Nat) {np nj nk : Nat} {ps js ks : List Int} {H : Hp} {n : Nat} {v : Value} (hg : GroveP H n v np nj nk ps js ks) (hnj : nj ≤ 1000) (a b : Int) :
    ∃ (r : Bool) (H' : Hp) (n' : Nat), (r = true ↔ okJ js np nj a b) ∧ (∀ k : Value → Hp → Nat → Option ρ, callFK P (cal (l + 2)) 94 [v, .agg ⟨[.int .i64 a, .int .i64 b]⟩] H n k = k (.bool r) H' n') ∧ n ≤ n' ∧ Keep n H H' := by
  obtain ⟨r, H', n', ⟨b', rfl, hb⟩, e1, e2, e3⟩ := callFK_spec (ρ := ρ) (P := P) (cal := cal (l + 2)) (f := 94) (args := [v, .agg ⟨[.int .i64 a, .int .i64 b]⟩]) (H := H) (n := n)
    (Pre := fun H n => GroveP H n v np nj nk ps js ks) (Q := fun r => ∃ b' : Bool, r = .bool b' ∧ (b' = true ↔ okJ js np nj a b))
    (fun H n h => by
      obtain ⟨r, h1, h2⟩ := joins_spec l h hnj a b
      exact ⟨.bool r, by rw [call94]; exact h1, r, rfl, h2⟩) (fun r ⟨b, e, _⟩ _ => by subst e; rfl) hg (fun hp => hg.nil (by simp only [pureL, Bool.and_eq_true] at hp; exact hp.1))
  exact ⟨b', H', n', hb, e1, e2, e3⟩
theorem joins_all {js : List Int} {np nj : Nat} (hl : js.length = nj * 2) : (∀ i, i < nj → okJ js np nj (js.getD (i * 2) 0) (js.getD (i * 2 + 1) 0)) ↔ ¬ ∃ i, i < nj ∧ JBad js np i := by
  have at0 : ∀ i, i < nj → js[i * 2]? = some (js.getD (i * 2) 0) := fun i hi => by
    rw [List.getD_eq_getElem?_getD, List.getElem?_eq_getElem (show i * 2 < js.length by omega)]; rfl
  have at1 : ∀ i, i < nj → js[i * 2 + 1]? = some (js.getD (i * 2 + 1) 0) := fun i hi => by
    rw [List.getD_eq_getElem?_getD, List.getElem?_eq_getElem (show i * 2 + 1 < js.length by omega)]; rfl
  have self : ∀ i, i < nj → J js (js.getD (i * 2) 0) (js.getD (i * 2 + 1) 0) i := fun i hi => .inl ⟨at0 i hi, at1 i hi⟩
  have sym : ∀ i q, i < nj → q < nj → J js (js.getD (i * 2) 0) (js.getD (i * 2 + 1) 0) q → J js (js.getD (q * 2) 0) (js.getD (q * 2 + 1) 0) i := by
    intro i q hi hq h
    unfold J at h ⊢
    rw [at0 q hq, at1 q hq] at h
    rw [at0 i hi, at1 i hi]
    simp only [Option.some.injEq] at h ⊢
    omega
  constructor
  · rintro h ⟨i, hi, a, b, ha, hb, hbad⟩
    rw [at0 i hi] at ha; rw [at1 i hi] at hb
    cases ha; cases hb
    obtain ⟨o1, o2, o3, o4⟩ := h i hi
    rcases hbad with hbad | hbad | hbad | ⟨q, _, hq, hJ⟩
    · omega
    · omega
    · exact o3 hbad
    · have := cnt_two hJ (self i hi) hq hi; omega
  · intro h i hi
    have nb : ¬ JBad js np i := fun hb => h ⟨i, hi, hb⟩
    have nb' : ∀ Q : Prop, (Q → ¬ (0 ≤ js.getD (i * 2) 0 ∧ js.getD (i * 2) 0 ≤ (np : Int) - 1) ∨ ¬ (0 ≤ js.getD (i * 2 + 1) 0 ∧ js.getD (i * 2 + 1) 0 ≤ (np : Int) - 1) ∨ js.getD (i * 2) 0 = js.getD (i * 2 + 1) 0 ∨ ∃ q, 0 ≤ q ∧ q < i ∧ J js (js.getD (i * 2) 0) (js.getD (i * 2 + 1) 0) q) → ¬ Q :=
      fun Q hQ q => nb ⟨_, _, at0 i hi, at1 i hi, hQ q⟩
    have h1 := nb' (¬ (0 ≤ js.getD (i * 2) 0 ∧ js.getD (i * 2) 0 ≤ (np : Int) - 1)) .inl
    have h2 := nb' (¬ (0 ≤ js.getD (i * 2 + 1) 0 ∧ js.getD (i * 2 + 1) 0 ≤ (np : Int) - 1)) (fun q => .inr (.inl q))
    have h3 := nb' (js.getD (i * 2) 0 = js.getD (i * 2 + 1) 0) (fun q => .inr (.inr (.inl q)))
    refine ⟨by omega, by omega, h3, cnt_one (self i hi) hi fun q hq hne hJ => ?_⟩
    rcases Nat.lt_or_gt_of_ne hne with z | z
    · exact nb' (∃ q, 0 ≤ q ∧ q < i ∧ J js (js.getD (i * 2) 0) (js.getD (i * 2 + 1) 0) q) (fun q => .inr (.inr (.inr q))) ⟨q, Nat.zero_le _, z, hJ⟩
    · exact h ⟨q, hq, _, _, at0 q hq, at1 q hq, .inr (.inr (.inr ⟨i, Nat.zero_le _, z, sym i q hi hq hJ⟩))⟩
end Go.Proofs.Ytakjjillnllocaa.spec
namespace Go.Proofs.Ytakjjillnllocaa.spec
open Go.Ev Go.Proofs.Ytakjjillnllocaa.nestFits Go.Proofs.Ytakjjillnllocaa.G
set_option maxRecDepth 100000
variable {ρ : Type}
theorem each91_call (l : Nat) (fv v : Value) (xs : List Int) (len : Nat) (p : Nat → Prop) {H : Hp} {n : Nat} (hx : SliceR H n 2 v len xs) (hlen : len ≤ 1000) (hf : Holds (cal l) fv 2 xs len p H n) (hf0 : pureV fv = true → Holds (cal l) fv 2 xs len p .nil 0) :
    ∃ (b : Bool) (H' : Hp) (n' : Nat), (b = true ↔ ∀ q, q < len → p q) ∧ (∀ k : Value → Hp → Nat → Option ρ, callFK P (cal (l + 1)) 91 [v, fv] H n k = k (.bool b) H' n') ∧ n ≤ n' ∧ Keep n H H' := by
  obtain ⟨r, H', n', ⟨b', rfl, hb⟩, e1, e2, e3⟩ := callFK_spec (ρ := ρ) (P := P) (cal := cal (l + 1)) (f := 91) (args := [v, fv]) (H := H) (n := n)
    (Pre := fun H n => SliceR H n 2 v len xs ∧ Holds (cal l) fv 2 xs len p H n) (Q := fun r => ∃ b' : Bool, r = .bool b' ∧ (b' = true ↔ ∀ q, q < len → p q))
    (fun H n h => by
      obtain ⟨r, h1, h2⟩ := each91_spec (cal l) fv v xs len p H n h.1 hlen h.2
      exact ⟨.bool r, by rw [call91]; exact h1, r, rfl, h2⟩) (fun r ⟨b, e, _⟩ _ => by subst e; rfl) ⟨hx, hf⟩ (fun hp => by
        simp only [pureL, Bool.and_eq_true] at hp
        exact ⟨hx.nil hp.1, hf0 hp.2.1⟩)
  exact ⟨b', H', n', hb, e1, e2, e3⟩
theorem each93_call (l : Nat) (fv v : Value) (xs : List Int) (len : Nat) (p : Nat → Prop) {H : Hp} {n : Nat} (hx : SliceR H n 2 v len xs) (hlen : len ≤ 1000) (hf : Holds (cal l) fv 2 xs len p H n) (hf0 : pureV fv = true → Holds (cal l) fv 2 xs len p .nil 0) :
    ∃ (b : Bool) (H' : Hp) (n' : Nat), (b = true ↔ ∀ q, q < len → p q) ∧ (∀ k : Value → Hp → Nat → Option ρ, callFK P (cal (l + 1)) 93 [v, fv] H n k = k (.bool b) H' n') ∧ n ≤ n' ∧ Keep n H H' := by
  obtain ⟨r, H', n', ⟨b', rfl, hb⟩, e1, e2, e3⟩ := callFK_spec (ρ := ρ) (P := P) (cal := cal (l + 1)) (f := 93) (args := [v, fv]) (H := H) (n := n)
    (Pre := fun H n => SliceR H n 2 v len xs ∧ Holds (cal l) fv 2 xs len p H n) (Q := fun r => ∃ b' : Bool, r = .bool b' ∧ (b' = true ↔ ∀ q, q < len → p q))
    (fun H n h => by
      obtain ⟨r, h1, h2⟩ := each93_spec (cal l) fv v xs len p H n h.1 hlen h.2
      exact ⟨.bool r, by rw [call93]; exact h1, r, rfl, h2⟩) (fun r ⟨b, e, _⟩ _ => by subst e; rfl) ⟨hx, hf⟩ (fun hp => by
        simp only [pureL, Bool.and_eq_true] at hp
        exact ⟨hx.nil hp.1, hf0 hp.2.1⟩)
  exact ⟨b', H', n', hb, e1, e2, e3⟩
theorem each95_call (l : Nat) (fv v : Value) (xs : List Int) (len : Nat) (p : Nat → Prop) {H : Hp} {n : Nat} (hx : SliceR H n 5 v len xs) (hlen : len ≤ 1000) (hf : Holds (cal l) fv 5 xs len p H n) (hf0 : pureV fv = true → Holds (cal l) fv 5 xs len p .nil 0) :
    ∃ (b : Bool) (H' : Hp) (n' : Nat), (b = true ↔ ∀ q, q < len → p q) ∧ (∀ k : Value → Hp → Nat → Option ρ, callFK P (cal (l + 1)) 95 [v, fv] H n k = k (.bool b) H' n') ∧ n ≤ n' ∧ Keep n H H' := by
  obtain ⟨r, H', n', ⟨b', rfl, hb⟩, e1, e2, e3⟩ := callFK_spec (ρ := ρ) (P := P) (cal := cal (l + 1)) (f := 95) (args := [v, fv]) (H := H) (n := n)
    (Pre := fun H n => SliceR H n 5 v len xs ∧ Holds (cal l) fv 5 xs len p H n) (Q := fun r => ∃ b' : Bool, r = .bool b' ∧ (b' = true ↔ ∀ q, q < len → p q))
    (fun H n h => by
      obtain ⟨r, h1, h2⟩ := each95_spec (cal l) fv v xs len p H n h.1 hlen h.2
      exact ⟨.bool r, by rw [call95]; exact h1, r, rfl, h2⟩) (fun r ⟨b, e, _⟩ _ => by subst e; rfl) ⟨hx, hf⟩ (fun hp => by
        simp only [pureL, Bool.and_eq_true] at hp
        exact ⟨hx.nil hp.1, hf0 hp.2.1⟩)
  exact ⟨b', H', n', hb, e1, e2, e3⟩
theorem holds92 (l : Nat) {ps : List Int} {np : Nat} (hl : ps.length = np * 2) (H : Hp) (n : Nat) : Holds (cal (l + 1)) (.func (.func 92) #[] #[]) 2 ps np (fun i => okR (ps.getD (i * 2) 0) (ps.getD (i * 2 + 1) 0)) H n := by
  intro i hi H1 n1 _ _
  refine ⟨decide (okR (ps.getD (i * 2) 0) (ps.getD (i * 2 + 1) 0)), H1, n1, by simp, fun k => ?_, Nat.le_refl _, Keep.refl _ _⟩
  rw [two_at (show i * 2 + 2 ≤ ps.length by omega)]
  exact valid92_call l _ _ H1 n1 k
theorem holds96 (l : Nat) {ks : List Int} {nk : Nat} (hl : ks.length = nk * 5) (H : Hp) (n : Nat) : Holds (cal (l + 2)) (.func (.func 96) #[] #[]) 5 ks nk (fun i => okK (ks.getD (i * 5) 0) (ks.getD (i * 5 + 1) 0) (ks.getD (i * 5 + 2) 0) (ks.getD (i * 5 + 3) 0) (ks.getD (i * 5 + 4) 0)) H n := by
  intro i hi H1 n1 _ _
  refine ⟨decide (okK (ks.getD (i * 5) 0) (ks.getD (i * 5 + 1) 0) (ks.getD (i * 5 + 2) 0) (ks.getD (i * 5 + 3) 0) (ks.getD (i * 5 + 4) 0)), H1, n1, by simp, fun k => ?_, Nat.le_refl _, Keep.refl _ _⟩
  rw [five_at (show i * 5 + 5 ≤ ks.length by omega)]
  exact valid96_call l _ _ _ _ _ H1 n1 k
theorem holds94 (l : Nat) {np nj nk : Nat} {ps js ks : List Int} {H : Hp} {n : Nat} {v : Value} (hg : GroveP H n v np nj nk ps js ks) (hnj : nj ≤ 1000) (hl : js.length = nj * 2) :
    Holds (cal (l + 2)) (.func (.func 94) ⟨[v]⟩ ⟨[]⟩) 2 js nj (fun i => okJ js np nj (js.getD (i * 2) 0) (js.getD (i * 2 + 1) 0)) H n := by
  intro i hi H1 n1 hn hk
  obtain ⟨b, H2, n2, h1, h2, h3, h4⟩ := joins_call (ρ := Value × Hp × Nat) l (hg.keep hk hn) hnj (js.getD (i * 2) 0) (js.getD (i * 2 + 1) 0)
  refine ⟨b, H2, n2, h1, fun k => ?_, h3, h4⟩
  rw [two_at (show i * 2 + 2 ≤ js.length by omega)]
  exact h2 k
theorem check_3 (c : Cal) (k : Nat) (b : Bool) (H : Hp) (n : Nat) : C60_3 c k (.bool b) H n = some (.int .i64 (if b = true then 1 else 0), H, n) := by
  unfold C60_3 B60_3
  cases b <;> rfl
theorem check_2 (l : Nat) {np nj nk : Nat} {ps js ks : List Int} {H : Hp} {n g : Nat} {x y z : Value} (hg : GroveP H n (.agg ⟨[x, y, z]⟩) np nj nk ps js ks) (hb : CellsAt H g 0 [x, y, z]) (hgn : g < n) (hnp : np ≤ 1000) (hnj : nj ≤ 1000) (hnk : nk ≤ 1000) (b : Bool) :
    Says01 (b = true ∨ GBad np nj nk ps js ks) (C60_2 (cal (l + 3)) KK (.pointer (some ⟨g, 0, none⟩)) (.bool b) H n) n H := by
  have hg0 := hg
  obtain ⟨x', y', z', hxyz, h1, h2, h3⟩ := hg
  cases hxyz
  unfold C60_2 B60_2
  cases b with
  | true => exact .inl ⟨.inl rfl, H, n, rfl, Nat.le_refl _, Keep.refl _ _⟩
  | false =>
    have lx : loadV P H 31 ⟨g, 0 + 0, none⟩ = some x := loadV_scalar hb agg31 rfl h1.hole.1 h1.hole.2
    simp only [ifK_f, fa35_0, bindO_some, addrV_eq, lx]
    obtain ⟨b1, H1, n1, a1, a2, a3, a4⟩ := each91_call (ρ := Value × Hp × Nat) (l + 2) (.func (.func 92) #[] #[]) x ps np (fun i => okR (ps.getD (i * 2) 0) (ps.getD (i * 2 + 1) 0)) h1 hnp (holds92 (l + 1) h1.1 H n) (fun _ => holds92 (l + 1) h1.1 _ _)
    rw [a2]
    have p1 : (∀ q, q < np → okR (ps.getD (q * 2) 0) (ps.getD (q * 2 + 1) 0)) ↔ ¬ ∃ q, q < np ∧ PBad ps q :=
      ⟨fun h ⟨q, q1, q2⟩ => q2 (h q q1), fun h q hq => Classical.byContradiction fun c => h ⟨q, hq, c⟩⟩
    cases b1 with
    | false =>
      simp only [not_f, bindO_some, ifK_t, check_3]
      refine .inl ⟨.inr (.inl (Classical.byContradiction fun c => ?_)), H1, n1, rfl, a3, a4⟩
      exact absurd (a1.2 (p1.2 c)) (by simp)
    | true =>
      have np1 := p1.1 (a1.1 rfl)
      have hb1 := hb.keep a4 hgn
      have ly : loadV P H1 32 ⟨g, 0 + 1, none⟩ = some y := loadV_scalar hb1 agg32 rfl h2.hole.1 h2.hole.2
      have lg : loadV P H1 35 ⟨g, 0, none⟩ = some (.agg ⟨[x, y, z]⟩) := loadV_agg (o := 0) (k := 0) hb1 agg35 sz35 (by simp) (by simp [h1.hole.1, h2.hole.1, h3.hole.1])
      simp only [not_t, bindO_some, ifK_f, fa35_1, addrV_eq, ly, lg]
      have hg1 := hg0.keep a4 a3
      obtain ⟨b2, H2, n2, c1, c2, c3, c4⟩ := each93_call (ρ := Value × Hp × Nat) (l + 2) (.func (.func 94) ⟨[.agg ⟨[x, y, z]⟩]⟩ ⟨[]⟩) y js nj (fun i => okJ js np nj (js.getD (i * 2) 0) (js.getD (i * 2 + 1) 0)) ((h2.keep a4 (Nat.le_refl _)).up a3) hnj (holds94 l hg1 hnj h2.1)
        (fun hp => holds94 l (hg1.nil (by simp only [pureV, pureA, pureL, Bool.and_eq_true] at hp ⊢; simp_all)) hnj h2.1)
      rw [c2]
      have p2 := joins_all (np := np) h2.1
      cases b2 with
      | false =>
        simp only [not_f, bindO_some, ifK_t, check_3]
        refine .inl ⟨.inr (.inr (.inr (Classical.byContradiction fun c => ?_))), H2, n2, rfl, by omega, a4.trans c4 a3⟩
        exact absurd (c1.2 (p2.2 c)) (by simp)
      | true =>
        have np2 := p2.1 (c1.1 rfl)
        have hb2 := hb1.keep c4 (by omega)
        have lz : loadV P H2 33 ⟨g, 0 + 2, none⟩ = some z := loadV_scalar hb2 agg33 rfl h3.hole.1 h3.hole.2
        simp only [not_t, bindO_some, ifK_f, fa35_2, addrV_eq, lz]
        obtain ⟨b3, H3, n3, d1, d2, d3, d4⟩ := each95_call (ρ := Value × Hp × Nat) (l + 2) (.func (.func 96) #[] #[]) z ks nk (fun i => okK (ks.getD (i * 5) 0) (ks.getD (i * 5 + 1) 0) (ks.getD (i * 5 + 2) 0) (ks.getD (i * 5 + 3) 0) (ks.getD (i * 5 + 4) 0)) ((h3.keep (a4.trans c4 a3) (Nat.le_refl _)).up (by omega)) hnk (holds96 l h3.1 H2 n2) (fun _ => holds96 l h3.1 _ _)
        rw [d2]
        have p3 : (∀ q, q < nk → okK (ks.getD (q * 5) 0) (ks.getD (q * 5 + 1) 0) (ks.getD (q * 5 + 2) 0) (ks.getD (q * 5 + 3) 0) (ks.getD (q * 5 + 4) 0)) ↔ ¬ ∃ q, q < nk ∧ KBad ks q := by
          have e : ∀ q, okK (ks.getD (q * 5) 0) (ks.getD (q * 5 + 1) 0) (ks.getD (q * 5 + 2) 0) (ks.getD (q * 5 + 3) 0) (ks.getD (q * 5 + 4) 0) ↔ ¬ KBad ks q := fun q => by
            unfold okK KBad okR; omega
          exact ⟨fun h ⟨q, q1, q2⟩ => (e q).1 (h q q1) q2, fun h q hq => (e q).2 fun c => h ⟨q, hq, c⟩⟩
        have kk : Keep n H H3 := (a4.trans c4 a3).trans d4 (by omega)
        cases b3 with
        | false =>
          simp only [not_f, bindO_some, check_3]
          refine .inl ⟨.inr (.inr (.inl (Classical.byContradiction fun c => ?_))), H3, n3, rfl, by omega, kk⟩
          exact absurd (d1.2 (p3.2 c)) (by simp)
        | true =>
          have np3 := p3.1 (d1.1 rfl)
          simp only [not_t, bindO_some, check_3]
          refine .inr ⟨?_, H3, n3, rfl, by omega, kk⟩
          rintro (h | h | h | h)
          · cases h
          · exact np1 h
          · exact np3 h
          · exact np2 h
theorem check_1 (l : Nat) {np nj nk : Nat} {ps js ks : List Int} {H : Hp} {n g : Nat} {x y z : Value} (hg : GroveP H n (.agg ⟨[x, y, z]⟩) np nj nk ps js ks) (hb : CellsAt H g 0 [x, y, z]) (hgn : g < n) (hnp : np ≤ 1000) (hnj : nj ≤ 1000) (hnk : nk ≤ 1000) :
    Says01 ((np = 0 ∨ nk = 0) ∨ GBad np nj nk ps js ks) (C60_1 (cal (l + 3)) KK (.pointer (some ⟨g, 0, none⟩)) (.bool false) H n) n H := by
  have hg0 := hg
  obtain ⟨x', y', z', hxyz, h1, h2, h3⟩ := hg
  cases hxyz
  unfold C60_1 B60_1
  have lx : loadV P H 31 ⟨g, 0 + 0, none⟩ = some x := loadV_scalar hb agg31 rfl h1.hole.1 h1.hole.2
  have lz : loadV P H 33 ⟨g, 0 + 2, none⟩ = some z := loadV_scalar hb agg33 rfl h3.hole.1 h3.hole.2
  have e1 : lenV P 31 x = some (.int .i64 np) := h1.len_eq und31
  have e3 : lenV P 33 z = some (.int .i64 nk) := h3.len_eq und33
  simp only [ifK_f, fa35_0, bindO_some, addrV_eq, lx, e1, binK_some bin_eql]
  cases c1 : decide ((np : Int) = 0) with
  | true =>
    simp only [ifK_t]
    rcases check_2 l hg0 hb hgn hnp hnj hnk true with ⟨_, q⟩ | ⟨q, _⟩
    · exact .inl ⟨.inl (.inl (by simpa using c1)), q⟩
    · exact absurd (.inl rfl) q
  | false =>
    simp only [ifK_f, fa35_2, bindO_some, addrV_eq, lz, e3, binK_some bin_eql]
    have hn : np ≠ 0 := by simpa using c1
    rcases check_2 l hg0 hb hgn hnp hnj hnk (decide ((nk : Int) = 0)) with ⟨q, q'⟩ | ⟨q, q'⟩
    · exact .inl ⟨by simpa [hn] using q, q'⟩
    · exact .inr ⟨by simpa [hn] using q, q'⟩
theorem check_spec (l : Nat) {np nj nk : Nat} {ps js ks : List Int} {H : Hp} {n : Nat} {v : Value} (hg : GroveP H n v np nj nk ps js ks) (hnp : np ≤ 1000) (hnj : nj ≤ 1000) (hnk : nk ≤ 1000) :
    Ret (C60_0 (cal (l + 3)) KK v H n) n H (.int .i64 (faultN np nj nk ps js ks)) := by
  have hg0 := hg
  obtain ⟨x, y, z, rfl, h1, h2, h3⟩ := hg
  unfold C60_0 B60_0
  simp only [boxK_eq, cellsV, ptr]
  have hk : Keep n H (H.set n (some (.cells [x, y, z] 35 false none))) := (Keep.refl n H).set (Nat.le_refl _) _
  have hb : CellsAt (H.set n (some (.cells [x, y, z] 35 false none))) n 0 [x, y, z] := CellsAt.new
  generalize H.set n (some (.cells [x, y, z] 35 false none)) = H1 at hk hb ⊢
  have lx : loadV P H1 31 ⟨n, 0 + 0, none⟩ = some x := loadV_scalar hb agg31 rfl h1.hole.1 h1.hole.2
  have ly : loadV P H1 32 ⟨n, 0 + 1, none⟩ = some y := loadV_scalar hb agg32 rfl h2.hole.1 h2.hole.2
  have lz : loadV P H1 33 ⟨n, 0 + 2, none⟩ = some z := loadV_scalar hb agg33 rfl h3.hole.1 h3.hole.2
  have e1 : lenV P 31 x = some (.int .i64 np) := h1.len_eq und31
  have e2 : lenV P 32 y = some (.int .i64 nj) := h2.len_eq und32
  have e3 : lenV P 33 z = some (.int .i64 nk) := h3.len_eq und33
  simp only [fa35_0, bindO_some, addrV_eq, lx, e1, binK_some bin_gtr]
  have big : (8 < np ∨ 16 < nj ∨ 3 < nk) → Ret (C60_1 (cal (l + 3)) KK (.pointer (some ⟨n, 0, none⟩)) (.bool true) H1 (n + 1)) n H (.int .i64 (faultN np nj nk ps js ks)) := fun h => by
    unfold faultN
    rw [if_pos h]
    exact ⟨H1, n + 1, rfl, by omega, hk⟩
  have small : ¬ (8 < np ∨ 16 < nj ∨ 3 < nk) → Ret (C60_1 (cal (l + 3)) KK (.pointer (some ⟨n, 0, none⟩)) (.bool false) H1 (n + 1)) n H (.int .i64 (faultN np nj nk ps js ks)) := fun h => by
    unfold faultN
    rw [if_neg h]
    rcases check_1 l (hg0.keep hk (show n ≤ n + 1 by omega)) hb (by omega) hnp hnj hnk with ⟨q, H', n', r1, r2, r3⟩ | ⟨q, H', n', r1, r2, r3⟩
    · refine ⟨H', n', ?_, by omega, hk.trans r3 (by omega)⟩
      rw [r1]
      rcases q with q | q
      · rw [if_pos q]
      · rw [if_pos q]; split <;> rfl
    · refine ⟨H', n', ?_, by omega, hk.trans r3 (by omega)⟩
      rw [r1, if_neg (fun c => q (.inl c)), if_neg (fun c => q (.inr c))]
  cases c1 : decide ((8 : Int) < (np : Int)) with
  | true => exact big (.inl (by have := of_decide_eq_true c1; omega))
  | false =>
    simp only [ifK_f, fa35_1, bindO_some, addrV_eq, ly, e2, binK_some bin_gtr]
    cases c2 : decide ((16 : Int) < (nj : Int)) with
    | true => exact big (.inr (.inl (by have := of_decide_eq_true c2; omega)))
    | false =>
      simp only [ifK_f, fa35_2, bindO_some, addrV_eq, lz, e3, binK_some bin_gtr]
      cases c3 : decide ((3 : Int) < (nk : Int)) with
      | true => exact big (.inr (.inr (by have := of_decide_eq_true c3; omega)))
      | false =>
        refine small ?_
        simp only [decide_eq_false_iff_not] at c1 c2 c3
        omega
theorem call60 (l : Nat) (a : Value) (H : Hp) (n : Nat) : (cal (l + 1)).call 60 [a] H n = C60_0 (cal l) KK a H n := by kernel_rfl
theorem check_call (l : Nat) {np nj nk : Nat} {ps js ks : List Int} {H : Hp} {n : Nat} {v : Value} (hg : GroveP H n v np nj nk ps js ks) (hnp : np ≤ 1000) (hnj : nj ≤ 1000) (hnk : nk ≤ 1000) :
    ∃ H' n', (∀ k : Value → Hp → Nat → Option ρ, callFK P (cal (l + 4)) 60 [v] H n k = k (.int .i64 (faultN np nj nk ps js ks)) H' n') ∧ n ≤ n' ∧ Keep n H H' := by
  obtain ⟨r, H', n', rfl, e1, e2, e3⟩ := callFK_spec (ρ := ρ) (P := P) (cal := cal (l + 4)) (f := 60) (args := [v]) (H := H) (n := n)
    (Pre := fun H n => GroveP H n v np nj nk ps js ks) (Q := fun r => r = .int .i64 (faultN np nj nk ps js ks))
    (fun H n h => ⟨_, by rw [call60]; exact check_spec l h hnp hnj hnk, rfl⟩) (fun r e _ => by subst e; rfl) hg (fun hp => hg.nil (by simp only [pureL, Bool.and_eq_true] at hp; exact hp.1))
  exact ⟨H', n', e1, e2, e3⟩
theorem call63 (l : Nat) (a : Value) (H : Hp) (n : Nat) : (cal (l + 1)).call 63 [a] H n = C63_0 (cal l) KK a H n := by kernel_rfl
theorem ref_call (l : Nat) {np nj nk : Nat} {ps js ks : List Int} {H : Hp} {n : Nat} {v : Value} (hg : GroveI H n v np nj nk ps js ks) :
    ∃ H' n', (∀ k : Value → Hp → Nat → Option ρ, callFK P (cal (l + 3)) 63 [v] H n k = k (.int .i64 (faultN np nj nk ps js ks)) H' n') ∧ n ≤ n' ∧ Keep n H H' := by
  obtain ⟨r, H', n', rfl, e1, e2, e3⟩ := callFK_spec (ρ := ρ) (P := P) (cal := cal (l + 3)) (f := 63) (args := [v]) (H := H) (n := n)
    (Pre := fun H n => GroveI H n v np nj nk ps js ks) (Q := fun r => r = .int .i64 (faultN np nj nk ps js ks))
    (fun H n h => ⟨_, by rw [call63]; exact fault_spec l h, rfl⟩) (fun r e _ => by subst e; rfl) hg (fun hp => hg.nil (by simp only [pureL, Bool.and_eq_true] at hp; exact hp.1))
  exact ⟨H', n', e1, e2, e3⟩
theorem call20 (l : Nat) (a : Value) (H : Hp) (n : Nat) : (cal (l + 1)).call 20 [a] H n = C20_0 (cal l) KK a H n := by kernel_rfl
theorem lawfault_spec (l : Nat) {np nj nk : Nat} {ps js ks : List Int} {H : Hp} {n : Nat} {v : Value} (hg : GroveI H n v np nj nk ps js ks) :
    Ret (C20_0 (cal (l + 3)) KK v H n) n H (.int .i64 (faultN np nj nk ps js ks)) := by
  have hg0 := hg
  obtain ⟨x, y, z, rfl, h1, h2, h3⟩ := hg.eq
  unfold C20_0 B20_0
  simp only [boxK_eq, cellsV, ptr]
  have hk : Keep n H (H.set n (some (.cells [x, y, z] 26 false none))) := (Keep.refl n H).set (Nat.le_refl _) _
  have hb : CellsAt (H.set n (some (.cells [x, y, z] 26 false none))) n 0 [x, y, z] := CellsAt.new
  generalize H.set n (some (.cells [x, y, z] 26 false none)) = H1 at hk hb ⊢
  have lg := load26 hb h1.hole.1 h2.hole.1 h3.hole.1
  simp only [bindO_some, addrV_eq, lg]
  obtain ⟨H2, n2, e1, e2, e3⟩ := ref_call (ρ := Value × Hp × Nat) l (hg0.keep hk (show n ≤ n + 1 by omega))
  rw [e1]
  exact ⟨H2, n2, rfl, by omega, hk.trans e3 (by omega)⟩
theorem lawfault_call (l : Nat) {np nj nk : Nat} {ps js ks : List Int} {H : Hp} {n : Nat} {v : Value} (hg : GroveI H n v np nj nk ps js ks) :
    ∃ H' n', (∀ k : Value → Hp → Nat → Option ρ, callFK P (cal (l + 4)) 20 [v] H n k = k (.int .i64 (faultN np nj nk ps js ks)) H' n') ∧ n ≤ n' ∧ Keep n H H' := by
  obtain ⟨r, H', n', rfl, e1, e2, e3⟩ := callFK_spec (ρ := ρ) (P := P) (cal := cal (l + 4)) (f := 20) (args := [v]) (H := H) (n := n)
    (Pre := fun H n => GroveI H n v np nj nk ps js ks) (Q := fun r => r = .int .i64 (faultN np nj nk ps js ks))
    (fun H n h => ⟨_, by rw [call20]; exact lawfault_spec l h, rfl⟩) (fun r e _ => by subst e; rfl) hg (fun hp => hg.nil (by simp only [pureL, Bool.and_eq_true] at hp; exact hp.1))
  exact ⟨H', n', e1, e2, e3⟩
end Go.Proofs.Ytakjjillnllocaa.spec
namespace Go.Proofs.Ytakjjillnllocaa.spec
open Go.Ev Go.Proofs.Ytakjjillnllocaa.nestFits Go.Proofs.Ytakjjillnllocaa.G
noncomputable def sumTo (f : Nat → Int) : Nat → Int
  | 0 => 0
  | i + 1 => sumTo f i + f i
theorem sumTo_same {f g : Nat → Int} : ∀ {i : Nat}, (∀ k, k < i → f k = g k) → sumTo f i = sumTo g i
  | 0, _ => rfl
  | i + 1, h => by
    simp only [sumTo]
    rw [sumTo_same (fun k hk => h k (by omega)), h i (by omega)]
theorem sumTo_zero {f : Nat → Int} {i : Nat} : ∀ {j : Nat}, i ≤ j → (∀ k, i ≤ k → k < j → f k = 0) → sumTo f j = sumTo f i
  | 0, h, _ => by rw [show i = 0 by omega]
  | j + 1, h, hz => by
    rcases Nat.eq_or_lt_of_le h with e | e
    · rw [e]
    · simp only [sumTo]
      rw [sumTo_zero (j := j) (by omega) (fun k h1 h2 => hz k h1 (by omega)), hz j (by omega) (by omega)]
      omega
theorem sumTo_range {f : Nat → Int} {c : Int} : ∀ {i : Nat}, (∀ k, k < i → 0 ≤ f k ∧ f k ≤ c) → 0 ≤ sumTo f i ∧ sumTo f i ≤ c * i
  | 0, _ => by simp [sumTo]
  | i + 1, h => by
    obtain ⟨h1, h2⟩ := sumTo_range (i := i) (fun k hk => h k (by omega))
    obtain ⟨g1, g2⟩ := h i (by omega)
    simp only [sumTo]
    have : c * ((i + 1 : Nat) : Int) = c * i + c := by rw [Int.natCast_add, Int.mul_add]; simp
    omega
theorem lows_sum (js ks : List Int) (nj kind at_ pad : Nat) : ∀ i : Nat, sumTo (fun p => (reach js ks nj kind at_ p).1) i = lows js ks nj kind at_ pad i + if pad < i then (reach js ks nj kind at_ pad).1 else 0
  | 0 => by simp [sumTo, lows]
  | i + 1 => by
    simp only [sumTo, lows, lows_sum js ks nj kind at_ pad i]
    by_cases h : i = pad
    · subst h
      rw [if_neg (by omega), if_pos rfl, if_pos (by omega)]
    · rw [if_neg (show ¬ (i : Int) = (pad : Int) by omega)]
      by_cases h2 : pad < i
      · rw [if_pos h2, if_pos (by omega)]; omega
      · rw [if_neg h2, if_neg (by omega)]
        omega
theorem highs_sum (js ks : List Int) (nj kind at_ pad : Nat) : ∀ i : Nat, sumTo (fun p => (reach js ks nj kind at_ p).2) i = highs js ks nj kind at_ pad i + if pad < i then (reach js ks nj kind at_ pad).2 else 0
  | 0 => by simp [sumTo, highs]
  | i + 1 => by
    simp only [sumTo, highs, highs_sum js ks nj kind at_ pad i]
    by_cases h : i = pad
    · subst h
      rw [if_neg (by omega), if_pos rfl, if_pos (by omega)]
    · rw [if_neg (show ¬ (i : Int) = (pad : Int) by omega)]
      by_cases h2 : pad < i
      · rw [if_pos h2, if_pos (by omega)]; omega
      · rw [if_neg h2, if_neg (by omega)]
        omega
theorem reach_own (js ks : List Int) (nj kind : Nat) (a : Int) : reach js ks nj kind a a = (ks.getD (kind * 5 + 1) 0, ks.getD (kind * 5 + 2) 0) := by
  unfold reach; rw [if_pos rfl]
def Inner (js : List Int) (nj np : Nat) : Prop := ∀ j, j < nj → ∀ a b, J js a b j → 0 ≤ a ∧ a < np ∧ 0 ≤ b ∧ b < np
theorem reach_far {js ks : List Int} {nj np kind a p : Nat} (h : Inner js nj np) (ha : a < np) (hp : np ≤ p) : reach js ks nj kind a p = (0, 0) := by
  unfold reach
  rw [if_neg (by omega), if_neg]
  rintro ⟨j, h1, h2⟩
  have := h j h1 _ _ h2
  omega
theorem fitsB_iff {js ks : List Int} {nj np nk kind a : Nat} (hs : Small ks nk) (hk : kind < nk) (ha : a < np) (hi : Inner js nj np) (hnp : np ≤ 11) :
    fitsB js ks nj np kind a ↔ sumTo (fun p => (reach js ks nj kind a p).1) 11 ≤ ks.getD (kind * 5) 0 ∧ ks.getD (kind * 5) 0 ≤ sumTo (fun p => (reach js ks nj kind a p).2) 11 := by
  have e1 : sumTo (fun p => (reach js ks nj kind a p).1) 11 = sumTo (fun p => (reach js ks nj kind a p).1) np := sumTo_zero hnp fun k h1 _ => by rw [reach_far hi ha h1]
  have e2 : sumTo (fun p => (reach js ks nj kind a p).2) 11 = sumTo (fun p => (reach js ks nj kind a p).2) np := sumTo_zero hnp fun k h1 _ => by rw [reach_far hi ha h1]
  rw [e1, e2, lows_sum js ks nj kind a a np, highs_sum js ks nj kind a a np, if_pos ha, if_pos ha, reach_own]
  obtain ⟨b1, b2, _⟩ := lows_small (js := js) (nj := nj) hs hk (a : Int) (a : Int) np
  obtain ⟨_, _, lo0, lohi, _⟩ := hs kind hk
  unfold fitsB someB
  rw [reach_own]
  constructor
  · rintro ⟨m, h1, h2, ⟨h3, h4⟩, h5, h6⟩
    simp only
    omega
  · simp only
    rintro ⟨h1, h2⟩
    by_cases c : ks.getD (kind * 5) 0 - highs js ks nj kind a a np ≤ ks.getD (kind * 5 + 1) 0
    · exact ⟨ks.getD (kind * 5 + 1) 0, by omega, by omega, ⟨by omega, by omega⟩, by omega, by omega⟩
    · exact ⟨ks.getD (kind * 5) 0 - highs js ks nj kind a a np, by omega, by omega, ⟨by omega, by omega⟩, by omega, by omega⟩
end Go.Proofs.Ytakjjillnllocaa.spec
