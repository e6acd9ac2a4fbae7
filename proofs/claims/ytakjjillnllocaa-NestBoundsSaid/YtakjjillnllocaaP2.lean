/- It is proved that the law NestBounds (P1.2: the bounds of all pads, and those that can be missed or overfull, with any layout of any grove, or the error) says true at every input of its domain; conditions: none. -/
import Derived.Test.YtakjjillnllocaaP1
namespace Go.Proofs.Ytakjjillnllocaa.spec
open Go Go.Ev Go.Proofs.Ytakjjillnllocaa.nestFits Go.Proofs.Ytakjjillnllocaa.G
set_option maxRecDepth 100000
variable {ρ : Type}
theorem guardD_ff {op : KD ρ → Option ρ} {ex : Extra} {H : Hp} {n : Nat} {k : KD ρ} : guardD (.bool false) false op ex H n k = op k := rfl
theorem guardD_tf {op : KD ρ → Option ρ} {ex : Extra} {H : Hp} {n : Nat} {k : KD ρ} : guardD (.bool true) false op ex H n k = k undef ex H n := rfl
theorem guardD_u {w : Bool} {op : KD ρ → Option ρ} {ex : Extra} {H : Hp} {n : Nat} {k : KD ρ} : guardD undef w op ex H n k = k undef ex H n := rfl
theorem isLayout_loop (l k : Nat) {np nj nk : Nat} {ps js ks ls : List Int} (good : Good np nj nk ps js ks) (hjs : js.length = nj * 2) (g : Nat) (x y z w : Value) :
    ∀ (m i : Nat) (H : Hp) (n : Nat), g < n → CellsAt H g 0 [x, y, z] → GroveI H n (.agg ⟨[x, y, z]⟩) np nj nk ps js ks → ListR H n w np ls → i ≤ np → np - i ≤ m →
    ∃ r, Ret (S58_1 (cal (l + 4)) k m w (.pointer (some ⟨g, 0, none⟩)) (.int .i64 i) H n) n H (.bool r) ∧ (r = true ↔ ∀ p, i ≤ p → p < np → ls.getD p 0 = -1 ∨ takesP js ks nj np nk p (ls.getD p 0)) := by
  have body : ∀ (b1 : Value → Value → Value → Hp → Nat → Res) (m i : Nat) (H : Hp) (n : Nat), g < n → CellsAt H g 0 [x, y, z] → GroveI H n (.agg ⟨[x, y, z]⟩) np nj nk ps js ks → ListR H n w np ls → i ≤ np →
      (∀ H' n', n ≤ n' → Keep n H H' → i < np → ∃ r, Ret (b1 w (.pointer (some ⟨g, 0, none⟩)) (.int .i64 ((i + 1 : Nat) : Int)) H' n') n' H' (.bool r) ∧ (r = true ↔ ∀ p, i + 1 ≤ p → p < np → ls.getD p 0 = -1 ∨ takesP js ks nj np nk p (ls.getD p 0))) →
      ∃ r, Ret (C58_1 (cal (l + 4)) k m b1 w (.pointer (some ⟨g, 0, none⟩)) (.int .i64 i) H n) n H (.bool r) ∧ (r = true ↔ ∀ p, i ≤ p → p < np → ls.getD p 0 = -1 ∨ takesP js ks nj np nk p (ls.getD p 0)) := by
    intro b1 m i H n hgn hb hg hw hi ih
    have np8 := good.np8
    have nk3 := good.nk3
    have nj16 := good.nj16
    unfold C58_1 B58_1
    rw [hw.len_eq, bindO_some, binK_some bin_lss, ifK_d]
    by_cases hlt : i < np
    · obtain ⟨rb, o, hix, _, hld⟩ := hw.at_ hlt
      have hI : I64 ((i : Int) + 1) := by unfold I64; omega
      have hcast : ((i : Int) + 1) = ((i + 1 : Nat) : Int) := by omega
      have go : (ls.getD i 0 = -1 ∨ takesP js ks nj np nk i (ls.getD i 0)) → ∀ (H' : Hp) (n' : Nat), n ≤ n' → Keep n H H' →
          ∃ r, Ret (b1 w (.pointer (some ⟨g, 0, none⟩)) (.int .i64 ((i + 1 : Nat) : Int)) H' n') n H (.bool r) ∧ (r = true ↔ ∀ p, i ≤ p → p < np → ls.getD p 0 = -1 ∨ takesP js ks nj np nk p (ls.getD p 0)) := by
        intro hok H' n' h1 h2
        obtain ⟨r, ⟨H2, n2, e1, e2, e3⟩, e4⟩ := ih H' n' h1 h2 hlt
        refine ⟨r, ⟨H2, n2, e1, by omega, h2.trans e3 h1⟩, e4.trans ⟨fun h p q1 q2 => ?_, fun h p q1 q2 => h p (by omega) q2⟩⟩
        rcases Nat.eq_or_lt_of_le q1 with q | q
        · subst q; exact hok
        · exact h p q q2
      have no : ¬ (ls.getD i 0 = -1 ∨ takesP js ks nj np nk i (ls.getD i 0)) → ∀ (H' : Hp) (n' : Nat), n ≤ n' → Keep n H H' →
          ∃ r, Ret (some (Value.bool false, H', n')) n H (.bool r) ∧ (r = true ↔ ∀ p, i ≤ p → p < np → ls.getD p 0 = -1 ∨ takesP js ks nj np nk p (ls.getD p 0)) :=
        fun hno H' n' h1 h2 => ⟨false, ⟨H', n', rfl, h1, h2⟩, ⟨fun h => (by cases h), fun h => absurd (h i (Nat.le_refl _) hlt) hno⟩⟩
      rw [if_pos (by omega), hix, bindO_some, addrV_eq, bindO_some, hld, bindO_some, binK_some bin_neq]
      cases c1 : decide (ls.getD i 0 = -1) with
      | true =>
        simp only [Bool.not_true, guardD_ft, guardD_u, pickV_f, bindO_some, ifK_f, binK_some (bin_add hI), hcast]
        exact go (.inl (of_decide_eq_true c1)) H n (Nat.le_refl _) (Keep.refl _ _)
      | false =>
        have hg0 := hg
        obtain ⟨x', y', z', hxyz, h1, h2, h3⟩ := hg.eq
        cases hxyz
        have lz : loadV P H 24 ⟨g, 0 + 2, none⟩ = some z := loadV_scalar hb agg24 rfl h3.hole.1 h3.hole.2
        have elz : lenV P 24 z = some (.int .i64 nk) := h3.len_eq und24
        have hIk : I64 ((nk : Int) - 1) := by unfold I64; omega
        have l26 := load26 hb h1.hole.1 h2.hole.1 h3.hole.1
        simp only [Bool.not_false, guardD_tt, hix, bindO_some, addrV_eq, hld, fa26_2, lz, elz, binK_some (bin_sub hIk), in_call (l + 3)]
        cases c2 : decide (0 ≤ ls.getD i 0 ∧ ls.getD i 0 ≤ (nk : Int) - 1) with
        | false =>
          simp only [not_f, bindO_some, guardD_tf, pickV_t, ifK_t]
          refine no ?_ H n (Nat.le_refl _) (Keep.refl _ _)
          rintro (h | ⟨q1, q2, _⟩)
          · exact of_decide_eq_false c1 h
          · exact of_decide_eq_false c2 ⟨q1, by omega⟩
        | true =>
          obtain ⟨p1, p2⟩ := of_decide_eq_true c2
          obtain ⟨kd, hkd⟩ : ∃ kd : Nat, ls.getD i 0 = kd := ⟨(ls.getD i 0).toNat, by omega⟩
          have hk : kd < nk := by omega
          obtain ⟨r, H2, n2, d1, d2, d3, d4⟩ := fitsR_call (ρ := Value × Hp × Nat) l (show nj ≤ KK by unfold KK; omega) (show np ≤ 100 by omega) kd hk (i : Int) good.small hg0
          rw [hkd] at c1
          simp only [not_t, bindO_some, guardD_ff, hix, addrV_eq, hld, l26, hkd, d2]
          have ag := fits_agree good hjs hlt hk
          have tk : takesP js ks nj np nk i (kd : Int) ↔ r = true := by
            unfold takesP
            rw [Int.toNat_natCast, ag, d1]
            exact ⟨fun h => h.2.2, fun h => ⟨by omega, by omega, h⟩⟩
          cases r with
          | true =>
            simp only [not_t, bindO_some, pickV_t, pickV_f, ifK_f, binK_some (bin_add hI), hcast]
            refine go ?_ H2 n2 d3 d4
            rw [hkd]; exact .inr (tk.2 rfl)
          | false =>
            simp only [not_f, bindO_some, pickV_t, pickV_f, ifK_t]
            refine no ?_ H2 n2 d3 d4
            rw [hkd]
            rintro (h | h)
            · exact of_decide_eq_false c1 h
            · exact absurd (tk.1 h) (by simp)
    · rw [if_neg (by omega)]
      exact ⟨true, ⟨H, n, rfl, Nat.le_refl _, Keep.refl _ _⟩, ⟨fun _ p q1 q2 => by omega, fun _ => rfl⟩⟩
  intro m
  induction m with
  | zero =>
    intro i H n h1 h2 h3 h4 h5 h6
    exact body _ 0 i H n h1 h2 h3 h4 h5 (fun _ _ _ _ h => by omega)
  | succ m ih =>
    intro i H n h1 h2 h3 h4 h5 h6
    exact body _ (m + 1) i H n h1 h2 h3 h4 h5 (fun H' n' q1 q2 q3 => ih (i + 1) H' n' (by omega) (h2.keep q2 h1) (h3.keep q2 q1) (h4.keep q2 q1) (by omega) (by omega))
theorem isLayout_spec (l : Nat) {np nj nk nl : Nat} {ps js ks ls : List Int} (good : Good np nj nk ps js ks) {H : Hp} {n : Nat} {v w : Value} (hg : GroveI H n v np nj nk ps js ks) (hw : ListR H n w nl ls) :
    ∃ r, Ret (C58_0 (cal (l + 4)) KK v w H n) n H (.bool r) ∧ (r = true ↔ nl = np ∧ laidOk js ks ls nj np nk) := by
  have hg0 := hg
  obtain ⟨x, y, z, rfl, h1, h2, h3⟩ := hg.eq
  unfold C58_0 B58_0
  generalize hS : S58_1 (cal (l + 4)) KK KK = S
  rw [boxK_eq]
  simp only [cellsV, ptr]
  have hk : Keep n H (H.set n (some (.cells [x, y, z] 26 false none))) := (Keep.refl n H).set (Nat.le_refl _) _
  have hb : CellsAt (H.set n (some (.cells [x, y, z] 26 false none))) n 0 [x, y, z] := CellsAt.new
  generalize H.set n (some (.cells [x, y, z] 26 false none)) = H1 at hk hb ⊢
  have lx : loadV P H1 22 ⟨n, 0 + 0, none⟩ = some x := loadV_scalar hb agg22 rfl h1.hole.1 h1.hole.2
  have elx : lenV P 22 x = some (.int .i64 np) := h1.len_eq und22
  rw [hw.len_eq, bindO_some, fa26_0, bindO_some, addrV_eq, bindO_some, lx, bindO_some, elx, bindO_some, binK_some bin_neq]
  cases c1 : decide ((nl : Int) = (np : Int)) with
  | false =>
    rw [Bool.not_false, ifK_t]
    exact ⟨false, ⟨H1, n + 1, rfl, by omega, hk⟩, ⟨fun h => (by cases h), fun h => absurd (by omega) (of_decide_eq_false c1)⟩⟩
  | true =>
    have e : nl = np := by have := of_decide_eq_true c1; omega
    subst e
    rw [Bool.not_true, ifK_f, ← hS]
    obtain ⟨r, ⟨H', n', e1, e2, e3⟩, e4⟩ := isLayout_loop l KK good h2.1 n x y z w KK 0 H1 (n + 1) (by omega) hb (hg0.keep hk (by omega)) (hw.keep hk (by omega)) (by omega) (by have := good.np8; unfold KK; omega)
    exact ⟨r, ⟨H', n', e1, by omega, hk.trans e3 (by omega)⟩, e4.trans ⟨fun h => ⟨rfl, fun p hp => h p (Nat.zero_le _) hp⟩, fun h p _ hp => h.2 p hp⟩⟩
theorem call58 (l : Nat) (a b : Value) (H : Hp) (n : Nat) : (cal (l + 1)).call 58 [a, b] H n = C58_0 (cal l) KK a b H n := by kernel_rfl
theorem isLayout_call (l : Nat) {np nj nk nl : Nat} {ps js ks ls : List Int} (good : Good np nj nk ps js ks) {H : Hp} {n : Nat} {v w : Value} (hg : GroveI H n v np nj nk ps js ks) (hw : ListR H n w nl ls) :
    ∃ (r : Bool) (H' : Hp) (n' : Nat), (r = true ↔ nl = np ∧ laidOk js ks ls nj np nk) ∧ (∀ k : Value → Hp → Nat → Option ρ, callFK P (cal (l + 5)) 58 [v, w] H n k = k (.bool r) H' n') ∧ n ≤ n' ∧ Keep n H H' := by
  obtain ⟨r, H', n', ⟨b, rfl, hb⟩, e1, e2, e3⟩ := callFK_spec (ρ := ρ) (P := P) (cal := cal (l + 5)) (f := 58) (args := [v, w]) (H := H) (n := n)
    (Pre := fun H n => GroveI H n v np nj nk ps js ks ∧ ListR H n w nl ls) (Q := fun r => ∃ b : Bool, r = .bool b ∧ (b = true ↔ nl = np ∧ laidOk js ks ls nj np nk))
    (fun H n h => by
      obtain ⟨r, h1, h2⟩ := isLayout_spec l good h.1 h.2
      exact ⟨.bool r, by rw [call58]; exact h1, r, rfl, h2⟩) (fun r ⟨b, e, _⟩ _ => by subst e; rfl) ⟨hg, hw⟩ (fun hp => by
        simp only [pureL, Bool.and_eq_true] at hp
        exact ⟨hg.nil hp.1, hw.nil hp.2.1⟩)
  exact ⟨b, H', n', hb, e1, e2, e3⟩
theorem placed_spec (l : Nat) {np nj nk nl : Nat} {ps js ks ls : List Int} {H : Hp} {n : Nat} {v w : Value} (hg : GroveI H n v np nj nk ps js ks) (hw : ListR H n w nl ls) :
    Ret (C25_0 (cal (l + 5)) KK v w H n) n H (.int .i64 (placedN np nj nk nl ps js ks ls)) := by
  have hg0 := hg
  obtain ⟨x, y, z, rfl, h1, h2, h3⟩ := hg.eq
  unfold C25_0 B25_0
  rw [boxK_eq]
  simp only [cellsV, ptr]
  have hk : Keep n H (H.set n (some (.cells [x, y, z] 26 false none))) := (Keep.refl n H).set (Nat.le_refl _) _
  have hb : CellsAt (H.set n (some (.cells [x, y, z] 26 false none))) n 0 [x, y, z] := CellsAt.new
  generalize H.set n (some (.cells [x, y, z] 26 false none)) = H1 at hk hb ⊢
  have ld : ∀ H2, CellsAt H2 n 0 [x, y, z] → loadV P H2 26 ⟨n, 0, none⟩ = some (.agg ⟨[x, y, z]⟩) := fun H2 h => load26 h h1.hole.1 h2.hole.1 h3.hole.1
  have hg1 : GroveI H1 (n + 1) (.agg ⟨[x, y, z]⟩) np nj nk ps js ks := hg0.keep hk (by omega)
  obtain ⟨H2, n2, e1, e2, e3⟩ := lawfault_call (ρ := Value × Hp × Nat) (l + 1) hg1
  have kk : Keep n H H2 := hk.trans e3 (by omega)
  rw [addrV_eq, bindO_some, ld H1 hb, bindO_some, e1, binK_some bin_neq]
  unfold placedN
  by_cases he : faultN np nj nk ps js ks = 0
  · have d0 : decide (faultN np nj nk ps js ks = 0) = true := decide_eq_true he
    have good := good_of he
    obtain ⟨r, H3, n3, f1, f2, f3, f4⟩ := isLayout_call (ρ := Value × Hp × Nat) l good (hg1.keep e3 e2) (hw.keep kk (show n ≤ n2 by omega))
    rw [d0, Bool.not_true, ifK_f, bindO_some, ld H2 (hb.keep e3 (by omega)), bindO_some, f2, if_neg (fun h => h he)]
    cases r with
    | true =>
      rw [not_t, bindO_some, ifK_f, if_pos (f1.1 rfl)]
      exact ⟨H3, n3, rfl, by omega, kk.trans f4 (by omega)⟩
    | false =>
      rw [not_f, bindO_some, ifK_t, if_neg (fun h => absurd (f1.2 h) (by simp))]
      exact ⟨H3, n3, rfl, by omega, kk.trans f4 (by omega)⟩
  · have d0 : decide (faultN np nj nk ps js ks = 0) = false := decide_eq_false he
    rw [d0, Bool.not_false, ifK_t, if_pos he]
    exact ⟨H2, n2, rfl, by omega, kk⟩
theorem call25 (l : Nat) (a b : Value) (H : Hp) (n : Nat) : (cal (l + 1)).call 25 [a, b] H n = C25_0 (cal l) KK a b H n := by kernel_rfl
theorem placedN_call (l : Nat) {np nj nk nl : Nat} {ps js ks ls : List Int} {H : Hp} {n : Nat} {v w : Value} (hg : GroveI H n v np nj nk ps js ks) (hw : ListR H n w nl ls) :
    ∃ H' n', (∀ k : Value → Hp → Nat → Option ρ, callFK P (cal (l + 6)) 25 [v, w] H n k = k (.int .i64 (placedN np nj nk nl ps js ks ls)) H' n') ∧ n ≤ n' ∧ Keep n H H' := by
  obtain ⟨r, H', n', rfl, e1, e2, e3⟩ := callFK_spec (ρ := ρ) (P := P) (cal := cal (l + 6)) (f := 25) (args := [v, w]) (H := H) (n := n)
    (Pre := fun H n => GroveI H n v np nj nk ps js ks ∧ ListR H n w nl ls) (Q := fun r => r = .int .i64 (placedN np nj nk nl ps js ks ls))
    (fun H n h => ⟨_, by rw [call25]; exact placed_spec l h.1 h.2, rfl⟩) (fun r e _ => by subst e; rfl) ⟨hg, hw⟩ (fun hp => by
        simp only [pureL, Bool.and_eq_true] at hp
        exact ⟨hg.nil hp.1, hw.nil hp.2.1⟩)
  exact ⟨H', n', e1, e2, e3⟩
end Go.Proofs.Ytakjjillnllocaa.spec
namespace Go.Proofs.Ytakjjillnllocaa.spec
open Go Go.Ev Go.Proofs.Ytakjjillnllocaa.nestFits Go.Proofs.Ytakjjillnllocaa.G
set_option maxRecDepth 100000
variable {ρ : Type}
theorem min70 (a b : Int) (H : Hp) (n : Nat) (k : Value → Hp → Nat → Option ρ) :
    builtinK P .min [3, 3] (Go.Call.mk (Go.Callee.builtin Go.Builtin.min) #[(Go.Operand.tmp 33), (Go.Operand.tmp 34)] #[3, 3]) 3 [.int .i64 a, .int .i64 b] H n k = k (.int .i64 (min a b)) H n := by
  have h : min a b = if b < a then b else a := by omega
  rw [h]
  rfl
theorem build55v (a b : Int) : buildP P 55 [(0, .int .i64 a), (1, .int .i64 b)] = some (.agg ⟨[.int .i64 a, .int .i64 b]⟩) := by kernel_rfl
theorem res70 (H : Hp) (b : Nat) : resV P (Tr.set Tr.nil 8 (some (.pointer (some ⟨b, 0, none⟩)))) H results70 = (match loadV P H 55 ⟨b, 0, none⟩ with
  | some v => some [v]
  | none => none) := by kernel_rfl
theorem end70 {H : Hp} {n b : Nat} {u w : Int} {c : List Value} (hg : H.get b = some (.cells c 55 false none)) (hc : c.length = 2) :
    (bindO (storeP P 55 (.pointer (some ⟨b, 0, none⟩)) (.agg ⟨[.int .i64 u, .int .i64 w]⟩) H) fun H' => bindO (resV P (Tr.set Tr.nil 8 (some (.pointer (some ⟨b, 0, none⟩)))) H' results70) fun vs => some (oneV vs, H', n)) =
      some (.agg ⟨[.int .i64 u, .int .i64 w]⟩, H.set b (some (.cells [.int .i64 u, .int .i64 w] 55 false none)), n) := by
  have hst := storeN_whole (vs := [.int .i64 u, .int .i64 w]) hg (by rw [hc]; rfl) rfl
  have hld : loadV P (H.set b (some (.cells [.int .i64 u, .int .i64 w] 55 false none))) 55 ⟨b, 0, none⟩ = some (.agg ⟨[.int .i64 u, .int .i64 w]⟩) :=
    loadV_agg (o := 0) (k := 0) (CellsAt.new (n := b)) agg55 sz55 (by simp) rfl
  rw [store55, hst, bindO_some, res70, hld]
  rfl
theorem cells_of {H : Hp} {b : Nat} {vs : List Value} {e : TypeId} {ro : Bool} {vec : Option Nat} (h : H.get b = some (.cells vs e ro vec)) : CellsAt H b 0 vs :=
  ⟨_, vs, h, rfl, fun k v h => by simpa using h⟩
structure PartAt (H0 H : Hp) (base n g : Nat) (x y z : Value) (lo hi r1 r2 : Int) : Prop where
  keep : Keep base H0 H
  below : base + 3 ≤ g
  top : g < n
  box : H.get base = some (.cells [x, y, z] 26 false none)
  res : H.get (base + 1) = some (.cells [.int .i64 0, .int .i64 0] 55 false none)
  out : H.get (base + 2) = some (.cells [.int .i64 lo, .int .i64 hi] 55 false none)
  row : H.get g = some (.cells [.int .i64 r1, .int .i64 r2] 55 false none)
theorem PartAt.go {H0 H H' : Hp} {base n n' g : Nat} {x y z : Value} {lo hi r1 r2 : Int} (h : PartAt H0 H base n g x y z lo hi r1 r2) (hk : Keep n H H') (hn : n ≤ n') : PartAt H0 H' base n' g x y z lo hi r1 r2 := by
  have := h.below
  have := h.top
  exact ⟨h.keep.trans hk (by omega), h.below, by omega, (hk _ (by omega)).trans h.box, (hk _ (by omega)).trans h.res, (hk _ (by omega)).trans h.out, (hk _ (by omega)).trans h.row⟩
theorem PartAt.put {H0 H : Hp} {base n g : Nat} {x y z : Value} {lo hi r1 r2 : Int} (h : PartAt H0 H base n g x y z lo hi r1 r2) (u w : Int) : PartAt H0 (H.set (base + 2) (some (.cells [.int .i64 u, .int .i64 w] 55 false none))) base n g x y z u w r1 r2 := by
  have := h.below
  refine ⟨h.keep.set (by omega) _, h.below, h.top, ?_, ?_, ?_, ?_⟩
  · rw [Tr.get_set, if_neg (by omega)]; exact h.box
  · rw [Tr.get_set, if_neg (by omega)]; exact h.res
  · rw [Tr.get_set, if_pos rfl]
  · rw [Tr.get_set, if_neg (by omega)]; exact h.row
def PartTo (A B a lo hi lo' hi' : Int) : Prop := (max a A ≤ B ∧ lo' = min lo (max a A) ∧ hi' = B) ∨ (B < max a A ∧ lo' = lo ∧ hi' = hi)
theorem part_loop (l k : Nat) {np nj nk : Nat} {ps js ks : List Int} (hnj : nj ≤ KK) (hnp : np ≤ 100) (kind : Nat) (hk : kind < nk) (at_ pad : Int) (hs : Small ks nk) {H0 : Hp} {base g : Nat} {x y z : Value} {r1 r2 A B : Int} (hr : r2 ≤ 1000) (hB : B ≤ r2)
    (hg : GroveI H0 base (.agg ⟨[x, y, z]⟩) np nj nk ps js ks) (hAB : ∀ a, 0 ≤ a → a ≤ r2 → r1 ≤ a → (someB js ks nj np kind at_ pad a ↔ A ≤ a ∧ a ≤ B)) :
    ∀ (m : Nat) (a lo hi : Int) (H : Hp) (n : Nat), PartAt H0 H base n g x y z lo hi r1 r2 → 0 ≤ a → r1 ≤ a → a ≤ r2 + 1 → r2 + 1 - a ≤ m →
    ∃ lo' hi', PartTo A B a lo hi lo' hi' ∧ Ret (S70_1 (cal (l + 3)) k m (.int .i64 kind) (.int .i64 at_) (.int .i64 pad) (.pointer (some ⟨base, 0, none⟩)) (.pointer (some ⟨base + 1, 0, none⟩)) (.pointer (some ⟨base + 2, 0, none⟩)) (.pointer (some ⟨g, 0, none⟩)) (.int .i64 a) H n) base H0 (.agg ⟨[.int .i64 lo', .int .i64 hi']⟩) := by
  have body : ∀ (b1 : Value → Value → Value → Value → Value → Value → Value → Value → Hp → Nat → Res) (m : Nat) (a lo hi : Int) (H : Hp) (n : Nat), PartAt H0 H base n g x y z lo hi r1 r2 → 0 ≤ a → r1 ≤ a → a ≤ r2 + 1 →
      (∀ H' n' lo2 hi2, PartAt H0 H' base n' g x y z lo2 hi2 r1 r2 → a ≤ r2 → ∃ lo' hi', PartTo A B (a + 1) lo2 hi2 lo' hi' ∧
        Ret (b1 (.int .i64 kind) (.int .i64 at_) (.int .i64 pad) (.pointer (some ⟨base, 0, none⟩)) (.pointer (some ⟨base + 1, 0, none⟩)) (.pointer (some ⟨base + 2, 0, none⟩)) (.pointer (some ⟨g, 0, none⟩)) (.int .i64 (a + 1)) H' n') base H0 (.agg ⟨[.int .i64 lo', .int .i64 hi']⟩)) →
      ∃ lo' hi', PartTo A B a lo hi lo' hi' ∧ Ret (C70_1 (cal (l + 3)) k m b1 (.int .i64 kind) (.int .i64 at_) (.int .i64 pad) (.pointer (some ⟨base, 0, none⟩)) (.pointer (some ⟨base + 1, 0, none⟩)) (.pointer (some ⟨base + 2, 0, none⟩)) (.pointer (some ⟨g, 0, none⟩)) (.int .i64 a) H n) base H0 (.agg ⟨[.int .i64 lo', .int .i64 hi']⟩) := by
    intro b1 m a lo hi H n st ha har ha2 ih
    have hbel := st.below
    have htop := st.top
    have lr : loadV P H 3 ⟨g, 0 + 1, none⟩ = some (.int .i64 r2) := loadV_int (cells_of st.row) agg3 rfl
    obtain ⟨x', y', z', hxyz, h1, h2, h3⟩ := hg.eq
    cases hxyz
    unfold C70_1 B70_1
    rw [fa55_1, bindO_some, addrV_eq, bindO_some, lr, bindO_some, binK_some bin_leq, ifK_d]
    by_cases hle : a ≤ r2
    · have hI : I64 (a + 1) := by unfold I64; omega
      rw [if_pos hle, addrV_eq, bindO_some, load26 (cells_of st.box) h1.hole.1 h2.hole.1 h3.hole.1, bindO_some]
      obtain ⟨r, H1, n1, hrr, e, e2, e3⟩ := some_call (ρ := Value × Hp × Nat) l hnj hnp kind hk at_ pad a (by omega) hs (hg.keep st.keep (show base ≤ n by omega))
      have s1 := st.go e3 e2
      rw [e]
      have hq := hAB a ha hle har
      cases r with
      | true =>
        have hin := hq.1 (hrr.1 rfl)
        obtain ⟨lo', hi', p1, p2⟩ := ih _ n1 (min lo a) a (s1.put (min lo a) a) hle
        have l0 : loadV P H1 3 ⟨base + 2, 0 + 0, none⟩ = some (.int .i64 lo) := loadV_int (cells_of s1.out) agg3 rfl
        rw [ifK_t, fa55_0, bindO_some, addrV_eq, bindO_some, l0, bindO_some, min70, build55v, bindO_some, store55, storeN_whole (c := [.int .i64 lo, .int .i64 hi]) (vs := [.int .i64 (min lo a), .int .i64 a]) (e := 55) (vec := none) s1.out rfl rfl, bindO_some]
        unfold C70_2 B70_2
        rw [binK_some (bin_add hI)]
        refine ⟨lo', hi', ?_, p2⟩
        unfold PartTo at p1 ⊢
        omega
      | false =>
        have hout : ¬ (A ≤ a ∧ a ≤ B) := fun h => absurd (hrr.2 (hq.2 h)) (by simp)
        obtain ⟨lo', hi', p1, p2⟩ := ih H1 n1 lo hi s1 hle
        rw [ifK_f]
        unfold C70_2 B70_2
        rw [binK_some (bin_add hI)]
        refine ⟨lo', hi', ?_, p2⟩
        unfold PartTo at p1 ⊢
        omega
    · have lo9 : loadV P H 55 ⟨base + 2, 0, none⟩ = some (.agg ⟨[.int .i64 lo, .int .i64 hi]⟩) := loadV_agg (o := 0) (k := 0) (cells_of st.out) agg55 sz55 (by simp) rfl
      rw [if_neg hle, addrV_eq, bindO_some, lo9, bindO_some, end70 st.res rfl]
      refine ⟨lo, hi, ?_, _, _, rfl, by omega, st.keep.set (by omega) _⟩
      unfold PartTo
      omega
  intro m
  induction m with
  | zero =>
    intro a lo hi H n h1 h2 h3 h4 h5
    exact body _ 0 a lo hi H n h1 h2 h3 h4 (fun _ _ _ _ _ h => by omega)
  | succ m ih =>
    intro a lo hi H n h1 h2 h3 h4 h5
    exact body _ (m + 1) a lo hi H n h1 h2 h3 h4 (fun H' n' lo2 hi2 q1 q2 => ih (a + 1) lo2 hi2 H' n' q1 (by omega) (by omega) (by omega) (by omega))
theorem part_spec (l : Nat) {np nj nk : Nat} {ps js ks : List Int} (hnj : nj ≤ KK) (hnp : np ≤ 100) (kind : Nat) (hk : kind < nk) (at_ pad : Int) (hs : Small ks nk) {A B : Int}
    (hAB : ∀ a, 0 ≤ a → a ≤ (reach js ks nj kind at_ pad).2 → (reach js ks nj kind at_ pad).1 ≤ a → (someB js ks nj np kind at_ pad a ↔ A ≤ a ∧ a ≤ B)) (hA : (reach js ks nj kind at_ pad).1 ≤ A) (hle : A ≤ B) (hB : B ≤ (reach js ks nj kind at_ pad).2)
    {H : Hp} {n : Nat} {v : Value} (hg : GroveI H n v np nj nk ps js ks) :
    Ret (C70_0 (cal (l + 3)) KK v (.int .i64 kind) (.int .i64 at_) (.int .i64 pad) H n) n H (.agg ⟨[.int .i64 A, .int .i64 B]⟩) := by
  have hg0 := hg
  obtain ⟨x, y, z, rfl, h1, h2, h3⟩ := hg.eq
  obtain ⟨r1, r2, r3⟩ := reach_small (js := js) (nj := nj) hs hk at_ pad
  unfold C70_0 B70_0
  generalize hS : S70_1 (cal (l + 3)) KK KK = S
  rw [boxK_eq, allocK_eq zero55, build55v, bindO_some, allocK_eq zero55, ptr, ptr, ptr, store55]
  simp only [cellsV]
  rw [storeN_whole (c := [.int .i64 0, .int .i64 0]) (vs := [.int .i64 2000, .int .i64 (-1)]) (e := 55) (vec := none) (by rw [Tr.get_set, if_pos rfl]) rfl rfl, bindO_some]
  generalize hH1 : (((H.set n (some (.cells [x, y, z] 26 false none))).set (n + 1) (some (.cells [.int .i64 0, .int .i64 0] 55 false none))).set (n + 1 + 1) (some (.cells [.int .i64 0, .int .i64 0] 55 false none))).set (n + 1 + 1) (some (.cells [.int .i64 2000, .int .i64 (-1)] 55 false none)) = H1
  have k1 : Keep n H H1 := fun b hb => by rw [← hH1, Tr.get_set, if_neg (by omega), Tr.get_set, if_neg (by omega), Tr.get_set, if_neg (by omega), Tr.get_set, if_neg (by omega)]
  have p0 : H1.get n = some (.cells [x, y, z] 26 false none) := by rw [← hH1, Tr.get_set, if_neg (by omega), Tr.get_set, if_neg (by omega), Tr.get_set, if_neg (by omega), Tr.get_set, if_pos rfl]
  have p1 : H1.get (n + 1) = some (.cells [.int .i64 0, .int .i64 0] 55 false none) := by rw [← hH1, Tr.get_set, if_neg (by omega), Tr.get_set, if_neg (by omega), Tr.get_set, if_pos rfl]
  have p2 : H1.get (n + 2) = some (.cells [.int .i64 2000, .int .i64 (-1)] 55 false none) := by rw [← hH1, Tr.get_set, if_pos rfl]
  clear hH1
  rw [addrV_eq, bindO_some, load26 (cells_of p0) h1.hole.1 h2.hole.1 h3.hole.1, bindO_some]
  obtain ⟨H2, n2, e, e2, e3⟩ := reach_call (ρ := Value × Hp × Nat) (l + 1) (hg0.keep k1 (show n ≤ n + 1 + 1 + 1 by omega)) hnj kind hk at_ pad
  rw [e, box55]
  have hk55 := keep55 (H := H2) (n := n2) (a := some (.cells [.int .i64 0, .int .i64 0] 55 false none)) (b := some (.cells [.int .i64 (reach js ks nj kind at_ pad).1, .int .i64 (reach js ks nj kind at_ pad).2] 55 false none))
  have hnew : ((H2.set n2 (some (.cells [.int .i64 0, .int .i64 0] 55 false none))).set n2 (some (.cells [.int .i64 (reach js ks nj kind at_ pad).1, .int .i64 (reach js ks nj kind at_ pad).2] 55 false none))).get n2 = some (.cells [.int .i64 (reach js ks nj kind at_ pad).1, .int .i64 (reach js ks nj kind at_ pad).2] 55 false none) := by rw [Tr.get_set, if_pos rfl]
  generalize (H2.set n2 (some (.cells [.int .i64 0, .int .i64 0] 55 false none))).set n2 (some (.cells [.int .i64 (reach js ks nj kind at_ pad).1, .int .i64 (reach js ks nj kind at_ pad).2] 55 false none)) = H3 at hk55 hnew ⊢
  have k13 : Keep (n + 1 + 1 + 1) H1 H3 := e3.trans hk55 e2
  have st : PartAt H H3 n (n2 + 1) n2 x y z 2000 (-1) (reach js ks nj kind at_ pad).1 (reach js ks nj kind at_ pad).2 :=
    ⟨k1.trans k13 (by omega), by omega, by omega, (k13 _ (by omega)).trans p0, (k13 _ (by omega)).trans p1, (k13 _ (by omega)).trans p2, hnew⟩
  have l0 : loadV P H3 3 ⟨n2, 0 + 0, none⟩ = some (.int .i64 (reach js ks nj kind at_ pad).1) := loadV_int (cells_of hnew) agg3 rfl
  rw [fa55_0, bindO_some, addrV_eq, bindO_some, l0, bindO_some, ← hS]
  obtain ⟨lo', hi', q1, q2⟩ := part_loop l KK hnj hnp kind hk at_ pad hs r3 hB hg0 hAB KK (reach js ks nj kind at_ pad).1 2000 (-1) H3 (n2 + 1) st r1 (Int.le_refl _) (by omega) (by unfold KK; omega)
  unfold PartTo at q1
  rw [show A = lo' by omega, show B = hi' by omega]
  exact q2
end Go.Proofs.Ytakjjillnllocaa.spec
namespace Go.Proofs.Ytakjjillnllocaa.spec
open Go Go.Ev Go.Proofs.Ytakjjillnllocaa.nestFits Go.Proofs.Ytakjjillnllocaa.G
set_option maxRecDepth 100000
variable {ρ : Type}
theorem part_ext {np nj nk p q kd : Nat} {ps js ks : List Int} (good : Good np nj nk ps js ks) (hjs : js.length = nj * 2) (hp : p < np) (hq : q < np) (hkd : kd < nk) (hfit : fitsB js ks nj np kd p) :
    (reach js ks nj kd p q).1 ≤ ext (ks.getD (kd * 5) 0) (shP js ks nj np p kd) 0 q ∧ ext (ks.getD (kd * 5) 0) (shP js ks nj np p kd) 0 q ≤ ext (ks.getD (kd * 5) 0) (shP js ks nj np p kd) 1 q ∧ ext (ks.getD (kd * 5) 0) (shP js ks nj np p kd) 1 q ≤ (reach js ks nj kd p q).2 ∧
    ∀ a, 0 ≤ a → a ≤ (reach js ks nj kd p q).2 → (reach js ks nj kd p q).1 ≤ a → (someB js ks nj np kd p q a ↔ ext (ks.getD (kd * 5) 0) (shP js ks nj np p kd) 0 q ≤ a ∧ a ≤ ext (ks.getD (kd * 5) 0) (shP js ks nj np p kd) 1 q) := by
  have hi := good.inner hjs
  have np8 := good.np8
  obtain ⟨g1, g2⟩ := share_reach (ks := ks) (kd := kd) hi np8 hp q
  have t0 : total (shP js ks nj np p kd) 0 = sumTo (fun q => (reach js ks nj kd p q).1) 8 := sumTo_same (fun q _ => (share_reach hi np8 hp q).1)
  have t1 : total (shP js ks nj np p kd) 1 = sumTo (fun q => (reach js ks nj kd p q).2) 8 := sumTo_same (fun q _ => (share_reach hi np8 hp q).2)
  have e0 : sumTo (fun q => (reach js ks nj kd p q).1) 8 = sumTo (fun q => (reach js ks nj kd p q).1) np := sumTo_zero np8 fun k h1 _ => by rw [reach_far hi hp h1]
  have e1 : sumTo (fun q => (reach js ks nj kd p q).2) 8 = sumTo (fun q => (reach js ks nj kd p q).2) np := sumTo_zero np8 fun k h1 _ => by rw [reach_far hi hp h1]
  have l0 := lows_sum js ks nj kd p q np
  have l1 := highs_sum js ks nj kd p q np
  rw [if_pos hq] at l0 l1
  obtain ⟨f0, f1⟩ := (fitsB_iff8 good.small hkd hp hi np8).1 hfit
  obtain ⟨r0, r1, _⟩ := reach_small (js := js) (nj := nj) good.small hkd p q
  obtain ⟨s0, s1, _⟩ := lows_small (js := js) (nj := nj) good.small hkd p q np
  have x0 : ext (ks.getD (kd * 5) 0) (shP js ks nj np p kd) 0 q = max (reach js ks nj kd p q).1 (ks.getD (kd * 5) 0 - highs js ks nj kd p q np) := by
    show max ((shP js ks nj np p kd).getD (q * 2) 0) (ks.getD (kd * 5) 0 - (total (shP js ks nj np p kd) 1 - (shP js ks nj np p kd).getD (q * 2 + 1) 0)) = _
    rw [g1, g2, t1, e1, l1]
    congr 1
    omega
  have x1 : ext (ks.getD (kd * 5) 0) (shP js ks nj np p kd) 1 q = min (reach js ks nj kd p q).2 (ks.getD (kd * 5) 0 - lows js ks nj kd p q np) := by
    show min ((shP js ks nj np p kd).getD (q * 2 + 1) 0) (ks.getD (kd * 5) 0 - (total (shP js ks nj np p kd) 0 - (shP js ks nj np p kd).getD (q * 2) 0)) = _
    rw [g1, g2, t0, e0, l0]
    congr 1
    omega
  rw [x0, x1]
  rw [e0, l0] at f0
  rw [e1, l1] at f1
  refine ⟨by omega, by omega, by omega, fun a h0 h1 h2 => ?_⟩
  unfold someB
  omega
theorem call70 (l : Nat) (a b c d : Value) (H : Hp) (n : Nat) : (cal (l + 1)).call 70 [a, b, c, d] H n = C70_0 (cal l) KK a b c d H n := by kernel_rfl
theorem part_call (l : Nat) {np nj nk p q kd : Nat} {ps js ks : List Int} (good : Good np nj nk ps js ks) (hjs : js.length = nj * 2) (hp : p < np) (hq : q < np) (hkd : kd < nk) (hfit : fitsB js ks nj np kd p)
    {H : Hp} {n : Nat} {v : Value} (hg : GroveI H n v np nj nk ps js ks) :
    ∃ H' n', (∀ k : Value → Hp → Nat → Option ρ, callFK P (cal (l + 4)) 70 [v, .int .i64 kd, .int .i64 p, .int .i64 q] H n k =
      k (.agg ⟨[.int .i64 (ext (ks.getD (kd * 5) 0) (shP js ks nj np p kd) 0 q), .int .i64 (ext (ks.getD (kd * 5) 0) (shP js ks nj np p kd) 1 q)]⟩) H' n') ∧ n ≤ n' ∧ Keep n H H' := by
  obtain ⟨x0, x1, x2, x3⟩ := part_ext good hjs hp hq hkd hfit
  have np8 := good.np8
  have nj16 := good.nj16
  obtain ⟨r, H', n', rfl, e1, e2, e3⟩ := callFK_spec (ρ := ρ) (P := P) (cal := cal (l + 4)) (f := 70) (args := [v, .int .i64 kd, .int .i64 p, .int .i64 q]) (H := H) (n := n)
    (Pre := fun H n => GroveI H n v np nj nk ps js ks) (Q := fun r => r = .agg ⟨[.int .i64 (ext (ks.getD (kd * 5) 0) (shP js ks nj np p kd) 0 q), .int .i64 (ext (ks.getD (kd * 5) 0) (shP js ks nj np p kd) 1 q)]⟩)
    (fun H n h => ⟨_, by rw [call70]; exact part_spec l (show nj ≤ KK by unfold KK; omega) (show np ≤ 100 by omega) kd hkd p q good.small x3 x0 x1 x2 h, rfl⟩) (fun r e _ => by subst e; rfl) hg (fun hp => hg.nil (by simp only [pureL, Bool.and_eq_true] at hp; exact hp.1))
  exact ⟨H', n', e1, e2, e3⟩
theorem effK_a {H : Hp} {n id : Nat} {c : List Value} {e : TypeId} {op : Hp → Nat → (Value → Hp → Nat → Option ρ) → Option ρ} {k : Value → Hp → Nat → Option ρ} :
    effK P [.a id c e] H n op k = op (H.set id none) n (fun v H2 n2 => k v (H2.set id (H.get id)) n2) := rfl
theorem res27 (H : Hp) (b : Nat) : resV P (Tr.set Tr.nil 6 (some (.pointer (some ⟨b, 0, none⟩)))) H results27 = (match loadV P H 55 ⟨b, 0, none⟩ with
  | some v => some [v]
  | none => none) := by kernel_rfl
theorem end27 {H : Hp} {n b : Nat} {u w : Int} {c : List Value} (hg : H.get b = some (.cells c 55 false none)) (hc : c.length = 2) :
    (bindO (storeP P 55 (.pointer (some ⟨b, 0, none⟩)) (.agg ⟨[.int .i64 u, .int .i64 w]⟩) H) fun H' => bindO (resV P (Tr.set Tr.nil 6 (some (.pointer (some ⟨b, 0, none⟩)))) H' results27) fun vs => some (oneV vs, H', n)) =
      some (.agg ⟨[.int .i64 u, .int .i64 w]⟩, H.set b (some (.cells [.int .i64 u, .int .i64 w] 55 false none)), n) := by
  have hst := storeN_whole (vs := [.int .i64 u, .int .i64 w]) hg (by rw [hc]; rfl) rfl
  have hld : loadV P (H.set b (some (.cells [.int .i64 u, .int .i64 w] 55 false none))) 55 ⟨b, 0, none⟩ = some (.agg ⟨[.int .i64 u, .int .i64 w]⟩) :=
    loadV_agg (o := 0) (k := 0) (CellsAt.new (n := b)) agg55 sz55 (by simp) rfl
  rw [store55, hst, bindO_some, res27, hld]
  rfl
structure SumAt (H0 H : Hp) (base n : Nat) (x y z : Value) (lo hi : Int) : Prop where
  keep : Keep base H0 H
  top : base + 3 ≤ n
  box : H.get base = some (.cells [x, y, z] 26 false none)
  res : H.get (base + 1) = some (.cells [.int .i64 0, .int .i64 0] 55 false none)
  out : H.get (base + 2) = some (.cells [.int .i64 lo, .int .i64 hi] 55 false none)
theorem SumAt.go {H0 H H' : Hp} {base n n' : Nat} {x y z : Value} {lo hi : Int} (h : SumAt H0 H base n x y z lo hi) (hk : Keep n H H') (hn : n ≤ n') : SumAt H0 H' base n' x y z lo hi := by
  have := h.top
  exact ⟨h.keep.trans hk (by omega), by omega, (hk _ (by omega)).trans h.box, (hk _ (by omega)).trans h.res, (hk _ (by omega)).trans h.out⟩
theorem SumAt.put {H0 H : Hp} {base n : Nat} {x y z : Value} {lo hi : Int} (h : SumAt H0 H base n x y z lo hi) (u w : Int) : SumAt H0 (H.set (base + 2) (some (.cells [.int .i64 u, .int .i64 w] 55 false none))) base n x y z u w := by
  refine ⟨h.keep.set (by omega) _, h.top, ?_, ?_, ?_⟩
  · rw [Tr.get_set, if_neg (by omega)]; exact h.box
  · rw [Tr.get_set, if_neg (by omega)]; exact h.res
  · rw [Tr.get_set, if_pos rfl]
theorem bsum_next (js ks L : List Int) (nj np i e q : Nat) : bsum js ks L nj np (i + 1) e q = bsum js ks L nj np i e q + if L.getD i 0 = -1 then 0 else ext (ks.getD ((L.getD i 0).toNat * 5) 0) (shP js ks nj np i (L.getD i 0).toNat) e q := rfl
theorem bsum_laid {js ks ls : List Int} {nj np e q : Nat} (hl : ls.length = np) {i : Nat} (hi : i ≤ np) : bsum js ks ls nj np i e q = bsum js ks (laidL ls np) nj np i e q :=
  sumTo_same fun k hk => by rw [laidL_in hl (by omega)]
theorem rbounds_loop (l k : Nat) {np nj nk q : Nat} {ps js ks ls : List Int} (good : Good np nj nk ps js ks) (hjs : js.length = nj * 2) (hok : laidOk js ks ls nj np nk) (hq : q < np) (hls : ls.length = np) {H0 : Hp} {base : Nat} {x y z w : Value}
    (hg : GroveI H0 base (.agg ⟨[x, y, z]⟩) np nj nk ps js ks) (hw : ListR H0 base w np ls) :
    ∀ (m i : Nat) (H : Hp) (n : Nat), SumAt H0 H base n x y z (bsum js ks ls nj np i 0 q) (bsum js ks ls nj np i 1 q) → i ≤ np → np - i ≤ m →
    Ret (S27_1 (cal (l + 4)) k m w (.int .i64 q) (.pointer (some ⟨base, 0, none⟩)) (.pointer (some ⟨base + 1, 0, none⟩)) (.pointer (some ⟨base + 2, 0, none⟩)) (.int .i64 i) H n) base H0 (.agg ⟨[.int .i64 (bsum js ks ls nj np np 0 q), .int .i64 (bsum js ks ls nj np np 1 q)]⟩) := by
  have np8 := good.np8
  have body : ∀ (b1 : Value → Value → Value → Value → Value → Value → Hp → Nat → Res) (m i : Nat) (H : Hp) (n : Nat), SumAt H0 H base n x y z (bsum js ks ls nj np i 0 q) (bsum js ks ls nj np i 1 q) → i ≤ np →
      (∀ H' n', SumAt H0 H' base n' x y z (bsum js ks ls nj np (i + 1) 0 q) (bsum js ks ls nj np (i + 1) 1 q) → i < np →
        Ret (b1 w (.int .i64 q) (.pointer (some ⟨base, 0, none⟩)) (.pointer (some ⟨base + 1, 0, none⟩)) (.pointer (some ⟨base + 2, 0, none⟩)) (.int .i64 ((i + 1 : Nat) : Int)) H' n') base H0 (.agg ⟨[.int .i64 (bsum js ks ls nj np np 0 q), .int .i64 (bsum js ks ls nj np np 1 q)]⟩)) →
      Ret (C27_1 (cal (l + 4)) k m b1 w (.int .i64 q) (.pointer (some ⟨base, 0, none⟩)) (.pointer (some ⟨base + 1, 0, none⟩)) (.pointer (some ⟨base + 2, 0, none⟩)) (.int .i64 i) H n) base H0 (.agg ⟨[.int .i64 (bsum js ks ls nj np np 0 q), .int .i64 (bsum js ks ls nj np np 1 q)]⟩) := by
    intro b1 m i H n st hi ih
    have htop := st.top
    obtain ⟨x', y', z', hxyz, h1, h2, h3⟩ := hg.eq
    cases hxyz
    have hwH := hw.keep st.keep (show base ≤ n by omega)
    unfold C27_1 B27_1
    rw [hwH.len_eq, bindO_some, binK_some bin_lss, ifK_d]
    by_cases hlt : i < np
    · have hI : I64 ((i : Int) + 1) := by unfold I64; omega
      have hcast : ((i : Int) + 1) = ((i + 1 : Nat) : Int) := by omega
      obtain ⟨rb, o, hix, hrb, hld⟩ := hwH.at_ hlt
      rw [if_pos (by omega), hix, bindO_some, addrV_eq, bindO_some, hld, bindO_some, binK_some bin_geq, ifK_d]
      by_cases hge : 0 ≤ ls.getD i 0
      · rcases hok i hlt with hm | ⟨_, p2, p3⟩
        · omega
        obtain ⟨kd, hkd⟩ : ∃ kd : Nat, ls.getD i 0 = kd := ⟨(ls.getD i 0).toNat, by omega⟩
        rw [hkd] at p2 p3
        have hkn : kd < nk := by omega
        rw [Int.toNat_natCast] at p3
        have hfit := (fits_agree good hjs hlt hkn).1 p3
        rw [if_pos (by omega), addrV_eq, bindO_some, load26 (cells_of st.box) h1.hole.1 h2.hole.1 h3.hole.1, bindO_some]
        simp only [bindO_some, addrV_eq, hld, hkd, zero55, newK, effK_a]
        have kA : Keep n H ((H.set n (some (.cells (cellsV (.agg #[.int .i64 0, .int .i64 0])) 55 false none))).set n none) := ((Keep.refl n H).set (Nat.le_refl _) _).set (Nat.le_refl _) _
        obtain ⟨H2, n2, e, e2, e3⟩ := part_call (ρ := Value × Hp × Nat) l good hjs hlt hq hkn hfit (hg.keep (st.keep.trans kA (by omega)) (show base ≤ n + 1 by omega))
        rw [e]
        have hget : (H2.set n ((H.set n (some (.cells (cellsV (.agg #[.int .i64 0, .int .i64 0])) 55 false none))).get n)).get n = some (.cells [.int .i64 0, .int .i64 0] 55 false none) := by
          rw [Tr.get_set, if_pos rfl, Tr.get_set, if_pos rfl]; rfl
        have kB : Keep n H (H2.set n ((H.set n (some (.cells (cellsV (.agg #[.int .i64 0, .int .i64 0])) 55 false none))).get n)) := (kA.trans e3 (by omega)).set (Nat.le_refl _) _
        generalize (H2.set n ((H.set n (some (.cells (cellsV (.agg #[.int .i64 0, .int .i64 0])) 55 false none))).get n)) = H3 at hget kB ⊢
        have n0 := bsum_next js ks ls nj np i 0 q
        have n1 := bsum_next js ks ls nj np i 1 q
        rw [hkd, Int.toNat_natCast, if_neg (by omega)] at n0 n1
        have kin : KindsIn (laidL ls np) np nk := laid_kinds hls hok
        have m0 := bsum_mild (js := js) (nj := nj) (q := q) (i := i + 1) (e := 0) good.kinds np8 kin (by omega) (by omega)
        have m1 := bsum_mild (js := js) (nj := nj) (q := q) (i := i + 1) (e := 1) good.kinds np8 kin (by omega) (by omega)
        rw [← bsum_laid hls (by omega), n0] at m0
        rw [← bsum_laid hls (by omega), n1] at m1
        generalize ext (ks.getD (kd * 5) 0) (shP js ks nj np i kd) 0 q = E0 at n0 m0 ⊢
        generalize ext (ks.getD (kd * 5) 0) (shP js ks nj np i kd) 1 q = E1 at n1 m1 ⊢
        have i0 : I64 (bsum js ks ls nj np i 0 q + E0) := by unfold I64; omega
        have i1 : I64 (bsum js ks ls nj np i 1 q + E1) := by unfold I64; omega
        rw [ptr, store55, storeN_whole (c := [.int .i64 0, .int .i64 0]) (vs := [.int .i64 E0, .int .i64 E1]) (e := 55) (vec := none) hget rfl rfl, bindO_some]
        have hnew : (H3.set n (some (.cells [.int .i64 E0, .int .i64 E1] 55 false none))).get n = some (.cells [.int .i64 E0, .int .i64 E1] 55 false none) := by rw [Tr.get_set, if_pos rfl]
        have st4 : SumAt H0 (H3.set n (some (.cells [.int .i64 E0, .int .i64 E1] 55 false none))) base n2 x y z (bsum js ks ls nj np i 0 q) (bsum js ks ls nj np i 1 q) := st.go (kB.set (Nat.le_refl _) _) (by omega)
        generalize H3.set n (some (.cells [.int .i64 E0, .int .i64 E1] 55 false none)) = H4 at hnew st4 ⊢
        have a0 : loadV P H4 3 ⟨base + 2, 0 + 0, none⟩ = some (.int .i64 (bsum js ks ls nj np i 0 q)) := loadV_int (cells_of st4.out) agg3 rfl
        have a1 : loadV P H4 3 ⟨base + 2, 0 + 1, none⟩ = some (.int .i64 (bsum js ks ls nj np i 1 q)) := loadV_int (cells_of st4.out) agg3 rfl
        have c0 : loadV P H4 3 ⟨n, 0 + 0, none⟩ = some (.int .i64 E0) := loadV_int (cells_of hnew) agg3 rfl
        have c1 : loadV P H4 3 ⟨n, 0 + 1, none⟩ = some (.int .i64 E1) := loadV_int (cells_of hnew) agg3 rfl
        rw [fa55_0, bindO_some, addrV_eq, bindO_some, a0, bindO_some, fa55_0, bindO_some, addrV_eq, bindO_some, c0, bindO_some, binK_some (bin_add i0), fa55_1, bindO_some, addrV_eq, bindO_some, a1, bindO_some, fa55_1, bindO_some, addrV_eq, bindO_some, c1, bindO_some, binK_some (bin_add i1),
          build55v, bindO_some, store55, storeN_whole (c := [.int .i64 (bsum js ks ls nj np i 0 q), .int .i64 (bsum js ks ls nj np i 1 q)]) (vs := [.int .i64 (bsum js ks ls nj np i 0 q + E0), .int .i64 (bsum js ks ls nj np i 1 q + E1)]) (e := 55) (vec := none) st4.out rfl rfl, bindO_some, ← n0, ← n1]
        unfold C27_2 B27_2
        rw [binK_some (bin_add hI), hcast]
        exact ih _ n2 (st4.put _ _) hlt
      · rcases hok i hlt with hm | ⟨p1, _, _⟩
        · have n0 := bsum_next js ks ls nj np i 0 q
          have n1 := bsum_next js ks ls nj np i 1 q
          rw [if_pos hm, Int.add_zero] at n0 n1
          rw [if_neg (by omega)]
          unfold C27_2 B27_2
          rw [binK_some (bin_add hI), hcast]
          exact ih H n (by rw [n0, n1]; exact st) hlt
        · omega
    · have e : i = np := by omega
      subst e
      have lo9 : loadV P H 55 ⟨base + 2, 0, none⟩ = some (.agg ⟨[.int .i64 (bsum js ks ls nj i i 0 q), .int .i64 (bsum js ks ls nj i i 1 q)]⟩) := loadV_agg (o := 0) (k := 0) (cells_of st.out) agg55 sz55 (by simp) rfl
      rw [if_neg (by omega), addrV_eq, bindO_some, lo9, bindO_some, end27 st.res rfl]
      exact ⟨_, _, rfl, by omega, st.keep.set (by omega) _⟩
  intro m
  induction m with
  | zero =>
    intro i H n h1 h2 h3
    exact body _ 0 i H n h1 h2 (fun _ _ _ h => by omega)
  | succ m ih =>
    intro i H n h1 h2 h3
    exact body _ (m + 1) i H n h1 h2 (fun H' n' q1 q2 => ih (i + 1) H' n' q1 (by omega) (by omega))
theorem rbounds_spec (l : Nat) {np nj nk q : Nat} {ps js ks ls : List Int} (good : Good np nj nk ps js ks) (hok : laidOk js ks ls nj np nk) (hq : q < np) {H : Hp} {n : Nat} {v w : Value} (hg : GroveI H n v np nj nk ps js ks) (hw : ListR H n w np ls) :
    Ret (C27_0 (cal (l + 4)) KK v w (.int .i64 q) H n) n H (.agg ⟨[.int .i64 (bsum js ks (laidL ls np) nj np 8 0 q), .int .i64 (bsum js ks (laidL ls np) nj np 8 1 q)]⟩) := by
  have hg0 := hg
  have np8 := good.np8
  have hls := hw.1
  obtain ⟨x, y, z, rfl, h1, h2, h3⟩ := hg.eq
  have fin : ∀ e, bsum js ks (laidL ls np) nj np 8 e q = bsum js ks ls nj np np e q := fun e => by
    rw [bsum_laid hls (Nat.le_refl _)]
    refine sumTo_zero np8 fun k k1 k2 => ?_
    have kin : KindsIn (laidL ls np) np nk := laid_kinds hls hok
    rcases kin k (by omega) with h | h
    · rw [if_pos h]
    · omega
  unfold C27_0 B27_0
  generalize hS : S27_1 (cal (l + 4)) KK KK = S
  rw [boxK_eq, allocK_eq zero55, allocK_eq zero55, ptr, ptr, ptr]
  simp only [cellsV]
  generalize hH1 : ((H.set n (some (.cells [x, y, z] 26 false none))).set (n + 1) (some (.cells [.int .i64 0, .int .i64 0] 55 false none))).set (n + 1 + 1) (some (.cells [.int .i64 0, .int .i64 0] 55 false none)) = H1
  have st : SumAt H H1 n (n + 1 + 1 + 1) x y z (bsum js ks ls nj np 0 0 q) (bsum js ks ls nj np 0 1 q) := by
    refine ⟨fun b hb => ?_, by omega, ?_, ?_, ?_⟩
    · rw [← hH1, Tr.get_set, if_neg (by omega), Tr.get_set, if_neg (by omega), Tr.get_set, if_neg (by omega)]
    · rw [← hH1, Tr.get_set, if_neg (by omega), Tr.get_set, if_neg (by omega), Tr.get_set, if_pos rfl]
    · rw [← hH1, Tr.get_set, if_neg (by omega), Tr.get_set, if_pos rfl]
    · rw [← hH1, Tr.get_set, if_pos rfl]; rfl
  rw [← hS, fin 0, fin 1]
  exact rbounds_loop l KK good h2.1 hok hq hls hg0 hw KK 0 H1 _ st (by omega) (by unfold KK; omega)
theorem call27 (l : Nat) (a b c : Value) (H : Hp) (n : Nat) : (cal (l + 1)).call 27 [a, b, c] H n = C27_0 (cal l) KK a b c H n := by kernel_rfl
theorem rbounds_call (l : Nat) {np nj nk q : Nat} {ps js ks ls : List Int} (good : Good np nj nk ps js ks) (hok : laidOk js ks ls nj np nk) (hq : q < np) {H : Hp} {n : Nat} {v w : Value} (hg : GroveI H n v np nj nk ps js ks) (hw : ListR H n w np ls) :
    ∃ H' n', (∀ k : Value → Hp → Nat → Option ρ, callFK P (cal (l + 5)) 27 [v, w, .int .i64 q] H n k = k (.agg ⟨[.int .i64 (bsum js ks (laidL ls np) nj np 8 0 q), .int .i64 (bsum js ks (laidL ls np) nj np 8 1 q)]⟩) H' n') ∧ n ≤ n' ∧ Keep n H H' := by
  obtain ⟨r, H', n', rfl, e1, e2, e3⟩ := callFK_spec (ρ := ρ) (P := P) (cal := cal (l + 5)) (f := 27) (args := [v, w, .int .i64 q]) (H := H) (n := n)
    (Pre := fun H n => GroveI H n v np nj nk ps js ks ∧ ListR H n w np ls) (Q := fun r => r = .agg ⟨[.int .i64 (bsum js ks (laidL ls np) nj np 8 0 q), .int .i64 (bsum js ks (laidL ls np) nj np 8 1 q)]⟩)
    (fun H n h => ⟨_, by rw [call27]; exact rbounds_spec l good hok hq h.1 h.2, rfl⟩) (fun r e _ => by subst e; rfl) ⟨hg, hw⟩ (fun hp => by
        simp only [pureL, Bool.and_eq_true] at hp
        exact ⟨hg.nil hp.1, hw.nil hp.2.1⟩)
  exact ⟨H', n', e1, e2, e3⟩
end Go.Proofs.Ytakjjillnllocaa.spec
namespace Go.Proofs.Ytakjjillnllocaa.spec
open Go Go.Ev Go.Proofs.Ytakjjillnllocaa.nestFits Go.Proofs.Ytakjjillnllocaa.G
set_option maxRecDepth 100000
variable {ρ : Type}
def Same (H Hm : Hp) : Prop := ∀ b o vs, CellsAt H b o vs → CellsAt Hm b o vs
theorem same_slice {H Hm : Hp} {n s len : Nat} {v : Value} {xs : List Int} (hr : Same H Hm) (h : SliceI H n s v len xs) : SliceI Hm n s v len xs := by
  obtain ⟨h1, h2, h3⟩ := h
  refine ⟨h1, h2, ?_⟩
  rcases h3 with h3 | ⟨b, o, cap, e, a1, a2, a3, a4⟩
  · exact .inl h3
  · exact .inr ⟨b, o, cap, e, a1, a2, a3, a4.imp id fun z => hr _ _ _ z⟩
theorem same_grove {H Hm : Hp} {n np nj nk : Nat} {v : Value} {ps js ks : List Int} (hr : Same H Hm) (h : GroveI H n v np nj nk ps js ks) : GroveI Hm n v np nj nk ps js ks := by
  obtain ⟨a, b, c, e, h1, h2, h3⟩ := h.eq
  exact ⟨⟨a, b, c, e, same_slice hr h1, same_slice hr h2, same_slice hr h3⟩⟩
theorem same_list {H Hm : Hp} {n len : Nat} {v : Value} {xs : List Int} (hr : Same H Hm) (h : ListR H n v len xs) : ListR Hm n v len xs := by
  obtain ⟨h1, h2, h3⟩ := h
  refine ⟨h1, h2, ?_⟩
  rcases h3 with h3 | ⟨b, o, cap, e, a, c⟩
  · exact .inl h3
  · exact .inr ⟨b, o, cap, e, a, hr _ _ _ c⟩
theorem block_of {H : Hp} {b o : Nat} {vs : List Value} (h : CellsAt H b o vs) : (∃ c e ro vec, H.get b = some (.cells c e ro vec)) ∨ ∃ c, H.get b = some (.rows c) := by
  obtain ⟨B, c, h1, h2, _⟩ := h
  cases B with
  | cells c e ro vec => exact .inl ⟨_, _, _, _, h1⟩
  | rows c => exact .inr ⟨_, h1⟩
  | _ => cases h2
theorem effK_read {ex : List Extra} {H : Hp} {n : Nat} {v : Value} {op : Hp → Nat → (Value → Hp → Nat → Option ρ) → Option ρ}
    (hex : ∀ y ∈ ex, ∃ t a, y = .l t a ∧ a.block < n ∧ ((∃ c e ro vec, H.get a.block = some (.cells c e ro vec)) ∨ ∃ c, H.get a.block = some (.rows c)))
    (hop : ∀ Hm, Same H Hm → ∃ H2 n2, (∀ k, op Hm n k = k v H2 n2) ∧ n ≤ n2 ∧ Keep n Hm H2) :
    ∃ H' n2, (∀ k, effK P ex H n op k = k v H' n2) ∧ n ≤ n2 ∧ Keep n H H' := by
  cases ex with
  | nil =>
    obtain ⟨H2, n2, h1, h2, h3⟩ := hop H (fun _ _ _ h => h)
    exact ⟨H2, n2, fun k => by unfold effK; exact h1 k, h2, h3⟩
  | cons y l =>
    have hl : ∀ z ∈ y :: l, ∃ t a, z = .l t a := fun z hz => by obtain ⟨t, a, e, _⟩ := hex z hz; exact ⟨t, a, e⟩
    obtain ⟨H1, e1, e2⟩ := maskX_some (ex := y :: l) (H := H) fun z hz => by obtain ⟨t, a, e, _, h⟩ := hex z hz; exact .inl ⟨t, a, e, h⟩
    have hnw : ∀ b, ¬ nwOf (y :: l) b := fun b ⟨id, c, e, h1, _⟩ => by obtain ⟨t, a, q⟩ := hl _ h1; cases q
    obtain ⟨H2, n2, h1, h2, h3⟩ := hop (maskXA (y :: l) H1) fun b o vs hc => by
      obtain ⟨B, c, g1, g2, g3⟩ := hc
      have em := (maskXA_get (ex := y :: l) (H := H1) b).2 (hnw _)
      rcases e2 b with q | ⟨⟨c', e, ro, vec, q1, q2⟩, _⟩
      · exact ⟨B, c, by rw [em, q]; exact g1, g2, g3⟩
      · rw [q1] at g1
        cases g1
        exact ⟨.cells c' e true vec, c, by rw [em]; exact q2, g2, g3⟩
    have hsome : ∀ z ∈ y :: l, (∃ t a, z = .l t a ∧ (H2.get a.block).isSome) ∨ ∃ id c e, z = .a id c e := by
      intro z hz
      obtain ⟨t, a, rfl, hb, hc⟩ := hex z hz
      refine .inl ⟨t, a, rfl, ?_⟩
      rw [h3 _ hb, (maskXA_get (H := H1) a.block).2 (hnw _)]
      have hs : (H.get a.block).isSome := by rcases hc with ⟨c, e, ro, vec, hc⟩ | ⟨c, hc⟩ <;> rw [hc] <;> rfl
      rcases e2 a.block with q | ⟨⟨c, e, ro, vec, _, q⟩, _⟩
      · rw [q]; exact hs
      · rw [q]; rfl
    obtain ⟨H3, f1, f2, f3⟩ := backX_some (H0 := H) hsome
    have hck : chkX P (backXA (y :: l) H H3) (y :: l) = true := chk_true fun z hz => .inl (hl z hz)
    refine ⟨backXA (y :: l) H H3, n2, fun k => ?_, h2, fun b hb => ?_⟩
    · unfold effK
      simp only [e1, bindO_some, h1, f1, hck]
      rfl
    · rw [(backXA_get b).2 (hnw b)]
      by_cases q : ldOf (y :: l) b
      · exact f2 b q
      · rw [f3 b q, h3 b hb, (maskXA_get (H := H1) b).2 (hnw b)]
        rcases e2 b with z | ⟨_, z⟩
        · exact z
        · exact absurd z q
theorem fv55_0 (a b : Value) : fieldV P 55 (.agg ⟨[a, b]⟩) 0 = some a := by kernel_rfl
theorem fv55_1 (a b : Value) : fieldV P 55 (.agg ⟨[a, b]⟩) 1 = some b := by kernel_rfl
theorem limit_spec (l : Nat) {np nj nk q : Nat} {ps js ks ls : List Int} (good : Good np nj nk ps js ks) (hok : laidOk js ks ls nj np nk) (hq : q < np) {H : Hp} {n : Nat} {v w : Value} (hg : GroveI H n v np nj nk ps js ks) (hw : ListR H n w np ls) :
    Ret (C28_0 (cal (l + 5)) KK v w (.int .i64 q) H n) n H (.bool (decide (bsum js ks (laidL ls np) nj np 8 0 q < ps.getD (q * 2) 0))) ∧
    Ret (C29_0 (cal (l + 5)) KK v w (.int .i64 q) H n) n H (.bool (decide (ps.getD (q * 2 + 1) 0 < bsum js ks (laidL ls np) nj np 8 1 q))) := by
  have hg0 := hg
  obtain ⟨x, y, z, rfl, h1, h2, h3⟩ := hg.eq
  have hk : Keep n H (H.set n (some (.cells [x, y, z] 26 false none))) := (Keep.refl n H).set (Nat.le_refl _) _
  have hb : (H.set n (some (.cells [x, y, z] 26 false none))).get n = some (.cells [x, y, z] 26 false none) := by rw [Tr.get_set, if_pos rfl]
  unfold C28_0 B28_0 C29_0 B29_0
  rw [boxK_eq, boxK_eq]
  simp only [cellsV, ptr]
  generalize H.set n (some (.cells [x, y, z] 26 false none)) = H1 at hk hb ⊢
  have hg1 : GroveI H1 (n + 1) (.agg ⟨[x, y, z]⟩) np nj nk ps js ks := hg0.keep hk (by omega)
  have lx : loadV P H1 22 ⟨n, 0 + 0, none⟩ = some x := loadV_scalar (cells_of hb) agg22 rfl h1.hole.1 h1.hole.2
  obtain ⟨rb, o, hix, hrb, hc⟩ := ((h1.keep hk (Nat.le_refl _)).up (show n ≤ n + 1 by omega)).at_ und22 sz95 hq
  have hl : q * 2 + 2 ≤ ps.length := by rw [h1.1]; omega
  have a0 : loadV P H1 3 ⟨rb, o + q * 2 + 0, none⟩ = some (.int .i64 (ps.getD (q * 2) 0)) := by
    rw [show o + q * 2 + 0 = o + (q * 2) by omega]; exact loadV_int hc agg3 (ints_get (getD_some (by omega)))
  have a1 : loadV P H1 3 ⟨rb, o + q * 2 + 1, none⟩ = some (.int .i64 (ps.getD (q * 2 + 1) 0)) := by
    rw [show o + q * 2 + 1 = o + (q * 2 + 1) by omega]; exact loadV_int hc agg3 (ints_get (getD_some (by omega)))
  have go : ∀ (oo : Nat), ∃ H' n2, (∀ k : Value → Hp → Nat → Res, effK P [.l 3 ⟨rb, oo, none⟩, .l 22 ⟨n, 0 + 0, none⟩] H1 (n + 1) (fun H n k => callFK P (cal (l + 5)) 27 [.agg ⟨[x, y, z]⟩, w, .int .i64 q] H n fun v H n => k v H n) k =
      k (.agg ⟨[.int .i64 (bsum js ks (laidL ls np) nj np 8 0 q), .int .i64 (bsum js ks (laidL ls np) nj np 8 1 q)]⟩) H' n2) ∧ n + 1 ≤ n2 ∧ Keep (n + 1) H1 H' := fun oo =>
    effK_read (fun y hy => by
      simp only [List.mem_cons, List.not_mem_nil, or_false] at hy
      rcases hy with rfl | rfl
      · exact ⟨_, _, rfl, hrb, block_of hc⟩
      · exact ⟨_, _, rfl, by show n < n + 1; omega, .inl ⟨_, _, _, _, hb⟩⟩)
      (fun Hm hm => by
        obtain ⟨H2, n2, e1, e2, e3⟩ := rbounds_call (ρ := Value × Hp × Nat) l good hok hq (same_grove hm hg1) (same_list hm (hw.keep hk (show n ≤ n + 1 by omega)))
        exact ⟨H2, n2, fun k => e1 _, e2, e3⟩)
  constructor
  · obtain ⟨H', n2, e1, e2, e3⟩ := go (o + q * 2 + 0)
    rw [addrV_eq, bindO_some, load26 (cells_of hb) h1.hole.1 h2.hole.1 h3.hole.1, bindO_some, fa26_0, bindO_some, addrV_eq, bindO_some, lx, bindO_some, hix, bindO_some, fa95_0, bindO_some, addrV_eq, bindO_some, a0, bindO_some, e1, fv55_0, bindO_some, binK_some bin_lss]
    exact ⟨H', n2, rfl, by omega, hk.trans e3 (by omega)⟩
  · obtain ⟨H', n2, e1, e2, e3⟩ := go (o + q * 2 + 1)
    rw [addrV_eq, bindO_some, load26 (cells_of hb) h1.hole.1 h2.hole.1 h3.hole.1, bindO_some, fa26_0, bindO_some, addrV_eq, bindO_some, lx, bindO_some, hix, bindO_some, fa95_1, bindO_some, addrV_eq, bindO_some, a1, bindO_some, e1, fv55_1, bindO_some, binK_some bin_gtr]
    exact ⟨H', n2, rfl, by omega, hk.trans e3 (by omega)⟩
theorem call28 (l : Nat) (a b c : Value) (H : Hp) (n : Nat) : (cal (l + 1)).call 28 [a, b, c] H n = C28_0 (cal l) KK a b c H n := by kernel_rfl
theorem call29 (l : Nat) (a b c : Value) (H : Hp) (n : Nat) : (cal (l + 1)).call 29 [a, b, c] H n = C29_0 (cal l) KK a b c H n := by kernel_rfl
theorem missedR_call (l : Nat) {np nj nk q : Nat} {ps js ks ls : List Int} (good : Good np nj nk ps js ks) (hok : laidOk js ks ls nj np nk) (hq : q < np) {H : Hp} {n : Nat} {v w : Value} (hg : GroveI H n v np nj nk ps js ks) (hw : ListR H n w np ls) :
    ∃ H' n', (∀ k : Value → Hp → Nat → Option ρ, callFK P (cal (l + 6)) 28 [v, w, .int .i64 q] H n k = k (.bool (decide (bsum js ks (laidL ls np) nj np 8 0 q < ps.getD (q * 2) 0))) H' n') ∧ n ≤ n' ∧ Keep n H H' := by
  obtain ⟨r, H', n', rfl, e1, e2, e3⟩ := callFK_spec (ρ := ρ) (P := P) (cal := cal (l + 6)) (f := 28) (args := [v, w, .int .i64 q]) (H := H) (n := n)
    (Pre := fun H n => GroveI H n v np nj nk ps js ks ∧ ListR H n w np ls) (Q := fun r => r = .bool (decide (bsum js ks (laidL ls np) nj np 8 0 q < ps.getD (q * 2) 0)))
    (fun H n h => ⟨_, by rw [call28]; exact (limit_spec l good hok hq h.1 h.2).1, rfl⟩) (fun r e _ => by subst e; rfl) ⟨hg, hw⟩ (fun hp => by
        simp only [pureL, Bool.and_eq_true] at hp
        exact ⟨hg.nil hp.1, hw.nil hp.2.1⟩)
  exact ⟨H', n', e1, e2, e3⟩
theorem overR_call (l : Nat) {np nj nk q : Nat} {ps js ks ls : List Int} (good : Good np nj nk ps js ks) (hok : laidOk js ks ls nj np nk) (hq : q < np) {H : Hp} {n : Nat} {v w : Value} (hg : GroveI H n v np nj nk ps js ks) (hw : ListR H n w np ls) :
    ∃ H' n', (∀ k : Value → Hp → Nat → Option ρ, callFK P (cal (l + 6)) 29 [v, w, .int .i64 q] H n k = k (.bool (decide (ps.getD (q * 2 + 1) 0 < bsum js ks (laidL ls np) nj np 8 1 q))) H' n') ∧ n ≤ n' ∧ Keep n H H' := by
  obtain ⟨r, H', n', rfl, e1, e2, e3⟩ := callFK_spec (ρ := ρ) (P := P) (cal := cal (l + 6)) (f := 29) (args := [v, w, .int .i64 q]) (H := H) (n := n)
    (Pre := fun H n => GroveI H n v np nj nk ps js ks ∧ ListR H n w np ls) (Q := fun r => r = .bool (decide (ps.getD (q * 2 + 1) 0 < bsum js ks (laidL ls np) nj np 8 1 q)))
    (fun H n h => ⟨_, by rw [call29]; exact (limit_spec l good hok hq h.1 h.2).2, rfl⟩) (fun r e _ => by subst e; rfl) ⟨hg, hw⟩ (fun hp => by
        simp only [pureL, Bool.and_eq_true] at hp
        exact ⟨hg.nil hp.1, hw.nil hp.2.1⟩)
  exact ⟨H', n', e1, e2, e3⟩
end Go.Proofs.Ytakjjillnllocaa.spec
namespace Go.Proofs.Ytakjjillnllocaa.spec
open Go Go.Ev Go.Proofs.Ytakjjillnllocaa.nestFits Go.Proofs.Ytakjjillnllocaa.G
set_option maxRecDepth 100000
variable {ρ : Type}
theorem flatK53 : flatK P 53 = some 2 := by kernel_rfl
theorem eqG53 : P.eqGuardType P.depth 53 = false := by kernel_rfl
theorem neq53 (p q : Operand) (a b : Int) : binV P .neq 53 p q (.agg ⟨[.int .i64 a, .int .i64 b]⟩) (.agg ⟨[.int .i64 a, .int .i64 b]⟩) = some (.bool false) := by
  have h0 : quickBin .neq (.agg ⟨[.int .i64 a, .int .i64 b]⟩) (.agg ⟨[.int .i64 a, .int .i64 b]⟩) = none := rfl
  have h1 : (pureV (.agg ⟨[.int .i64 a, .int .i64 b]⟩) && pureV (.agg ⟨[.int .i64 a, .int .i64 b]⟩)) = true := rfl
  have h2 : eqCells [.int .i64 a, .int .i64 b] [.int .i64 a, .int .i64 b] = some true := by
    simp only [eqCells, decide_true]
    first | done | rfl
  unfold binV
  rw [h0]
  unfold slowBin
  simp only [h1, aggBin, aggEq, flatK53, eqG53, List.length_cons, List.length_nil, h2]
  rfl
theorem at45 (b k c : Nat) {i : Nat} (hi : i < k) : indexAddrV P 45 (.slice (some ⟨b, 0, none⟩) k c) (.int .i64 i) = some (.pointer (some ⟨b, 0 + i * 2, none⟩)) := by
  unfold indexAddrV
  simp only [und45, idx_lt hi, sz53]
  rfl
structure LB (H0 H : Hp) (base n : Nat) (u11 u12 : Value) (q11 q12 : List Int) : Prop where
  keep : Keep base H0 H
  bn : base ≤ n
  v11 : VecAt H base n 1 3 u11 q11.length q11
  v12 : VecAt H base n 1 3 u12 q12.length q12
  off : ∀ k, blockIs u11 k → ¬ blockIs u12 k
theorem LB.go {H0 H H' : Hp} {base n m : Nat} {u11 u12 : Value} {q11 q12 : List Int} (h : LB H0 H base n u11 u12 q11 q12) (hk : Keep n H H') (hm : n ≤ m) : LB H0 H' base m u11 u12 q11 q12 := by
  obtain ⟨h1, h2, h3, h4, h5⟩ := h
  exact ⟨h1.trans hk h2, by omega, h3.same hm fun b hb _ => hk b hb, h4.same hm fun b hb _ => hk b hb, h5⟩
theorem LB.push11 {H0 H H' : Hp} {base n m : Nat} {u11 u12 u : Value} {q11 q12 : List Int} {i : Int} (h : LB H0 H base n u11 u12 q11 q12) (hv : VecAt H' base m 1 3 u (q11.length + 1) (q11 ++ [i])) (hm : n ≤ m) (ho : ∀ b, b < n → ¬ blockIs u11 b → H'.get b = H.get b) (hf : ∀ b, blockIs u b → n ≤ b) :
    LB H0 H' base m u u12 (q11 ++ [i]) q12 := by
  obtain ⟨h1, h2, h3, h4, h5⟩ := h
  refine ⟨fun b hb => ?_, by omega, by rw [List.length_append]; exact hv, h4.same hm fun b hb hblk => ho b hb fun q => h5 b q hblk, fun k q1 q2 => ?_⟩
  · rw [ho b (by omega) (fun q => by have := (h3.low q).1; omega)]; exact h1 b hb
  · have := hf k q1
    have := (h4.low q2).2
    omega
theorem LB.push12 {H0 H H' : Hp} {base n m : Nat} {u11 u12 u : Value} {q11 q12 : List Int} {i : Int} (h : LB H0 H base n u11 u12 q11 q12) (hv : VecAt H' base m 1 3 u (q12.length + 1) (q12 ++ [i])) (hm : n ≤ m) (ho : ∀ b, b < n → ¬ blockIs u12 b → H'.get b = H.get b) (hf : ∀ b, blockIs u b → n ≤ b) :
    LB H0 H' base m u11 u q11 (q12 ++ [i]) := by
  obtain ⟨h1, h2, h3, h4, h5⟩ := h
  refine ⟨fun b hb => ?_, by omega, h3.same hm fun b hb hblk => ho b hb fun q => h5 b hblk q, by rw [List.length_append]; exact hv, fun k q1 q2 => ?_⟩
  · rw [ho b (by omega) (fun q => by have := (h4.low q).1; omega)]; exact h1 b hb
  · have := hf k q2
    have := (h3.low q1).2
    omega
theorem bounds_law_loop (c : Cal) (k : Nat) {np nj nk : Nat} {ps js ks ls X : List Int} {H0 : Hp} {base b0 bb cp : Nat} {x y z w u7 u8 : Value}
    (Hawake : ∀ (H : Hp) (n : Nat) (k : Value → Hp → Nat → Res), callFK P c 16 [] H n k = k (.bool true) H n)
    (Hto : ∀ (a b : Int) (H : Hp) (n : Nat) (k : Value → Hp → Nat → Res), callFK P c 26 [.agg ⟨[.int .i64 a, .int .i64 b]⟩] H n k = k (.agg ⟨[.int .i64 a, .int .i64 b]⟩) H n)
    (Hb : ∀ (H : Hp) (n q : Nat), q < np → GroveI H n (.agg ⟨[x, y, z]⟩) np nj nk ps js ks → ListR H n w np ls → ∃ H' n', (∀ k : Value → Hp → Nat → Res, callFK P c 27 [.agg ⟨[x, y, z]⟩, w, .int .i64 q] H n k = k (.agg ⟨[.int .i64 (X.getD (q * 2) 0), .int .i64 (X.getD (q * 2 + 1) 0)]⟩) H' n') ∧ n ≤ n' ∧ Keep n H H')
    (Hm : ∀ (H : Hp) (n q : Nat), q < np → GroveI H n (.agg ⟨[x, y, z]⟩) np nj nk ps js ks → ListR H n w np ls → ∃ H' n', (∀ k : Value → Hp → Nat → Res, callFK P c 28 [.agg ⟨[x, y, z]⟩, w, .int .i64 q] H n k = k (.bool (missB X ps q)) H' n') ∧ n ≤ n' ∧ Keep n H H')
    (Ho : ∀ (H : Hp) (n q : Nat), q < np → GroveI H n (.agg ⟨[x, y, z]⟩) np nj nk ps js ks → ListR H n w np ls → ∃ H' n', (∀ k : Value → Hp → Nat → Res, callFK P c 29 [.agg ⟨[x, y, z]⟩, w, .int .i64 q] H n k = k (.bool (overB X ps q)) H' n') ∧ n ≤ n' ∧ Keep n H H')
    (Hi : ∀ (H : Hp) (n l1 l2 : Nat) (u v : Value) (xs ys : List Int), ListR H n u l1 xs → ListR H n v l2 ys → l1 ≤ 1000 → ∃ (r : Bool) (H' : Hp) (n' : Nat), (r = true ↔ xs = ys) ∧ (∀ k : Value → Hp → Nat → Res, callFK P c 30 [u, v] H n k = k (.bool r) H' n') ∧ n ≤ n' ∧ Keep n H H')
    (hg : GroveI H0 base (.agg ⟨[x, y, z]⟩) np nj nk ps js ks) (hw : ListR H0 base w np ls) (hnp : np ≤ 8) (hX : X.length = 16) (hbox : CellsAt H0 b0 0 [x, y, z]) (hb0 : b0 < base) (hcb : CellsAt H0 bb 0 (ints (X.take (np * 2)))) (hbb : bb < base)
    (h7 : ListR H0 base u7 (listOf (missB X ps) np).length (listOf (missB X ps) np)) (h8 : ListR H0 base u8 (listOf (overB X ps) np).length (listOf (overB X ps) np)) :
    ∀ (m i : Nat) (u11 u12 : Value) (H : Hp) (n : Nat), LB H0 H base n u11 u12 (listOf (missB X ps) i) (listOf (overB X ps) i) → i ≤ np → np - i ≤ m →
    ∃ H' n', S4_1 c k m w (.pointer (some ⟨b0, 0, none⟩)) (.slice (some ⟨bb, 0, none⟩) np cp) u7 u8 u11 u12 (.int .i64 i) H n = some (.bool true, H', n') := by
  have body : ∀ (b1 : Value → Value → Value → Value → Value → Value → Value → Value → Hp → Nat → Res) (m i : Nat) (u11 u12 : Value) (H : Hp) (n : Nat), LB H0 H base n u11 u12 (listOf (missB X ps) i) (listOf (overB X ps) i) → i ≤ np →
      (∀ (u11 u12 : Value) (H : Hp) (n : Nat), LB H0 H base n u11 u12 (listOf (missB X ps) (i + 1)) (listOf (overB X ps) (i + 1)) → i < np →
        ∃ H' n', b1 w (.pointer (some ⟨b0, 0, none⟩)) (.slice (some ⟨bb, 0, none⟩) np cp) u7 u8 u11 u12 (.int .i64 ((i + 1 : Nat) : Int)) H n = some (.bool true, H', n')) →
      ∃ H' n', C4_1 c k m b1 w (.pointer (some ⟨b0, 0, none⟩)) (.slice (some ⟨bb, 0, none⟩) np cp) u7 u8 u11 u12 (.int .i64 i) H n = some (.bool true, H', n') := by
    intro b1 m i u11 u12 H n st hi ih
    obtain ⟨x', y', z', hxyz, h1, h2, h3⟩ := hg.eq
    cases hxyz
    have hbn := st.bn
    unfold C4_1 B4_1
    rw [(hw.keep st.keep hbn).len_eq, bindO_some, binK_some bin_lss, ifK_d]
    by_cases hlt : i < np
    · have hI : I64 ((i : Int) + 1) := by unfold I64; omega
      have hcast : ((i : Int) + 1) = ((i + 1 : Nat) : Int) := by omega
      have tail2 : ∀ (u11' u12' : Value) (H' : Hp) (n' : Nat), LB H0 H' base n' u11' u12' (listOf (missB X ps) (i + 1)) (listOf (overB X ps) (i + 1)) →
          ∃ H2 n2, C4_2 c k m b1 w (.pointer (some ⟨b0, 0, none⟩)) (.slice (some ⟨bb, 0, none⟩) np cp) u7 u8 u11' u12' (.int .i64 i) H' n' = some (.bool true, H2, n2) := by
        intro u11' u12' H' n' s
        unfold C4_2 B4_2
        rw [binK_some (bin_add hI), hcast]
        exact ih u11' u12' H' n' s hlt
      have tail3 : ∀ (u11' : Value) (H' : Hp) (n' : Nat), LB H0 H' base n' u11' u12 (listOf (missB X ps) (i + 1)) (listOf (overB X ps) i) →
          ∃ H2 n2, C4_3 c k m b1 w (.pointer (some ⟨b0, 0, none⟩)) (.slice (some ⟨bb, 0, none⟩) np cp) u7 u8 u11' u12 (.int .i64 i) H' n' = some (.bool true, H2, n2) := by
        intro u11' H' n' s
        have sbn := s.bn
        obtain ⟨H2, n2, e1, e2, e3⟩ := Ho H' n' i hlt (hg.keep s.keep sbn) (hw.keep s.keep sbn)
        have s2 := s.go e3 e2
        unfold C4_3 B4_3
        rw [addrV_eq, bindO_some, load26 (hbox.keep s.keep hb0) h1.hole.1 h2.hole.1 h3.hole.1, bindO_some, e1]
        cases hb : overB X ps i with
        | true =>
          obtain ⟨u', H3, d1, d2, d3, d4⟩ := push_int (ρ := Value × Hp × Nat) s2.v12 s2.bn (by have := (listOf_small (overB X ps) i (by omega)).1; omega) i
          rw [ifK_t, d1]
          refine tail2 _ _ _ _ ?_
          have := s2.push12 d2 (by omega) d3 d4
          rw [listOf_next (overB X ps), if_pos hb]
          exact this
        | false =>
          rw [ifK_f]
          refine tail2 _ _ _ _ ?_
          rw [listOf_next (overB X ps), if_neg (by rw [hb]; simp), List.append_nil]
          exact s2
      have hcH := hcb.keep st.keep hbb
      have lX : (X.take (np * 2)).length = np * 2 := by rw [List.length_take]; omega
      have tk : ∀ j, j < np * 2 → (X.take (np * 2)).getD j 0 = X.getD j 0 := fun j hj => by
        rw [List.getD_eq_getElem?_getD, List.getD_eq_getElem?_getD, List.getElem?_take_of_lt hj]
      have lb : loadV P H 53 ⟨bb, 0 + i * 2, none⟩ = some (.agg ⟨[.int .i64 (X.getD (i * 2) 0), .int .i64 (X.getD (i * 2 + 1) 0)]⟩) := by
        rw [loadV_agg hcH agg53 sz53 (by rw [ints_length]; omega) (ints_noHole _), two_at (by omega), tk _ (by omega), tk _ (by omega)]
      obtain ⟨H2, n2, a1, a2, a3⟩ := effK_read (ρ := Value × Hp × Nat) (ex := [.l 53 ⟨bb, 0 + i * 2, none⟩]) (H := H) (n := n) (v := .agg ⟨[.int .i64 (X.getD (i * 2) 0), .int .i64 (X.getD (i * 2 + 1) 0)]⟩)
        (op := fun H n k => callFK P c 27 [.agg ⟨[x, y, z]⟩, w, .int .i64 i] H n fun v H n => k v H n)
        (fun q hq => by
          simp only [List.mem_cons, List.not_mem_nil, or_false] at hq
          subst hq
          exact ⟨_, _, rfl, by show bb < n; omega, block_of hcH⟩)
        (fun Hm' hm => by
          obtain ⟨H2, n2, e1, e2, e3⟩ := Hb Hm' n i hlt (same_grove hm (hg.keep st.keep hbn)) (same_list hm (hw.keep st.keep hbn))
          exact ⟨H2, n2, fun k => e1 _, e2, e3⟩)
      have s2 := st.go a3 a2
      obtain ⟨H3, n3, b1', b2, b3⟩ := effK_read (ρ := Value × Hp × Nat) (ex := [.l 53 ⟨bb, 0 + i * 2, none⟩]) (H := H2) (n := n2) (v := .agg ⟨[.int .i64 (X.getD (i * 2) 0), .int .i64 (X.getD (i * 2 + 1) 0)]⟩)
        (op := fun H n k => callFK P c 26 [.agg ⟨[.int .i64 (X.getD (i * 2) 0), .int .i64 (X.getD (i * 2 + 1) 0)]⟩] H n fun v H n => k v H n)
        (fun q hq => by
          simp only [List.mem_cons, List.not_mem_nil, or_false] at hq
          subst hq
          exact ⟨_, _, rfl, by show bb < n2; omega, block_of (hcH.keep a3 (by omega))⟩)
        (fun Hm' _ => ⟨Hm', n2, fun k => Hto _ _ Hm' n2 _, Nat.le_refl _, Keep.refl _ _⟩)
      have s3 := s2.go b3 b2
      have s3bn := s3.bn
      obtain ⟨H4, n4, c1, c2, c3⟩ := Hm H3 n3 i hlt (hg.keep s3.keep s3bn) (hw.keep s3.keep s3bn)
      have s4 := s3.go c3 c2
      rw [if_pos (by omega), at45 _ _ _ hlt, bindO_some, addrV_eq, bindO_some, lb, bindO_some, addrV_eq, bindO_some, load26 (hbox.keep st.keep hb0) h1.hole.1 h2.hole.1 h3.hole.1, bindO_some, a1, b1', binK_some (neq53 ..), ifK_f,
        bindO_some, load26 (hbox.keep s3.keep hb0) h1.hole.1 h2.hole.1 h3.hole.1, bindO_some, c1]
      cases hb : missB X ps i with
      | true =>
        obtain ⟨u', H5, d1, d2, d3, d4⟩ := push_int (ρ := Value × Hp × Nat) s4.v11 s4.bn (by have := (listOf_small (missB X ps) i (by omega)).1; omega) i
        rw [ifK_t, d1]
        refine tail3 _ _ _ ?_
        have := s4.push11 d2 (by omega) d3 d4
        rw [listOf_next (missB X ps), if_pos hb]
        exact this
      | false =>
        rw [ifK_f]
        refine tail3 _ _ _ ?_
        rw [listOf_next (missB X ps), if_neg (by rw [hb]; simp), List.append_nil]
        exact s4
    · rw [if_neg (by omega)]
      have hi' : i = np := by omega
      subst hi'
      obtain ⟨i4, i5⟩ := listOf_small (missB X ps) i (by omega)
      obtain ⟨j4, j5⟩ := listOf_small (overB X ps) i (by omega)
      obtain ⟨r, H2, n2, a1, a2, a3, a4⟩ := Hi H n _ _ u7 u11 _ _ (h7.keep st.keep hbn) (VecAt.list st.v11 i5) (by omega)
      have s2 := st.go a4 a3
      obtain ⟨r', H3, n3, b1', b2, b3, b4⟩ := Hi H2 n2 _ _ u8 u12 _ _ (h8.keep s2.keep s2.bn) (VecAt.list s2.v12 j5) (by omega)
      have hr : r = true := a1.2 rfl
      have hr' : r' = true := b1'.2 rfl
      subst hr hr'
      rw [a2]
      simp only [guardK_tt, b2, bindO_some, pickV_t, Hawake]
      exact ⟨_, _, rfl⟩
  intro m
  induction m with
  | zero =>
    intro i u11 u12 H n h1 h2 h3
    exact body _ 0 i u11 u12 H n h1 h2 (fun _ _ _ _ _ h => by omega)
  | succ m ih =>
    intro i u11 u12 H n h1 h2 h3
    exact body _ (m + 1) i u11 u12 H n h1 h2 (fun u11 u12 H n q1 q2 => ih (i + 1) u11 u12 H n q1 (by omega) (by omega))
end Go.Proofs.Ytakjjillnllocaa.spec
namespace Go.Proofs.Ytakjjillnllocaa.spec
open Go Go.Ev Go.Proofs.Ytakjjillnllocaa.nestFits Go.Proofs.Ytakjjillnllocaa.G
set_option maxRecDepth 100000
variable {ρ : Type}
theorem row_one {X Y js ks L : List Int} {nj np i : Nat} (hX : RowIs X js ks L nj np i) (hY : RowIs Y js ks L nj np i) : X = Y := by
  obtain ⟨l1, h1⟩ := hX
  obtain ⟨l2, h2⟩ := hY
  have key : ∀ k, k < 16 → X.getD k 0 = Y.getD k 0 := fun k hk => by
    obtain ⟨a, b⟩ := h1 (k / 2) (by omega)
    obtain ⟨c, d⟩ := h2 (k / 2) (by omega)
    rcases Nat.mod_two_eq_zero_or_one k with z | z
    · rw [show k = k / 2 * 2 by omega, a, c]
    · rw [show k = k / 2 * 2 + 1 by omega, b, d]
  apply List.ext_getElem?
  intro k
  by_cases hk : k < 16
  · rw [getD_some (by omega), getD_some (by omega), key k hk]
  · rw [List.getElem?_eq_none (by omega), List.getElem?_eq_none (by omega)]
theorem add00 (p q : Operand) : binV P .add 3 p q (.int .i64 0) (.int .i64 0) = some (.int .i64 0) := by kernel_rfl
theorem len45_nil : lenV P 45 (.slice none 0 0) = some (.int .i64 0) := by kernel_rfl
theorem len44_0 : lenV P 44 (.slice none 0 0) = some (.int .i64 0) := by kernel_rfl
theorem len45_s (b l c : Nat) : lenV P 45 (.slice (some ⟨b, 0, none⟩) l c) = some (.int .i64 l) := by
  unfold lenV
  simp only [und45]
  rfl
theorem bounds_core (c : Cal) (S : Value → Value → Value → Value → Value → Value → Value → Value → Hp → Nat → Res) {np nj nk nl : Nat} {ps js ks ls : List Int} {w : Value} {E : Int}
    (Hawake : ∀ (H : Hp) (n : Nat) (k : Value → Hp → Nat → Res), callFK P c 16 [] H n k = k (.bool true) H n)
    (Hthin : ∀ (H : Hp) (n : Nat) (v : Value), GroveI H n v np nj nk ps js ks → ListR H n w nl ls → ∃ (r : Bool) (H' : Hp) (n' : Nat), (r = true ↔ thin np nj nk nl) ∧ (∀ k : Value → Hp → Nat → Res, callFK P c 15 [v, w] H n k = k (.bool r) H' n') ∧ n ≤ n' ∧ Keep n H H')
    (Hgrove : ∀ (H : Hp) (n : Nat) (v : Value), GroveI H n v np nj nk ps js ks → thin np nj nk nl → ∃ u H' n', (∀ k : Value → Hp → Nat → Res, callFK P c 18 [v] H n k = k u H' n') ∧ n ≤ n' ∧ Keep n H H' ∧ GroveP H' n' u np nj nk ps js ks)
    (Hlist : ∀ (H : Hp) (n : Nat), ListR H n w nl ls → thin np nj nk nl → ∃ u H' n', (∀ k : Value → Hp → Nat → Res, callFK P c 23 [w] H n k = k u H' n') ∧ n ≤ n' ∧ Keep n H H' ∧ ListR H' n' u nl ls)
    (HBbad : E ≠ 0 → thin np nj nk nl → ∀ (H : Hp) (n : Nat) (v u : Value), GroveP H n v np nj nk ps js ks → ListR H n u nl ls → ∃ H' n', (∀ k : Value → Hp → Nat → Res, callFK P c 22 [v, u] H n k = k (.tuple ⟨[.slice none 0 0, .int .i64 E]⟩) H' n') ∧ n ≤ n' ∧ Keep n H H')
    (HBgood : E = 0 → thin np nj nk nl → ∀ (H : Hp) (n : Nat) (v u : Value), GroveP H n v np nj nk ps js ks → ListR H n u nl ls → ∃ (b cp : Nat) (X : List Int) (H' : Hp) (n' : Nat), (∀ k : Value → Hp → Nat → Res, callFK P c 22 [v, u] H n k = k (.tuple ⟨[.slice (some ⟨b, 0, none⟩) np cp, .int .i64 0]⟩) H' n') ∧ n ≤ n' ∧ Keep n H H' ∧ b < n' ∧
      RowIs X js ks (laidL ls np) nj np 8 ∧ CellsAt H' b 0 (ints (X.take (np * 2))))
    (HFbad : E ≠ 0 → thin np nj nk nl → ∀ (H : Hp) (n : Nat) (v u : Value), GroveP H n v np nj nk ps js ks → ListR H n u nl ls → ∃ H' n', (∀ k : Value → Hp → Nat → Res, callFK P c 24 [v, u] H n k = k (.tuple ⟨[.slice none 0 0, .slice none 0 0, .int .i64 E]⟩) H' n') ∧ n ≤ n' ∧ Keep n H H')
    (HFgood : E = 0 → thin np nj nk nl → ∀ (H : Hp) (n : Nat) (v u : Value), GroveP H n v np nj nk ps js ks → ListR H n u nl ls → ∃ (X : List Int) (u4 u5 : Value) (H' : Hp) (n' : Nat), RowIs X js ks (laidL ls np) nj np 8 ∧ (∀ k : Value → Hp → Nat → Res, callFK P c 24 [v, u] H n k = k (.tuple ⟨[u4, u5, .int .i64 0]⟩) H' n') ∧ n ≤ n' ∧ Keep n H H' ∧
      ListR H' n' u4 (listOf (missB X ps) np).length (listOf (missB X ps) np) ∧ ListR H' n' u5 (listOf (overB X ps) np).length (listOf (overB X ps) np))
    (Hplaced : ∀ (H : Hp) (n : Nat) (v : Value), GroveI H n v np nj nk ps js ks → ListR H n w nl ls → ∃ H' n', (∀ k : Value → Hp → Nat → Res, callFK P c 25 [v, w] H n k = k (.int .i64 E) H' n') ∧ n ≤ n' ∧ Keep n H H')
    (Hnl : E = 0 → nl = np)
    (Hloop : E = 0 → thin np nj nk nl → ∀ (X : List Int) (H : Hp) (n b0 bb cp : Nat) (x y z u7 u8 : Value), RowIs X js ks (laidL ls np) nj np 8 → GroveI H n (.agg ⟨[x, y, z]⟩) np nj nk ps js ks → ListR H n w np ls → CellsAt H b0 0 [x, y, z] → b0 < n → CellsAt H bb 0 (ints (X.take (np * 2))) → bb < n →
      ListR H n u7 (listOf (missB X ps) np).length (listOf (missB X ps) np) → ListR H n u8 (listOf (overB X ps) np).length (listOf (overB X ps) np) →
      ∃ H' n', S w (.pointer (some ⟨b0, 0, none⟩)) (.slice (some ⟨bb, 0, none⟩) np cp) u7 u8 (.slice none 0 0) (.slice none 0 0) (.int .i64 0) H n = some (.bool true, H', n'))
    {H : Hp} {n : Nat} {v : Value} (hg : GroveI H n v np nj nk ps js ks) (hw : ListR H n w nl ls) : ∃ H' n', B4_0 c KK S v w H n = some (.bool true, H', n') := by
  have hg0 := hg
  obtain ⟨x, y, z, rfl, h1, h2, h3⟩ := hg.eq
  unfold B4_0
  rw [boxK_eq]
  simp only [cellsV, ptr]
  have hk : Keep n H (H.set n (some (.cells [x, y, z] 26 false none))) := (Keep.refl n H).set (Nat.le_refl _) _
  have hb : CellsAt (H.set n (some (.cells [x, y, z] 26 false none))) n 0 [x, y, z] := CellsAt.new
  generalize H.set n (some (.cells [x, y, z] 26 false none)) = H1 at hk hb ⊢
  have ld : ∀ H2, CellsAt H2 n 0 [x, y, z] → loadV P H2 26 ⟨n, 0, none⟩ = some (.agg ⟨[x, y, z]⟩) := fun H2 h => load26 h h1.hole.1 h2.hole.1 h3.hole.1
  have hg1 : GroveI H1 (n + 1) (.agg ⟨[x, y, z]⟩) np nj nk ps js ks := hg0.keep hk (by omega)
  have hw1 : ListR H1 (n + 1) w nl ls := hw.keep hk (by omega)
  obtain ⟨t, H2, n2, t1, t2, t3, t4⟩ := Hthin H1 (n + 1) _ hg1 hw1
  rw [addrV_eq, bindO_some, ld H1 hb, bindO_some, t2]
  cases t with
  | false =>
    rw [not_f, bindO_some, ifK_t, Hawake]
    exact ⟨_, _, rfl⟩
  | true =>
    have ht := t1.1 rfl
    have hb2 := hb.keep t4 (by omega)
    have hg2 := hg1.keep t4 t3
    have hw2 := hw1.keep t4 t3
    obtain ⟨gv, H3, n3, a1, a2, a3, a4⟩ := Hgrove H2 n2 _ hg2 ht
    have hw3 := hw2.keep a3 a2
    obtain ⟨lv, H4, n4, b1, b2, b3, b4⟩ := Hlist H3 n3 hw3 ht
    have gp4 : GroveP H4 n4 gv np nj nk ps js ks := a4.keep b3 b2
    have k4 : Keep n2 H2 H4 := a3.trans b3 a2
    rw [not_t, bindO_some, ifK_f, bindO_some, ld H2 hb2, bindO_some, a1, b1]
    by_cases he : E = 0
    · have hnl := Hnl he
      subst hnl
      obtain ⟨bb, cp, X, H5, n5, c1, c2, c3, c4, c5, c6⟩ := HBgood he ht H4 n4 gv lv gp4 b4
      have k5 : Keep n2 H2 H5 := k4.trans c3 (by omega)
      have t0 : tupV (.tuple ⟨[.slice (some ⟨bb, 0, none⟩) nl cp, .int .i64 0]⟩) 0 = some (.slice (some ⟨bb, 0, none⟩) nl cp) := rfl
      have t1 : tupV (.tuple ⟨[.slice (some ⟨bb, 0, none⟩) nl cp, .int .i64 0]⟩) 1 = some (.int .i64 0) := rfl
      obtain ⟨gv2, H6, n6, d1, d2, d3, d4⟩ := Hgrove H5 n5 _ (hg2.keep k5 (by omega)) ht
      have k6 : Keep n2 H2 H6 := k5.trans d3 (by omega)
      obtain ⟨lv2, H7, n7, e1, e2, e3, e4⟩ := Hlist H6 n6 (hw2.keep k6 (by omega)) ht
      have k7 : Keep n2 H2 H7 := k6.trans e3 (by omega)
      obtain ⟨Y, u4, u5, H8, n8, f0, f1, f2, f3, f4, f5⟩ := HFgood he ht H7 n7 gv2 lv2 (d4.keep e3 e2) e4
      have hXY := row_one f0 c5
      subst hXY
      have k8 : Keep n2 H2 H8 := k7.trans f3 (by omega)
      have s0 : tupV (.tuple ⟨[u4, u5, .int .i64 0]⟩) 0 = some u4 := rfl
      have s1 : tupV (.tuple ⟨[u4, u5, .int .i64 0]⟩) 1 = some u5 := rfl
      have s2 : tupV (.tuple ⟨[u4, u5, .int .i64 0]⟩) 2 = some (.int .i64 0) := rfl
      have hg8 := hg2.keep k8 (show n2 ≤ n8 by omega)
      have hw8 := hw2.keep k8 (show n2 ≤ n8 by omega)
      obtain ⟨H9, n9, g1, g2, g3⟩ := Hplaced H8 n8 _ hg8 hw8
      have d00 : decide ((0 : Int) = 0) = true := rfl
      have hw9 := hw8.keep g3 g2
      have ell := hw9.len_eq
      rw [c1, t0, bindO_some, t1, bindO_some, bindO_some, ld H5 (hb2.keep k5 (by omega)), bindO_some, d1, e1, f1, s0, bindO_some, s1, bindO_some, s2, bindO_some, bindO_some, ld H8 (hb2.keep k8 (by omega)), bindO_some, g1, he, binK_some bin_neq, d00, Bool.not_true, ifK_f]
      simp only [binK_some bin_neq, decide_true, Bool.not_true, guardK_ff, pickV_f, bindO_some, len45_s, ell, ifK_f]
      have k59 : Keep n5 H5 H9 := ((d3.trans e3 d2).trans f3 (by omega)).trans g3 (by omega)
      exact Hloop he ht Y H9 n9 n bb cp x y z u4 u5 f0 (hg8.keep g3 g2) hw9 ((hb2.keep k8 (by omega)).keep g3 (by omega)) (by omega) (c6.keep k59 c4) (by omega) (f4.keep g3 g2) (f5.keep g3 g2)
    · obtain ⟨H5, n5, c1, c2, c3⟩ := HBbad he ht H4 n4 gv lv gp4 b4
      have k5 : Keep n2 H2 H5 := k4.trans c3 (by omega)
      have t0 : tupV (.tuple ⟨[.slice none 0 0, .int .i64 E]⟩) 0 = some (.slice none 0 0) := rfl
      have t1 : tupV (.tuple ⟨[.slice none 0 0, .int .i64 E]⟩) 1 = some (.int .i64 E) := rfl
      obtain ⟨gv2, H6, n6, d1, d2, d3, d4⟩ := Hgrove H5 n5 _ (hg2.keep k5 (by omega)) ht
      have k6 : Keep n2 H2 H6 := k5.trans d3 (by omega)
      obtain ⟨lv2, H7, n7, e1, e2, e3, e4⟩ := Hlist H6 n6 (hw2.keep k6 (by omega)) ht
      have k7 : Keep n2 H2 H7 := k6.trans e3 (by omega)
      obtain ⟨H8, n8, f1, f2, f3⟩ := HFbad he ht H7 n7 gv2 lv2 (d4.keep e3 e2) e4
      have k8 : Keep n2 H2 H8 := k7.trans f3 (by omega)
      have s0 : tupV (.tuple ⟨[.slice none 0 0, .slice none 0 0, .int .i64 E]⟩) 0 = some (.slice none 0 0) := rfl
      have s1 : tupV (.tuple ⟨[.slice none 0 0, .slice none 0 0, .int .i64 E]⟩) 1 = some (.slice none 0 0) := rfl
      have s2 : tupV (.tuple ⟨[.slice none 0 0, .slice none 0 0, .int .i64 E]⟩) 2 = some (.int .i64 E) := rfl
      obtain ⟨H9, n9, g1, g2, g3⟩ := Hplaced H8 n8 _ (hg2.keep k8 (by omega)) (hw2.keep k8 (by omega))
      have d00 : decide ((0 : Int) = 0) = true := rfl
      have dE : decide (E = E) = true := decide_eq_true rfl
      rw [c1, t0, bindO_some, t1, bindO_some, bindO_some, ld H5 (hb2.keep k5 (by omega)), bindO_some, d1, e1, f1, s0, bindO_some, s1, bindO_some, s2, bindO_some, bindO_some, ld H8 (hb2.keep k8 (by omega)), bindO_some, g1, binK_some bin_neq, decide_eq_false he, Bool.not_false, ifK_t, binK_some bin_eql, dE]
      simp only [guardK_tt, len45_nil, len44_0, bindO_some, binK_some bin_eql, binK_some (add00 _ _), decide_true, pickV_t, Hawake]
      exact ⟨_, _, rfl⟩
end Go.Proofs.Ytakjjillnllocaa.spec
namespace Go.Proofs.Ytakjjillnllocaa.nestBounds
open Go.ChangeShapes Go.WideShapes Go.ChangeAt Go.RowKit Go.Ev Go.Proofs.Ytakjjillnllocaa.nestFits
theorem flat3 : flatT Try.prog 5 3 = some 1 := by kernel_rfl
theorem bytes3 : 1 ≤ Try.prog.bytesOf 3 := by decide +kernel
theorem cells44 : Try.prog.cellsOf 44 = 1 := by kernel_rfl
def Says (f : Nat) : Prop := ∀ (H : Hp) (n : Nat) (v w : Value) np nj nk ps js ks nl ls, GroveI H n v np nj nk ps js ks → spec.ListR H n w nl ls →
  ∃ l H' n', (calE G.P G.A (G.KK + 1) G.tab.get l).call f [v, w] H n = some (.bool true, H', n')
set_option maxRecDepth 100000
theorem there {W : World} {base : Nat} {b o len cap : Nat} {H : Hp} (hH : ∀ i, H.get i = rowsOf W i) (hok : Cell.okWide Try.prog W .any base 44 (.slice (some ⟨b, o, none⟩) len cap)) : ∃ c, H.get b = some (.rows c) := by
  simp only [Cell.okWide, Try.underlying44, Cell.ok] at hok
  obtain ⟨_, _, _, hsp, row, cells, hshape, _⟩ := hok
  rw [hH]
  unfold rowsOf
  unfold World.shape? at hshape
  dsimp only at hshape
  cases hb : W.heap[b]? with
  | none => rw [hb] at hshape; simp at hshape
  | some B =>
    rw [hb] at hshape
    cases B with
    | cells arr x y => exact ⟨_, rfl⟩
    | _ => simp at hshape
theorem list_in {W : World} {base n len : Nat} {w : Value} {xs : List Int} {H : Hp} (hH : ∀ i, H.get i = rowsOf W i) (hok : Cell.okWide Try.prog W .any base 44 w) (h : SliceI H n 1 w len xs) : spec.ListR H n w len xs := by
  obtain ⟨h1, h2, h3⟩ := h
  refine ⟨by omega, h2, ?_⟩
  rcases h3 with h3 | ⟨b, o, cap, e, a1, a2, a3, a4⟩
  · exact .inl h3
  · refine .inr ⟨b, o, cap, e, a3, ?_⟩
    rcases a4 with rfl | a4
    · subst e
      obtain ⟨c, hc⟩ := there hH hok
      have : xs = [] := List.length_eq_zero_iff.1 (by omega)
      subst this
      exact ⟨_, c, hc, rfl, fun k v h => by simp [ints] at h⟩
    · exact a4
theorem cells_one {W : World} {base : Nat} {w : Value} (hok : Cell.okWide Try.prog W .any base 44 w) : w.cells.toList = [w] := by
  cases w with
  | slice a l c => rfl
  | _ => simp only [Cell.okWide, Try.underlying44, Cell.ok] at hok
set_option maxRecDepth 100000 in
theorem walk (hs : Says 4) {K : Type} {enc : TypeId × Value → K} {W : World} {base : Nat} {v w : Value} {d d' : DataW K} {p p' : List MemPlace}
    (hok : Value.okWide Try.prog W .any base 26 v) (ht : DataW.Trod enc Try.prog W 0 (fun _ => true) true 26 v d p) (hw : ∀ n ∈ d.weights Try.prog 26, n ≤ reachBytes)
    (hok' : Value.okWide Try.prog W .any base 44 w) (ht' : DataW.Trod enc Try.prog W 0 (fun _ => true) true 44 w d' p') (hw' : ∀ n ∈ d'.weights Try.prog 44, n ≤ reachBytes) :
    Calls Try.prog 4 #[v, w] W fun e w' => e = .returned (.bool true) ∧ Grown W w' ∧ ∀ b, b < W.heap.size → w'.heap[b]? = W.heap[b]? := by
  obtain ⟨H, hH, hI⟩ := I.start W
  obtain ⟨np, nj, nk, ps, js, ks, hg, hv⟩ := grove_in hH hok ht hw
  have hc : Cell.okWide Try.prog W .any base 44 w := by
    unfold Value.okWide at hok'
    rw [Try.underlying44] at hok'
    exact hok'
  obtain ⟨fuel, ht'⟩ := ht'
  rw [cells_one hc] at ht'
  obtain ⟨nl, ls, hsl, hv'⟩ := slice_in hH Try.underlying44 flat3 (by omega) bytes3 ht' hw' hc
  obtain ⟨l, H', n', e⟩ := hs H W.heap.size v w np nj nk ps js ks nl ls hg (list_in hH hc hsl)
  refine (calls_of_tower_open G.tab_ok hI (VRL.cons hv (VRL.cons hv' VRL.nil)) e rfl).mono ?_
  rintro en w' ⟨h1, h2, h3, h4, h5, h6, h7⟩
  exact ⟨h1, grown_of h2 h4 h5 h6 h7, h6⟩
set_option maxRecDepth 100000 in
theorem lifted (hs : Says 4) (os : Os) (started : os.Started) (H : Type) (enc : TypeId × Value → H) :
    ReturnsInHanded {} Try.checked os 4 .any (Rows.nestBoundsSpec.pre6 enc Try.prog Try.f4 Rows.nestBoundsRow.domain false) (Rows.nestBoundsSpec.post enc Try.prog Try.f4 false true false false) := by
  refine returnsInHanded_of_change_sized (C := Try.checked) own started (by kernel_rfl) Try.func4
    (ChangeSpec.witness6 (enc := enc) (C := Try.checked) false ⟨#[], #[.agg #[.slice none 0 0, .slice none 0 0, .slice none 0 0], .slice none 0 0], []⟩ 8 (by kernel_rfl) (by kernel_rfl) (by kernel_rfl) (by kernel_rfl)) ?_
  intro W base args ds gs before hval0 hW hcnd hsz _
  have hval : ∀ (j : Nat) t v, Try.f4.params[j]? = some t → args[j]? = some v → Value.okWide Try.prog W .any base t v := hval0
  have hW' := hW
  obtain ⟨p, q, hA0, hV, rfl, hfz, hnd⟩ := hW
  have hA : DataW.TrodAll enc Try.prog W 0 (fun _ => true) true Try.f4.params.toList args.toList ds p := hA0
  have hAk := hA
  rw [Try.params4] at hA hval
  obtain ⟨v, w, d, d', p0, p1, rfl, rfl, rfl, h0, h1⟩ := trodAll_two hA
  obtain ⟨rfl, rfl⟩ := trodVars_none hV
  simp only [List.append_nil] at hW' hAk
  have hall : ∀ n ∈ d.weights Try.prog 26 ++ (d'.weights Try.prog 44 ++ []), n ≤ reachBytes := by
    intro n hn
    have hm : n ∈ DataW.weightsEach Try.checked.prog (Try.f4.params.toList ++ DataSpec.varTypes Try.checked.prog Rows.nestBoundsSpec.plain) ([d, d'] ++ []) := by
      rw [Try.params4]
      exact hn
    have := List.all_eq_true.1 hsz n hm
    simpa using this
  refine (walk hs (hval 0 26 v rfl rfl) h0 (fun n hn => hall n (List.mem_append_left _ hn)) (hval 1 44 w rfl rfl) h1 (fun n hn => hall n (List.mem_append_right _ (List.mem_append_left _ hn)))).mono fun e W' ⟨he, hg, hk⟩ => ?_
  subst he
  exact ⟨_, rfl, post_of_same (pv := []) hW' (fun _ _ _ => (trodAll_cons_mk (shut_bool Try.underlying4 _) trodAll_mk0))
    (fun sp hsp => DataW.TrodAll.respare kids full (by rw [Try.params4]; decide +kernel) (carryAll hk hAk) hsp) (fun _ _ => rfl) (by simp)
    (hg.frame _) hg.2.1 (ok_one (by kernel_rfl) rfl (okWide_bool_mk Try.underlying4 _))⟩
theorem over (hs : Says 4) : Rows.nestBoundsRow.holds Try.pinned (OpenSpec.ofChange Rows.nestBoundsSpec) :=
  OpenClaim.holds_of_wide 4 Try.f4 rfl rfl rfl rfl rfl rfl rfl ⟨rfl, rfl, rfl, rfl, rfl⟩ rfl rfl rfl rfl rfl (by kernel_rfl) Try.func4 (by kernel_rfl)
    (of_decide_eq_true (by kernel_rfl)) (by unfold Func.isWrapper; first | (rw [if_pos (by decide +kernel)]; kernel_rfl) | (rw [if_neg (by decide +kernel)]; exact ⟨rfl, rfl⟩))
    (fun os started H enc _ => lifted hs os started H enc)
theorem said (hs : Says 4) : Rows.NestBoundsSaid := over hs
end Go.Proofs.Ytakjjillnllocaa.nestBounds
namespace Go.Proofs.Ytakjjillnllocaa.spec
open Go Go.Ev Go.Proofs.Ytakjjillnllocaa.nestFits Go.Proofs.Ytakjjillnllocaa.G
set_option maxRecDepth 100000
theorem placed_zero {np nj nk nl : Nat} {ps js ks ls : List Int} (h : placedN np nj nk nl ps js ks ls = 0) : Good np nj nk ps js ks ∧ nl = np ∧ laidOk js ks ls nj np nk := by
  unfold placedN at h
  by_cases c1 : faultN np nj nk ps js ks ≠ 0
  · rw [if_pos c1] at h; exact absurd h c1
  · rw [if_neg c1] at h
    by_cases c2 : nl = np ∧ laidOk js ks ls nj np nk
    · exact ⟨good_of (Decidable.not_not.1 c1), c2.1, c2.2⟩
    · rw [if_neg c2] at h; omega
theorem bounds_bad {np nj nk nl : Nat} {ps js ks ls : List Int} (he : placedN np nj nk nl ps js ks ls ≠ 0) (ht : thin np nj nk nl) (H : Hp) (n : Nat) (v u : Value) (hg : GroveP H n v np nj nk ps js ks) (hw : ListR H n u nl ls) :
    ∃ H' n', (∀ k : Value → Hp → Nat → Res, callFK P (cal (52 + 8)) 22 [v, u] H n k = k (.tuple ⟨[.slice none 0 0, .int .i64 (placedN np nj nk nl ps js ks ls)]⟩) H' n') ∧ n ≤ n' ∧ Keep n H H' := by
  obtain ⟨l1, l2, l3, _⟩ := ht
  obtain ⟨H', n', e, h1, h2⟩ := (Bounds_spec 52 hg hw (by omega) (by omega) (by omega)).1 he
  exact ⟨H', n', fun k => by rw [Bounds_call, e]; rfl, h1, h2⟩
theorem bounds_good {np nj nk nl : Nat} {ps js ks ls : List Int} (he : placedN np nj nk nl ps js ks ls = 0) (ht : thin np nj nk nl) (H : Hp) (n : Nat) (v u : Value) (hg : GroveP H n v np nj nk ps js ks) (hw : ListR H n u nl ls) :
    ∃ (b cp : Nat) (X : List Int) (H' : Hp) (n' : Nat), (∀ k : Value → Hp → Nat → Res, callFK P (cal (52 + 8)) 22 [v, u] H n k = k (.tuple ⟨[.slice (some ⟨b, 0, none⟩) np cp, .int .i64 0]⟩) H' n') ∧ n ≤ n' ∧ Keep n H H' ∧ b < n' ∧
      RowIs X js ks (laidL ls np) nj np 8 ∧ CellsAt H' b 0 (ints (X.take (np * 2))) := by
  obtain ⟨l1, l2, l3, _⟩ := ht
  obtain ⟨b, cp, X, H', n', e, h1, h2, h3, h4, h5⟩ := (Bounds_spec 52 hg hw (by omega) (by omega) (by omega)).2 he
  exact ⟨b, cp, X, H', n', fun k => by rw [Bounds_call, e]; rfl, h1, h2, h3, h4, h5⟩
theorem faults_bad {np nj nk nl : Nat} {ps js ks ls : List Int} (he : placedN np nj nk nl ps js ks ls ≠ 0) (ht : thin np nj nk nl) (H : Hp) (n : Nat) (v u : Value) (hg : GroveP H n v np nj nk ps js ks) (hw : ListR H n u nl ls) :
    ∃ H' n', (∀ k : Value → Hp → Nat → Res, callFK P (cal (52 + 8)) 24 [v, u] H n k = k (.tuple ⟨[.slice none 0 0, .slice none 0 0, .int .i64 (placedN np nj nk nl ps js ks ls)]⟩) H' n') ∧ n ≤ n' ∧ Keep n H H' := by
  obtain ⟨l1, l2, l3, _⟩ := ht
  obtain ⟨H', n', e, h1, h2⟩ := (Faults_spec 52 hg hw (by omega) (by omega) (by omega)).1 he
  exact ⟨H', n', fun k => by rw [Faults_call, e]; rfl, h1, h2⟩
theorem faults_good {np nj nk nl : Nat} {ps js ks ls : List Int} (he : placedN np nj nk nl ps js ks ls = 0) (ht : thin np nj nk nl) (H : Hp) (n : Nat) (v u : Value) (hg : GroveP H n v np nj nk ps js ks) (hw : ListR H n u nl ls) :
    ∃ (X : List Int) (u4 u5 : Value) (H' : Hp) (n' : Nat), RowIs X js ks (laidL ls np) nj np 8 ∧ (∀ k : Value → Hp → Nat → Res, callFK P (cal (52 + 8)) 24 [v, u] H n k = k (.tuple ⟨[u4, u5, .int .i64 0]⟩) H' n') ∧ n ≤ n' ∧ Keep n H H' ∧
      ListR H' n' u4 (listOf (missB X ps) np).length (listOf (missB X ps) np) ∧ ListR H' n' u5 (listOf (overB X ps) np).length (listOf (overB X ps) np) := by
  obtain ⟨l1, l2, l3, _⟩ := ht
  obtain ⟨X, hX, u4, u5, H', n', e, h1, h2, h3, h4⟩ := (Faults_spec 52 hg hw (by omega) (by omega) (by omega)).2 he
  exact ⟨X, u4, u5, H', n', hX, fun k => by rw [Faults_call, e]; rfl, h1, h2, h3, h4⟩
theorem ref_bounds {np nj nk q : Nat} {ps js ks ls X : List Int} (good : Good np nj nk ps js ks) (hok : laidOk js ks ls nj np nk) (hX : RowIs X js ks (laidL ls np) nj np 8) (hq : q < np) {H : Hp} {n : Nat} {v w : Value} (hg : GroveI H n v np nj nk ps js ks) (hw : ListR H n w np ls) :
    ∃ H' n', (∀ k : Value → Hp → Nat → Res, callFK P (cal (55 + 5)) 27 [v, w, .int .i64 q] H n k = k (.agg ⟨[.int .i64 (X.getD (q * 2) 0), .int .i64 (X.getD (q * 2 + 1) 0)]⟩) H' n') ∧ n ≤ n' ∧ Keep n H H' := by
  have := good.np8
  obtain ⟨x0, x1⟩ := hX.2 q (by omega)
  obtain ⟨H', n', e1, e2, e3⟩ := rbounds_call (ρ := Value × Hp × Nat) 55 good hok hq hg hw
  exact ⟨H', n', fun k => by rw [x0, x1]; exact e1 k, e2, e3⟩
theorem ref_missed {np nj nk q : Nat} {ps js ks ls X : List Int} (good : Good np nj nk ps js ks) (hok : laidOk js ks ls nj np nk) (hX : RowIs X js ks (laidL ls np) nj np 8) (hq : q < np) {H : Hp} {n : Nat} {v w : Value} (hg : GroveI H n v np nj nk ps js ks) (hw : ListR H n w np ls) :
    ∃ H' n', (∀ k : Value → Hp → Nat → Res, callFK P (cal (54 + 6)) 28 [v, w, .int .i64 q] H n k = k (.bool (missB X ps q)) H' n') ∧ n ≤ n' ∧ Keep n H H' := by
  have := good.np8
  obtain ⟨x0, x1⟩ := hX.2 q (by omega)
  obtain ⟨H', n', e1, e2, e3⟩ := missedR_call (ρ := Value × Hp × Nat) 54 good hok hq hg hw
  exact ⟨H', n', fun k => by unfold missB; rw [x0]; exact e1 k, e2, e3⟩
theorem ref_over {np nj nk q : Nat} {ps js ks ls X : List Int} (good : Good np nj nk ps js ks) (hok : laidOk js ks ls nj np nk) (hX : RowIs X js ks (laidL ls np) nj np 8) (hq : q < np) {H : Hp} {n : Nat} {v w : Value} (hg : GroveI H n v np nj nk ps js ks) (hw : ListR H n w np ls) :
    ∃ H' n', (∀ k : Value → Hp → Nat → Res, callFK P (cal (54 + 6)) 29 [v, w, .int .i64 q] H n k = k (.bool (overB X ps q)) H' n') ∧ n ≤ n' ∧ Keep n H H' := by
  have := good.np8
  obtain ⟨x0, x1⟩ := hX.2 q (by omega)
  obtain ⟨H', n', e1, e2, e3⟩ := overR_call (ρ := Value × Hp × Nat) 54 good hok hq hg hw
  exact ⟨H', n', fun k => by unfold overB; rw [x1]; exact e1 k, e2, e3⟩
theorem bounds_law_spec {np nj nk nl : Nat} {ps js ks ls : List Int} {H : Hp} {n : Nat} {v w : Value} (hg : GroveI H n v np nj nk ps js ks) (hw : ListR H n w nl ls) : ∃ H' n', C4_0 (cal 60) KK v w H n = some (.bool true, H', n') := by
  unfold C4_0
  exact bounds_core (cal 60) (S4_1 (cal 60) KK KK) (E := placedN np nj nk nl ps js ks ls) (fun H n k => awake_call H n k) (fun H n v h1 h2 => thin_call 59 h1 h2.len_eq)
    (fun H n v h ht => grove_call 58 h (by have := ht.1; omega) (by have := ht.2.1; omega) (by have := ht.2.2.1; omega))
    (fun H n h ht => list_call 59 h (by have := ht.2.2.2; omega))
    (fun he ht H n v u h1 h2 => bounds_bad he ht H n v u h1 h2) (fun he ht H n v u h1 h2 => bounds_good he ht H n v u h1 h2)
    (fun he ht H n v u h1 h2 => faults_bad he ht H n v u h1 h2) (fun he ht H n v u h1 h2 => faults_good he ht H n v u h1 h2)
    (fun H n v h1 h2 => placedN_call 54 h1 h2) (fun he => (placed_zero he).2.1)
    (fun he ht X H n b0 bb cp x y z u7 u8 hX hg hw hbox hb0 hcb hbb h7 h8 => by
      obtain ⟨good, _, hok⟩ := placed_zero he
      have np8 := good.np8
      exact bounds_law_loop (cal 60) KK (fun H n k => awake_call H n k) (fun a b H n k => to_call 59 a b H n k) (fun H n q hq h1 h2 => ref_bounds good hok hX hq h1 h2) (fun H n q hq h1 h2 => ref_missed good hok hX hq h1 h2) (fun H n q hq h1 h2 => ref_over good hok hX hq h1 h2)
        (fun H n l1 l2 u v xs ys h1 h2 h3 => ints_call 59 h1 h2 h3) hg hw np8 hX.1 hbox hb0 hcb hbb h7 h8 KK 0 (.slice none 0 0) (.slice none 0 0) H n
        ⟨Keep.refl _ _, Nat.le_refl _, ⟨rfl, .inl ⟨rfl, rfl⟩⟩, ⟨rfl, .inl ⟨rfl, rfl⟩⟩, fun k h => absurd h (nil_off (v := x))⟩ (Nat.zero_le _) (by unfold KK; omega)) hg hw
theorem call4 (v w : Value) (H : Hp) (n : Nat) : (cal (60 + 1)).call 4 [v, w] H n = C4_0 (cal 60) KK v w H n := by kernel_rfl
theorem says : nestBounds.Says 4 := by
  intro H n v w np nj nk ps js ks nl ls hg hw
  obtain ⟨H', n', e⟩ := bounds_law_spec hg hw
  exact ⟨60 + 1, H', n', (call4 v w H n).trans e⟩
/-- ████ THE STATEMENT ████ -/
theorem proved : Rows.NestBoundsSaid := nestBounds.said says
#print axioms proved
end Go.Proofs.Ytakjjillnllocaa.spec
