/- The spread of any layout with which any pad has an end of its bounds is as the document says, or the error is: whatever the grove, the layout, the pad and the end. -/
import Derived.Test.YtgojjellogiglaaB2
section
namespace Go.Proofs.Ytgojjellogiglaa.spec
open Go Go.Ev Go.Proofs.Ytgojjellogiglaa.nestFits Go.Proofs.Ytgojjellogiglaa.G
set_option maxRecDepth 100000
variable {ρ : Type}
def SpreadI (H : Hp) (n : Nat) (v : Value) (len : Nat) (rw_ : Nat → Value) (R : Nat → List Int) : Prop := ((v = .slice none 0 0 ∧ len = 0) ∨ ∃ b o cap, v = .slice (some ⟨b, o, none⟩) len cap ∧ b < n ∧ CellsAt H b o ((List.range len).map rw_)) ∧ ∀ p, p < len → ListR H n (rw_ p) (R p).length (R p)
theorem SpreadI.keep {H H' : Hp} {n m len : Nat} {v : Value} {rw_ : Nat → Value} {R : Nat → List Int} (h : SpreadI H n v len rw_ R) (hk : Keep n H H') (hm : n ≤ m) : SpreadI H' m v len rw_ R := by
  obtain ⟨h1, h2⟩ := h
  refine ⟨?_, fun p hp => (h2 p hp).keep hk hm⟩
  rcases h1 with h | ⟨b, o, cap, e, a, c⟩
  · exact .inl h
  · exact .inr ⟨b, o, cap, e, by omega, c.keep hk a⟩
theorem SpreadI.len_eq {H : Hp} {n len : Nat} {v : Value} {rw_ : Nat → Value} {R : Nat → List Int} (h : SpreadI H n v len rw_ R) : lenV P 59 v = some (.int .i64 len) := by
  rcases h.1 with ⟨rfl, rfl⟩ | ⟨b, o, cap, rfl, _⟩
  · unfold lenV; simp only [und59]; rfl
  · unfold lenV; simp only [und59]; rfl
theorem ListR.holes {H : Hp} {n len : Nat} {v : Value} {xs : List Int} (h : ListR H n v len xs) : noHole v = true ∧ noHoles v = true := by
  rcases h.2.2 with ⟨rfl, _⟩ | ⟨b, o, cap, rfl, _⟩ <;> exact ⟨rfl, rfl⟩
theorem SpreadI.at_ {H : Hp} {n len : Nat} {v : Value} {rw_ : Nat → Value} {R : Nat → List Int} (h : SpreadI H n v len rw_ R) {p : Nat} (hp : p < len) :
    ∃ b o, indexAddrV P 59 v (.int .i64 p) = some (.pointer (some ⟨b, o, none⟩)) ∧ b < n ∧ loadV P H 44 ⟨b, o, none⟩ = some (rw_ p) := by
  have hl := h.2 p hp
  rcases h.1 with ⟨rfl, rfl⟩ | ⟨b, o, cap, rfl, a, c⟩
  · omega
  · refine ⟨b, o + p, ?_, a, ?_⟩
    · unfold indexAddrV
      simp only [und59, idx_lt hp, sz44]
      simp [addA]
    · exact loadV_scalar c agg44 (by rw [List.getElem?_map, List.getElem?_range hp]; rfl) hl.holes.1 hl.holes.2
theorem SpreadI.of_cells {H : Hp} {n bs len cap : Nat} {rw_ : Nat → Value} {R : Nat → List Int} (hb : bs < n) (hc : CellsF H bs len 44 rw_) (hr : ∀ p, p < len → ListR H n (rw_ p) (R p).length (R p)) : SpreadI H n (.slice (some ⟨bs, 0, none⟩) len cap) len rw_ R :=
  ⟨.inr ⟨bs, 0, cap, rfl, hb, hc.at_⟩, hr⟩
def rowOk (js ks : List Int) (nj np p : Nat) (kind : Int) (xs : List Int) : Prop := if kind < 0 then xs.length = 0 else xs.length = np ∧ (∀ o : Nat, o < np → (reach js ks nj kind.toNat p o).1 ≤ xs.getD o 0 ∧ xs.getD o 0 ≤ (reach js ks nj kind.toNat p o).2) ∧ sumTo (fun o => xs.getD o 0) np = ks.getD (kind.toNat * 5) 0
theorem isSpread_loop3 (l k m1 : Nat) {np nj nk p kd : Nat} {ps js ks ls : List Int} (good : Good np nj nk ps js ks) (g0 : Nat) (x y z w v : Value) (rw_ : Nat → Value) (R : Nat → List Int) (b1 : Value → Value → Value → Value → Hp → Nat → Res) (Rest : Prop) (hp : p < np) (hkd : ls.getD p 0 = kd) (hk : kd < nk) (hR : (R p).length = np) :
    ∀ (m o : Nat) (sum : Int) (H : Hp) (n : Nat), g0 < n → CellsAt H g0 0 [x, y, z] → GroveI H n (.agg ⟨[x, y, z]⟩) np nj nk ps js ks → ListR H n w np ls → SpreadI H n v np rw_ R → (∀ q, q < o → 0 ≤ (R p).getD q 0 ∧ (R p).getD q 0 ≤ 1000) → sum = sumTo (fun q => (R p).getD q 0) o → o ≤ np → np - o ≤ m →
    (∀ H' n', n ≤ n' → Keep n H H' → ∃ r, Ret (b1 w v (.pointer (some ⟨g0, 0, none⟩)) (.int .i64 ((p + 1 : Nat) : Int)) H' n') n' H' (.bool r) ∧ (r = true ↔ Rest)) →
    ∃ r, Ret (S33_3 (cal (l + 2)) k m1 b1 m w v (.pointer (some ⟨g0, 0, none⟩)) (.int .i64 p) (.int .i64 sum) (.int .i64 o) H n) n H (.bool r) ∧ (r = true ↔ ((∀ q : Nat, o ≤ q → q < np → (reach js ks nj kd p q).1 ≤ (R p).getD q 0 ∧ (R p).getD q 0 ≤ (reach js ks nj kd p q).2) ∧ sumTo (fun q => (R p).getD q 0) np = ks.getD (kd * 5) 0) ∧ Rest) := by
  have np8 := good.np8
  have body : ∀ (b3 : Value → Value → Value → Value → Value → Value → Hp → Nat → Res) (m o : Nat) (sum : Int) (H : Hp) (n : Nat), g0 < n → CellsAt H g0 0 [x, y, z] → GroveI H n (.agg ⟨[x, y, z]⟩) np nj nk ps js ks → ListR H n w np ls → SpreadI H n v np rw_ R → (∀ q, q < o → 0 ≤ (R p).getD q 0 ∧ (R p).getD q 0 ≤ 1000) → sum = sumTo (fun q => (R p).getD q 0) o → o ≤ np →
      (∀ H' n', n ≤ n' → Keep n H H' → ∃ r, Ret (b1 w v (.pointer (some ⟨g0, 0, none⟩)) (.int .i64 ((p + 1 : Nat) : Int)) H' n') n' H' (.bool r) ∧ (r = true ↔ Rest)) →
      (∀ H' n', n ≤ n' → Keep n H H' → o < np → 0 ≤ (R p).getD o 0 ∧ (R p).getD o 0 ≤ 1000 → ∃ r, Ret (b3 w v (.pointer (some ⟨g0, 0, none⟩)) (.int .i64 p) (.int .i64 (sumTo (fun q => (R p).getD q 0) (o + 1))) (.int .i64 ((o + 1 : Nat) : Int)) H' n') n' H' (.bool r) ∧ (r = true ↔ ((∀ q : Nat, o + 1 ≤ q → q < np → (reach js ks nj kd p q).1 ≤ (R p).getD q 0 ∧ (R p).getD q 0 ≤ (reach js ks nj kd p q).2) ∧ sumTo (fun q => (R p).getD q 0) np = ks.getD (kd * 5) 0) ∧ Rest)) →
      ∃ r, Ret (C33_3 (cal (l + 2)) k m1 m b1 b3 w v (.pointer (some ⟨g0, 0, none⟩)) (.int .i64 p) (.int .i64 sum) (.int .i64 o) H n) n H (.bool r) ∧ (r = true ↔ ((∀ q : Nat, o ≤ q → q < np → (reach js ks nj kd p q).1 ≤ (R p).getD q 0 ∧ (R p).getD q 0 ≤ (reach js ks nj kd p q).2) ∧ sumTo (fun q => (R p).getD q 0) np = ks.getD (kd * 5) 0) ∧ Rest) := by
    intro b3 m o sum H n hg0 hb hg hw hv hpos hsum ho hb1 ih
    subst hsum
    obtain ⟨x', y', z', hxyz, h1, h2, h3⟩ := hg.eq
    cases hxyz
    obtain ⟨rb, ro, hix, hrb, hld⟩ := hw.at_ hp
    rw [hkd] at hld
    have ssm := sumTo_range (f := fun q => (R p).getD q 0) (c := 1000) (i := o) (fun q hq => hpos q hq)
    unfold C33_3 B33_3
    rw [hw.len_eq, bindO_some, binK_some bin_lss, ifK_d]
    by_cases hlt : o < np
    · have hI : I64 ((o : Int) + 1) := by unfold I64; omega
      have hcast : ((o : Int) + 1) = ((o + 1 : Nat) : Int) := by omega
      rw [if_pos (by omega), addrV_eq, bindO_some, load26 hb h1.hole.1 h2.hole.1 h3.hole.1, bindO_some]
      simp only [hix, bindO_some, addrV_eq, hld, zero55, newK, effK_a]
      have kA : Keep n H ((H.set n (some (.cells (cellsV (.agg #[.int .i64 0, .int .i64 0])) 55 false none))).set n none) := ((Keep.refl n H).set (Nat.le_refl _) _).set (Nat.le_refl _) _
      obtain ⟨H2, n2, e, e2, e3⟩ := reach_call l (ρ := Value × Hp × Nat) (hg.keep kA (show n ≤ n + 1 by omega)) (show nj ≤ KK by have := good.nj16; unfold KK; omega) kd hk (p : Int) (o : Int)
      rw [e]
      have hget : (H2.set n ((H.set n (some (.cells (cellsV (.agg #[.int .i64 0, .int .i64 0])) 55 false none))).get n)).get n = some (.cells [.int .i64 0, .int .i64 0] 55 false none) := by
        rw [Tr.get_set, if_pos rfl, Tr.get_set, if_pos rfl]; rfl
      have kB : Keep n H (H2.set n ((H.set n (some (.cells (cellsV (.agg #[.int .i64 0, .int .i64 0])) 55 false none))).get n)) := (kA.trans e3 (by omega)).set (Nat.le_refl _) _
      generalize (H2.set n ((H.set n (some (.cells (cellsV (.agg #[.int .i64 0, .int .i64 0])) 55 false none))).get n)) = H3 at hget kB ⊢
      generalize hlo : (reach js ks nj kd p o).1 = lo
      generalize hhi : (reach js ks nj kd p o).2 = hi
      obtain ⟨rr0, _, rr2⟩ := reach_small (js := js) (nj := nj) good.small hk (p : Int) (o : Int)
      rw [ptr, store55, storeN_whole (c := [.int .i64 0, .int .i64 0]) (vs := [.int .i64 lo, .int .i64 hi]) (e := 55) (vec := none) hget rfl rfl, bindO_some]
      have hnew : CellsAt (H3.set n (some (.cells [.int .i64 lo, .int .i64 hi] 55 false none))) n 0 [.int .i64 lo, .int .i64 hi] := CellsAt.new
      have k4 : Keep n H (H3.set n (some (.cells [.int .i64 lo, .int .i64 hi] 55 false none))) := kB.set (Nat.le_refl _) _
      generalize H3.set n (some (.cells [.int .i64 lo, .int .i64 hi] 55 false none)) = H4 at hnew k4 ⊢
      have c0 : loadV P H4 3 ⟨n, 0 + 0, none⟩ = some (.int .i64 lo) := loadV_int hnew agg3 rfl
      have c1 : loadV P H4 3 ⟨n, 0 + 1, none⟩ = some (.int .i64 hi) := loadV_int hnew agg3 rfl
      obtain ⟨sb, so, s1, _, s3⟩ := (hv.keep k4 (show n ≤ n2 by omega)).at_ hp
      have hrow := (hv.keep k4 (show n ≤ n2 by omega)).2 p hp
      rw [hR] at hrow
      obtain ⟨tb, to_, t1, _, t3⟩ := hrow.at_ hlt
      simp only [s1, bindO_some, addrV_eq, s3, t1, t3, fa55_0, c0, fa55_1, c1, in_call (l + 1)]
      cases hd : decide (lo ≤ (R p).getD o 0 ∧ (R p).getD o 0 ≤ hi) with
      | false =>
        rw [not_f, bindO_some, ifK_t]
        exact ⟨false, ⟨H4, n2, rfl, by omega, k4⟩, ⟨fun h => (by cases h), fun h => absurd (by have := h.1.1 o (Nat.le_refl _) hlt; rw [hlo, hhi] at this; exact this) (of_decide_eq_false hd)⟩⟩
      | true =>
        obtain ⟨d0, d1⟩ := of_decide_eq_true hd
        have hr : 0 ≤ (R p).getD o 0 ∧ (R p).getD o 0 ≤ 1000 := by omega
        have hIs : I64 (sumTo (fun q => (R p).getD q 0) o + (R p).getD o 0) := by unfold I64; omega
        rw [not_t, bindO_some, ifK_f, binK_some (bin_add hIs), binK_some (bin_add hI), hcast]
        obtain ⟨r, ⟨H5, n5, f1, f2, f3⟩, f4⟩ := ih H4 n2 (by omega) k4 hlt hr
        refine ⟨r, ⟨H5, n5, f1, by omega, k4.trans f3 (by omega)⟩, f4.trans ⟨fun h => ⟨⟨fun q q1 q2 => ?_, h.1.2⟩, h.2⟩, fun h => ⟨⟨fun q q1 q2 => h.1.1 q (by omega) q2, h.1.2⟩, h.2⟩⟩⟩
        rcases Nat.eq_or_lt_of_le q1 with e | e
        · subst e; rw [hlo, hhi]; exact ⟨d0, d1⟩
        · exact h.1.1 q e q2
    · have hi' : o = np := by omega
      subst hi'
      have lz : loadV P H 24 ⟨g0, 0 + 2, none⟩ = some z := loadV_scalar hb agg24 rfl h3.hole.1 h3.hole.2
      obtain ⟨zb, zo, z1, _, z3⟩ := h3.at_ und24 sz94 hk
      have hkl : kd * 5 < ks.length := by rw [h3.1]; omega
      have ly : loadV P H 3 ⟨zb, zo + kd * 5 + 0, none⟩ = some (.int .i64 (ks.getD (kd * 5) 0)) := by
        have := loadV_int (P := P) (o := zo) (k := kd * 5) z3 agg3 (ints_get (getD_some hkl))
        exact this
      rw [if_neg (by omega), fa26_2, bindO_some, addrV_eq, bindO_some, lz, bindO_some, hix, bindO_some, addrV_eq, bindO_some, hld, bindO_some, z1, bindO_some, fa94_0, bindO_some, addrV_eq, bindO_some, ly, bindO_some, binK_some bin_neq]
      cases hd : decide (sumTo (fun q => (R p).getD q 0) o = ks.getD (kd * 5) 0) with
      | false =>
        rw [Bool.not_false, ifK_t]
        exact ⟨false, ⟨H, n, rfl, Nat.le_refl _, Keep.refl _ _⟩, ⟨fun h => (by cases h), fun h => absurd h.1.2 (of_decide_eq_false hd)⟩⟩
      | true =>
        have hI : I64 ((p : Int) + 1) := by unfold I64; omega
        have hcast : ((p : Int) + 1) = ((p + 1 : Nat) : Int) := by omega
        rw [Bool.not_true, ifK_f]
        unfold C33_2 B33_2
        rw [binK_some (bin_add hI), hcast]
        obtain ⟨r, q1, q2⟩ := hb1 H n (Nat.le_refl _) (Keep.refl _ _)
        exact ⟨r, q1, q2.trans ⟨fun h => ⟨⟨fun q a b => by omega, of_decide_eq_true hd⟩, h⟩, fun h => h.2⟩⟩
  intro m
  induction m with
  | zero =>
    intro o sum H n h1 h2 h3 h4 h5 h6 h7 h8 h9 h10
    exact body _ 0 o sum H n h1 h2 h3 h4 h5 h6 h7 h8 h10 (fun _ _ _ _ h => by omega)
  | succ m ih =>
    intro o sum H n h1 h2 h3 h4 h5 h6 h7 h8 h9 h10
    exact body _ (m + 1) o sum H n h1 h2 h3 h4 h5 h6 h7 h8 h10 (fun H' n' q1 q2 q3 q4 => ih (o + 1) _ H' n' (by omega) (h2.keep q2 h1) (h3.keep q2 q1) (h4.keep q2 q1) (h5.keep q2 q1) (fun q hq => by
      by_cases c : q = o
      · subst c; exact q4
      · exact h6 q (by omega)) rfl (by omega) (by omega) (fun H2 n2 z1 z2 => h10 H2 n2 (by omega) (q2.trans z2 q1)))
theorem isSpread_loop1 (l k : Nat) {np nj nk : Nat} {ps js ks ls : List Int} (good : Good np nj nk ps js ks) (hok : laidOk js ks ls nj np nk) (g0 : Nat) (x y z w v : Value) (rw_ : Nat → Value) (R : Nat → List Int) :
    ∀ (m p : Nat) (H : Hp) (n : Nat), g0 < n → CellsAt H g0 0 [x, y, z] → GroveI H n (.agg ⟨[x, y, z]⟩) np nj nk ps js ks → ListR H n w np ls → SpreadI H n v np rw_ R → p ≤ np → np - p + 9 ≤ m →
    ∃ r, Ret (S33_1 (cal (l + 2)) k m w v (.pointer (some ⟨g0, 0, none⟩)) (.int .i64 p) H n) n H (.bool r) ∧ (r = true ↔ ∀ q, p ≤ q → q < np → rowOk js ks nj np q (ls.getD q 0) (R q)) := by
  have np8 := good.np8
  have body : ∀ (b1 : Value → Value → Value → Value → Hp → Nat → Res) (m p : Nat) (H : Hp) (n : Nat), g0 < n → CellsAt H g0 0 [x, y, z] → GroveI H n (.agg ⟨[x, y, z]⟩) np nj nk ps js ks → ListR H n w np ls → SpreadI H n v np rw_ R → p ≤ np → 9 ≤ m →
      (∀ H' n', n ≤ n' → Keep n H H' → p < np → ∃ r, Ret (b1 w v (.pointer (some ⟨g0, 0, none⟩)) (.int .i64 ((p + 1 : Nat) : Int)) H' n') n' H' (.bool r) ∧ (r = true ↔ ∀ q, p + 1 ≤ q → q < np → rowOk js ks nj np q (ls.getD q 0) (R q))) →
      ∃ r, Ret (C33_1 (cal (l + 2)) k m b1 w v (.pointer (some ⟨g0, 0, none⟩)) (.int .i64 p) H n) n H (.bool r) ∧ (r = true ↔ ∀ q, p ≤ q → q < np → rowOk js ks nj np q (ls.getD q 0) (R q)) := by
    intro b1 m p H n hg0 hb hg hw hv hp hm ih
    unfold C33_1 B33_1
    generalize hS : S33_3 (cal (l + 2)) k m b1 m = S3
    rw [hw.len_eq, bindO_some, binK_some bin_lss, ifK_d]
    by_cases hlt : p < np
    · have hI : I64 ((p : Int) + 1) := by unfold I64; omega
      have hcast : ((p : Int) + 1) = ((p + 1 : Nat) : Int) := by omega
      obtain ⟨rb, ro, hix, _, hld⟩ := hw.at_ hlt
      obtain ⟨sb, so, s1, _, s3⟩ := hv.at_ hlt
      have hrow := hv.2 p hlt
      have step : ∀ (c : Prop), (rowOk js ks nj np p (ls.getD p 0) (R p) ↔ c) → ∀ r : Bool, (r = true ↔ c ∧ ∀ q, p + 1 ≤ q → q < np → rowOk js ks nj np q (ls.getD q 0) (R q)) → (r = true ↔ ∀ q, p ≤ q → q < np → rowOk js ks nj np q (ls.getD q 0) (R q)) := by
        intro c hc r hr
        refine hr.trans ⟨fun h q q1 q2 => ?_, fun h => ⟨hc.1 (h p (Nat.le_refl _) hlt), fun q q1 q2 => h q (by omega) q2⟩⟩
        rcases Nat.eq_or_lt_of_le q1 with e | e
        · subst e; exact hc.2 h.1
        · exact h.2 q e q2
      rw [if_pos (by omega), hix, bindO_some, addrV_eq, bindO_some, hld, bindO_some, binK_some bin_lss, ifK_d]
      by_cases hneg : ls.getD p 0 < 0
      · have hro : rowOk js ks nj np p (ls.getD p 0) (R p) ↔ (R p).length = 0 := by unfold rowOk; rw [if_pos hneg]
        rw [if_pos hneg, s1, bindO_some, addrV_eq, bindO_some, s3, bindO_some, hrow.len_eq, bindO_some, binK_some bin_neq]
        cases hd : decide (((R p).length : Int) = 0) with
        | false =>
          rw [Bool.not_false, ifK_t]
          exact ⟨false, ⟨H, n, rfl, Nat.le_refl _, Keep.refl _ _⟩, step _ hro false ⟨fun h => (by cases h), fun h => absurd (by omega) (of_decide_eq_false hd)⟩⟩
        | true =>
          have := of_decide_eq_true hd
          rw [Bool.not_true, ifK_f]
          unfold C33_2 B33_2
          rw [binK_some (bin_add hI), hcast]
          obtain ⟨r, q1, q2⟩ := ih H n (Nat.le_refl _) (Keep.refl _ _) hlt
          exact ⟨r, q1, step _ hro r (q2.trans ⟨fun h => ⟨by omega, h⟩, fun h => h.2⟩)⟩
      · obtain ⟨kd, hkd⟩ : ∃ kd : Nat, ls.getD p 0 = kd := ⟨(ls.getD p 0).toNat, by omega⟩
        have hk : kd < nk := by
          rcases hok p hlt with q | ⟨_, q, _⟩
          · omega
          · omega
        have hro : rowOk js ks nj np p (ls.getD p 0) (R p) ↔ (R p).length = np ∧ (∀ o : Nat, o < np → (reach js ks nj kd p o).1 ≤ (R p).getD o 0 ∧ (R p).getD o 0 ≤ (reach js ks nj kd p o).2) ∧ sumTo (fun o => (R p).getD o 0) np = ks.getD (kd * 5) 0 := by
          unfold rowOk
          rw [if_neg hneg, hkd, Int.toNat_natCast]
        rw [if_neg hneg, s1, bindO_some, addrV_eq, bindO_some, s3, bindO_some, hrow.len_eq, bindO_some, bindO_some, binK_some bin_neq]
        cases hd : decide (((R p).length : Int) = (np : Int)) with
        | false =>
          rw [Bool.not_false, ifK_t]
          exact ⟨false, ⟨H, n, rfl, Nat.le_refl _, Keep.refl _ _⟩, step _ hro false ⟨fun h => (by cases h), fun h => absurd (by omega) (of_decide_eq_false hd)⟩⟩
        | true =>
          have hl := of_decide_eq_true hd
          rw [Bool.not_true, ifK_f, ← hS]
          obtain ⟨r, q1, q2⟩ := isSpread_loop3 l k m good g0 x y z w v rw_ R b1 (∀ q, p + 1 ≤ q → q < np → rowOk js ks nj np q (ls.getD q 0) (R q)) hlt hkd hk (by omega) m 0 0 H n hg0 hb hg hw hv (fun q h => absurd h (by omega)) rfl (by omega) (by omega) (fun H' n' z1 z2 => ih H' n' z1 z2 hlt)
          exact ⟨r, q1, step _ hro r (q2.trans ⟨fun h => ⟨⟨by omega, fun o ho => h.1.1 o (Nat.zero_le _) ho, h.1.2⟩, h.2⟩, fun h => ⟨⟨fun o _ ho => h.1.2.1 o ho, h.1.2.2⟩, h.2⟩⟩)⟩
    · rw [if_neg (by omega)]
      exact ⟨true, ⟨H, n, rfl, Nat.le_refl _, Keep.refl _ _⟩, ⟨fun _ q q1 q2 => by omega, fun _ => rfl⟩⟩
  intro m
  induction m with
  | zero => intro p H n h1 h2 h3 h4 h5 h6 h7; omega
  | succ m ih =>
    intro p H n h1 h2 h3 h4 h5 h6 h7
    exact body _ (m + 1) p H n h1 h2 h3 h4 h5 h6 (by omega) (fun H' n' q1 q2 q3 => ih (p + 1) H' n' (by omega) (h2.keep q2 h1) (h3.keep q2 q1) (h4.keep q2 q1) (h5.keep q2 q1) (by omega) (by omega))
theorem SpreadI.nil {H : Hp} {n len : Nat} {v : Value} {rw_ : Nat → Value} {R : Nat → List Int} (h : SpreadI H n v len rw_ R) (hp : pureV v = true) : len = 0 := by
  rcases h.1 with ⟨_, rfl⟩ | ⟨b, o, cap, rfl, _⟩
  · rfl
  · simp [pureV] at hp
theorem call33 (l : Nat) (a b c : Value) (H : Hp) (n : Nat) : (cal (l + 1)).call 33 [a, b, c] H n = C33_0 (cal l) KK a b c H n := by kernel_rfl
theorem isSpread_call (l : Nat) {np nj nk nv : Nat} {ps js ks ls : List Int} (good : Good np nj nk ps js ks) (hok : laidOk js ks ls nj np nk) {H : Hp} {n : Nat} {g w v : Value} {rw_ : Nat → Value} {R : Nat → List Int} (hg : GroveI H n g np nj nk ps js ks) (hw : ListR H n w np ls) (hv : SpreadI H n v nv rw_ R) :
    ∃ (r : Bool) (H' : Hp) (n' : Nat), (r = true ↔ nv = np ∧ ∀ q, q < np → rowOk js ks nj np q (ls.getD q 0) (R q)) ∧ (∀ k : Value → Hp → Nat → Option ρ, callFK P (cal (l + 3)) 33 [g, w, v] H n k = k (.bool r) H' n') ∧ n ≤ n' ∧ Keep n H H' := by
  obtain ⟨r, H', n', ⟨b, rfl, hb⟩, e1, e2, e3⟩ := callFK_spec (ρ := ρ) (P := P) (cal := cal (l + 3)) (f := 33) (args := [g, w, v]) (H := H) (n := n)
    (Pre := fun H n => GroveI H n g np nj nk ps js ks ∧ ListR H n w np ls ∧ SpreadI H n v nv rw_ R) (Q := fun r => ∃ b : Bool, r = .bool b ∧ (b = true ↔ nv = np ∧ ∀ q, q < np → rowOk js ks nj np q (ls.getD q 0) (R q)))
    (fun H n ⟨hg, hw, hv⟩ => by
      have hg0 := hg
      obtain ⟨x, y, z, rfl, _⟩ := hg.eq
      rw [call33]
      unfold C33_0 B33_0
      generalize hS : S33_1 (cal (l + 2)) KK KK = S1
      rw [boxK_eq]
      simp only [cellsV, ptr]
      have hk : Keep n H (H.set n (some (.cells [x, y, z] 26 false none))) := (Keep.refl n H).set (Nat.le_refl _) _
      rw [hv.len_eq, bindO_some, hw.len_eq, bindO_some, binK_some bin_neq]
      cases hd : decide ((nv : Int) = (np : Int)) with
      | false =>
        rw [Bool.not_false, ifK_t]
        exact ⟨.bool false, ⟨_, _, rfl, by omega, hk⟩, false, rfl, ⟨fun h => (by cases h), fun h => absurd (by omega) (of_decide_eq_false hd)⟩⟩
      | true =>
        have e : nv = np := by have := of_decide_eq_true hd; omega
        subst e
        rw [Bool.not_true, ifK_f, ← hS]
        obtain ⟨r, ⟨H', n', e1, e2, e3⟩, e4⟩ := isSpread_loop1 l KK good hok n x y z w v rw_ R KK 0 (H.set n (some (.cells [x, y, z] 26 false none))) (n + 1) (by omega) CellsAt.new (hg0.keep hk (by omega)) (hw.keep hk (by omega)) (hv.keep hk (by omega)) (by omega) (by have := good.np8; unfold KK; omega)
        exact ⟨.bool r, ⟨H', n', e1, by omega, hk.trans e3 (by omega)⟩, r, rfl, e4.trans ⟨fun h => ⟨rfl, fun q hq => h q (Nat.zero_le _) hq⟩, fun h q _ hq => h.2 q hq⟩⟩)
    (fun r ⟨b, e, _⟩ _ => by subst e; rfl) ⟨hg, hw, hv⟩ (fun hp => by
        simp only [pureL, Bool.and_eq_true] at hp
        have h0 := hv.nil hp.2.2.1
        subst h0
        refine ⟨hg.nil hp.1, hw.nil hp.2.1, ?_, fun p h => absurd h (by omega)⟩
        rcases hv.1 with ⟨e, _⟩ | ⟨b, o, cap, e, _⟩
        · exact .inl ⟨e, rfl⟩
        · rw [e] at hp; simp [pureV] at hp)
  exact ⟨b, H', n', hb, e1, e2, e3⟩
theorem young_loop (c : Cal) (k : Nat) {np pad : Nat} {H : Hp} {n : Nat} {v : Value} {rw_ : Nat → Value} {R : Nat → List Int} (hv : SpreadI H n v np rw_ R) (hnp : np ≤ 1000) (hR : ∀ p, p < np → (R p).length = 0 ∨ (pad < (R p).length ∧ 0 ≤ (R p).getD pad 0 ∧ (R p).getD pad 0 ≤ 1000000)) : ∀ (m i : Nat), i ≤ np → np - i ≤ m →
    S34_1 c k m v (.int .i64 pad) (.int .i64 (sumTo (fun p => (R p).getD pad 0) i)) (.int .i64 i) H n = some (.int .i64 (sumTo (fun p => (R p).getD pad 0) np), H, n) := by
  have small : ∀ i, i ≤ np → 0 ≤ sumTo (fun p => (R p).getD pad 0) i ∧ sumTo (fun p => (R p).getD pad 0) i ≤ 1000000 * i := fun i hi => sumTo_range (c := 1000000) fun p hp => by
    rcases hR p (by omega) with h | h
    · have : R p = [] := List.length_eq_zero_iff.1 h
      rw [this]
      simp
    · exact h.2
  have body : ∀ (b1 : Value → Value → Value → Value → Hp → Nat → Res) (m i : Nat), i ≤ np → (i < np → b1 v (.int .i64 pad) (.int .i64 (sumTo (fun p => (R p).getD pad 0) (i + 1))) (.int .i64 ((i + 1 : Nat) : Int)) H n = some (.int .i64 (sumTo (fun p => (R p).getD pad 0) np), H, n)) →
      C34_1 c k m b1 v (.int .i64 pad) (.int .i64 (sumTo (fun p => (R p).getD pad 0) i)) (.int .i64 i) H n = some (.int .i64 (sumTo (fun p => (R p).getD pad 0) np), H, n) := by
    intro b1 m i hi ih
    unfold C34_1 B34_1
    rw [hv.len_eq, bindO_some, binK_some bin_lss, ifK_d]
    by_cases hlt : i < np
    · have hI : I64 ((i : Int) + 1) := by unfold I64; omega
      have hcast : ((i : Int) + 1) = ((i + 1 : Nat) : Int) := by omega
      obtain ⟨sb, so, s1, _, s3⟩ := hv.at_ hlt
      have hrow := hv.2 i hlt
      have hs := small i hi
      have hs1 := small (i + 1) (by omega)
      have hn : sumTo (fun p => (R p).getD pad 0) (i + 1) = sumTo (fun p => (R p).getD pad 0) i + (R i).getD pad 0 := rfl
      rw [if_pos (by omega), s1, bindO_some, addrV_eq, bindO_some, s3, bindO_some, hrow.len_eq, bindO_some, binK_some bin_gtr, ifK_d]
      rcases hR i hlt with h | ⟨h, h2, h3⟩
      · have hnil : R i = [] := List.length_eq_zero_iff.1 h
        rw [if_neg (by omega)]
        unfold C34_2 B34_2
        rw [binK_some (bin_add hI), hcast]
        have := ih hlt
        rw [hn, show (R i).getD pad 0 = 0 by rw [hnil]; simp, Int.add_zero] at this
        exact this
      · obtain ⟨tb, to_, t1, _, t3⟩ := hrow.at_ h
        rw [if_pos (by omega), bindO_some, addrV_eq, bindO_some, s3, bindO_some, t1, bindO_some, addrV_eq, bindO_some, t3, bindO_some, binK_some (bin_add (by unfold I64; omega))]
        unfold C34_2 B34_2
        rw [binK_some (bin_add hI), hcast]
        have := ih hlt
        rw [hn] at this
        exact this
    · have : i = np := by omega
      subst this
      rw [if_neg (by omega)]
  intro m
  induction m with
  | zero => intro i h1 h2; exact body _ 0 i h1 (fun h => by omega)
  | succ m ih => intro i h1 h2; exact body _ (m + 1) i h1 (fun h => ih (i + 1) (by omega) (by omega))
theorem call34 (l : Nat) (a b : Value) (H : Hp) (n : Nat) : (cal (l + 1)).call 34 [a, b] H n = C34_0 (cal l) KK a b H n := by kernel_rfl
theorem young_call (l : Nat) {np pad : Nat} {H : Hp} {n : Nat} {v : Value} {rw_ : Nat → Value} {R : Nat → List Int} (hv : SpreadI H n v np rw_ R) (hnp : np ≤ 1000) (hR : ∀ p, p < np → (R p).length = 0 ∨ (pad < (R p).length ∧ 0 ≤ (R p).getD pad 0 ∧ (R p).getD pad 0 ≤ 1000000)) :
    ∃ H' n', (∀ k : Value → Hp → Nat → Option ρ, callFK P (cal (l + 1)) 34 [v, .int .i64 pad] H n k = k (.int .i64 (sumTo (fun p => (R p).getD pad 0) np)) H' n') ∧ n ≤ n' ∧ Keep n H H' := by
  obtain ⟨r, H', n', rfl, e1, e2, e3⟩ := callFK_spec (ρ := ρ) (P := P) (cal := cal (l + 1)) (f := 34) (args := [v, .int .i64 pad]) (H := H) (n := n)
    (Pre := fun H n => SpreadI H n v np rw_ R) (Q := fun r => r = .int .i64 (sumTo (fun p => (R p).getD pad 0) np))
    (fun H n hv => ⟨_, ⟨H, n, by
      rw [call34]
      unfold C34_0 B34_0
      exact young_loop (cal l) KK hv hnp hR KK 0 (by omega) (by unfold KK; omega), Nat.le_refl _, Keep.refl _ _⟩, rfl⟩) (fun r e _ => by subst e; rfl) hv (fun hp => by
        simp only [pureL, Bool.and_eq_true] at hp
        have h0 := hv.nil hp.1
        subst h0
        refine ⟨?_, fun p h => absurd h (by omega)⟩
        rcases hv.1 with ⟨e, _⟩ | ⟨b, o, cap, e, _⟩
        · exact .inl ⟨e, rfl⟩
        · rw [e] at hp; simp [pureV] at hp)
  exact ⟨H', n', e1, e2, e3⟩
end Go.Proofs.Ytgojjellogiglaa.spec
end
section
namespace Go.Proofs.Ytgojjellogiglaa.spec
open Go Go.Ev Go.Proofs.Ytgojjellogiglaa.nestFits Go.Proofs.Ytgojjellogiglaa.G
set_option maxRecDepth 100000
variable {ρ : Type}
theorem tw_0 (x y : Value) : tupV (.tuple ⟨[x, y]⟩) 0 = some x := rfl
theorem tw_1 (x y : Value) : tupV (.tuple ⟨[x, y]⟩) 1 = some y := rfl
theorem len59_nil : lenV P 59 (.slice none 0 0) = some (.int .i64 0) := by kernel_rfl
theorem worsts_core (c : Cal) {np nj nk nl : Nat} {ps js ks ls : List Int} {w : Value} {E pad : Int} {hi : Bool} {R : Nat → List Int} {LO HI : Int}
    (Hawake : ∀ (H : Hp) (n : Nat) (k : Value → Hp → Nat → Res), callFK P c 16 [] H n k = k (.bool true) H n)
    (Hthin : ∀ (H : Hp) (n : Nat) (v : Value), GroveI H n v np nj nk ps js ks → ListR H n w nl ls → ∃ (r : Bool) (H' : Hp) (n' : Nat), (r = true ↔ thin np nj nk nl) ∧ (∀ k : Value → Hp → Nat → Res, callFK P c 15 [v, w] H n k = k (.bool r) H' n') ∧ n ≤ n' ∧ Keep n H H')
    (Hgrove : ∀ (H : Hp) (n : Nat) (v : Value), GroveI H n v np nj nk ps js ks → thin np nj nk nl → ∃ u H' n', (∀ k : Value → Hp → Nat → Res, callFK P c 18 [v] H n k = k u H' n') ∧ n ≤ n' ∧ Keep n H H' ∧ GroveP H' n' u np nj nk ps js ks)
    (Hlist : ∀ (H : Hp) (n : Nat), ListR H n w nl ls → thin np nj nk nl → ∃ u H' n', (∀ k : Value → Hp → Nat → Res, callFK P c 23 [w] H n k = k u H' n') ∧ n ≤ n' ∧ Keep n H H' ∧ ListR H' n' u nl ls)
    (Hin : ∀ (a lo hi : Int) (H : Hp) (n : Nat) (k : Value → Hp → Nat → Res), callFK P c 32 [.int .i64 a, .int .i64 lo, .int .i64 hi] H n k = k (.bool (decide (lo ≤ a ∧ a ≤ hi))) H n)
    (Hplaced : ∀ (H : Hp) (n : Nat) (v : Value), GroveI H n v np nj nk ps js ks → ListR H n w nl ls → ∃ H' n', (∀ k : Value → Hp → Nat → Res, callFK P c 25 [v, w] H n k = k (.int .i64 E) H' n') ∧ n ≤ n' ∧ Keep n H H')
    (HWbad : E ≠ 0 → thin np nj nk nl → ∀ (H : Hp) (n : Nat) (v u : Value), GroveP H n v np nj nk ps js ks → ListR H n u nl ls → ∃ H' n', (∀ k : Value → Hp → Nat → Res, callFK P c 31 [v, u, .int .i64 pad, .bool hi] H n k = k (.tuple ⟨[.slice none 0 0, .int .i64 E]⟩) H' n') ∧ n ≤ n' ∧ Keep n H H')
    (HWout : E = 0 → thin np nj nk nl → ¬ (0 ≤ pad ∧ pad < np) → ∀ (H : Hp) (n : Nat) (v u : Value), GroveP H n v np nj nk ps js ks → ListR H n u nl ls → ∃ H' n', (∀ k : Value → Hp → Nat → Res, callFK P c 31 [v, u, .int .i64 pad, .bool hi] H n k = k (.tuple ⟨[.slice none 0 0, .int .i64 2]⟩) H' n') ∧ n ≤ n' ∧ Keep n H H')
    (HWgood : E = 0 → thin np nj nk nl → (0 ≤ pad ∧ pad < np) → ∀ (H : Hp) (n : Nat) (v u : Value), GroveP H n v np nj nk ps js ks → ListR H n u nl ls → ∃ s H' n' rw_, (∀ k : Value → Hp → Nat → Res, callFK P c 31 [v, u, .int .i64 pad, .bool hi] H n k = k (.tuple ⟨[s, .int .i64 0]⟩) H' n') ∧ n ≤ n' ∧ Keep n H H' ∧ SpreadI H' n' s np rw_ R)
    (Hnl : E = 0 → nl = np) (Hnp : E = 0 → np ≤ 8 ∧ np ≠ 0)
    (Hbounds : E = 0 → (0 ≤ pad ∧ pad < np) → ∀ (H : Hp) (n : Nat) (v : Value), GroveI H n v np nj nk ps js ks → ListR H n w np ls → ∃ H' n', (∀ k : Value → Hp → Nat → Res, callFK P c 27 [v, w, .int .i64 pad] H n k = k (.agg ⟨[.int .i64 LO, .int .i64 HI]⟩) H' n') ∧ n ≤ n' ∧ Keep n H H')
    (Hspread : E = 0 → (0 ≤ pad ∧ pad < np) → ∀ (H : Hp) (n : Nat) (v s : Value) (rw_ : Nat → Value), GroveI H n v np nj nk ps js ks → ListR H n w np ls → SpreadI H n s np rw_ R → ∃ H' n', (∀ k : Value → Hp → Nat → Res, callFK P c 33 [v, w, s] H n k = k (.bool true) H' n') ∧ n ≤ n' ∧ Keep n H H')
    (Hyoung : E = 0 → (0 ≤ pad ∧ pad < np) → ∀ (H : Hp) (n : Nat) (s : Value) (rw_ : Nat → Value), SpreadI H n s np rw_ R → ∃ H' n', (∀ k : Value → Hp → Nat → Res, callFK P c 34 [s, .int .i64 pad] H n k = k (.int .i64 (if hi = true then HI else LO)) H' n') ∧ n ≤ n' ∧ Keep n H H')
    {H : Hp} {n : Nat} {v : Value} (hg : GroveI H n v np nj nk ps js ks) (hw : ListR H n w nl ls) : ∃ H' n', C5_0 c KK v w (.int .i64 pad) (.bool hi) H n = some (.bool true, H', n') := by
  have hg0 := hg
  obtain ⟨x, y, z, rfl, h1, h2, h3⟩ := hg.eq
  unfold C5_0 B5_0
  rw [boxK_eq]
  simp only [cellsV, ptr]
  have hk : Keep n H (H.set n (some (.cells [x, y, z] 26 false none))) := (Keep.refl n H).set (Nat.le_refl _) _
  have hb : CellsAt (H.set n (some (.cells [x, y, z] 26 false none))) n 0 [x, y, z] := CellsAt.new
  generalize H.set n (some (.cells [x, y, z] 26 false none)) = H1 at hk hb ⊢
  have ld : ∀ H2, CellsAt H2 n 0 [x, y, z] → loadV P H2 26 ⟨n, 0, none⟩ = some (.agg ⟨[x, y, z]⟩) := fun H2 h => load26 h h1.hole.1 h2.hole.1 h3.hole.1
  have hg1 : GroveI H1 (n + 1) (.agg ⟨[x, y, z]⟩) np nj nk ps js ks := hg0.keep hk (by omega)
  have hw1 : ListR H1 (n + 1) w nl ls := hw.keep hk (by omega)
  obtain ⟨t, H2, n2, t1, t2, t3, t4⟩ := Hthin H1 (n + 1) _ hg1 hw1
  rw [addrV_eq, bindO_some, ld H1 hb, bindO_some, t2]
  cases t with
  | false =>
    rw [not_f, bindO_some, ifK_t, Hawake]
    exact ⟨_, _, rfl⟩
  | true =>
    have ht := t1.1 rfl
    have hb2 := hb.keep t4 (by omega)
    have hg2 := hg1.keep t4 t3
    have hw2 := hw1.keep t4 t3
    obtain ⟨gv, H3, n3, a1, a2, a3, a4⟩ := Hgrove H2 n2 _ hg2 ht
    obtain ⟨lv, H4, n4, b1, b2, b3, b4⟩ := Hlist H3 n3 (hw2.keep a3 a2) ht
    have gp4 : GroveP H4 n4 gv np nj nk ps js ks := a4.keep b3 b2
    have k4 : Keep n2 H2 H4 := a3.trans b3 a2
    rw [not_t, bindO_some, ifK_f, bindO_some, ld H2 hb2, bindO_some, a1, b1]
    have refuse : ∀ (H : Hp) (n : Nat) (W : Int) (u4 : Value), W ≠ 0 → ∃ H' n', C5_1 c KK w (.int .i64 pad) (.bool hi) u4 (.slice none 0 0) (.int .i64 W) (.int .i64 W) H n = some (.bool true, H', n') := by
      intro H n W u4 hW
      have d0 : decide (W = 0) = false := decide_eq_false hW
      unfold C5_1 B5_1
      simp only [binK_some bin_neq, d0, Bool.not_false, ifK_t, binK_some bin_eql, decide_true, guardK_tt, len59_nil, bindO_some, pickV_t, Hawake]
      exact ⟨_, _, rfl⟩
    by_cases he : E = 0
    · have hnl := Hnl he
      subst hnl
      obtain ⟨np8, np0⟩ := Hnp he
      have hIn : I64 ((nl : Int) - 1) := by unfold I64; omega
      have d00 : decide ((0 : Int) = 0) = true := rfl
      by_cases hin : 0 ≤ pad ∧ pad < (nl : Int)
      · obtain ⟨s, H5, n5, rw_, c1, c2, c3, c4⟩ := HWgood he ht hin H4 n4 gv lv gp4 b4
        have k5 : Keep n2 H2 H5 := k4.trans c3 (by omega)
        obtain ⟨H6, n6, g1, g2, g3⟩ := Hplaced H5 n5 _ (hg2.keep k5 (by omega)) (hw2.keep k5 (by omega))
        have k6 : Keep n2 H2 H6 := k5.trans g3 (by omega)
        have hw6 := hw2.keep k6 (show n2 ≤ n6 by omega)
        have hg6 := hg2.keep k6 (show n2 ≤ n6 by omega)
        have hb6 := hb2.keep k6 (by omega)
        have din : decide ((0 : Int) ≤ pad ∧ pad ≤ (nl : Int) - 1) = true := decide_eq_true ⟨hin.1, by omega⟩
        rw [c1, tw_0, bindO_some, tw_1, bindO_some, bindO_some, ld H5 (hb2.keep k5 (by omega)), bindO_some, g1, he, binK_some bin_eql, d00]
        simp only [guardK_tt, hw6.len_eq, bindO_some, binK_some (bin_sub hIn), Hin, din, not_t, pickV_t, ifK_f]
        obtain ⟨H7, n7, e1, e2, e3⟩ := Hbounds he hin H6 n6 _ hg6 hw6
        unfold C5_1 B5_1
        rw [binK_some bin_neq, d00, Bool.not_true, ifK_f, addrV_eq, bindO_some, ld H6 hb6, bindO_some, e1, allocK_eq zero55]
        simp only [cellsV, ptr]
        have hst := storeN_whole (H := H7.set n7 (some (.cells [.int .i64 0, .int .i64 0] 55 false none))) (b := n7) (c := [.int .i64 0, .int .i64 0]) (vs := [.int .i64 LO, .int .i64 HI]) (e := 55) (vec := none) (by rw [Tr.get_set, if_pos rfl]) rfl rfl
        rw [store55, hst, bindO_some]
        have k8 : Keep n7 H7 ((H7.set n7 (some (.cells [.int .i64 0, .int .i64 0] 55 false none))).set n7 (some (.cells [.int .i64 LO, .int .i64 HI] 55 false none))) := ((Keep.refl _ _).set (Nat.le_refl _) _).set (Nat.le_refl _) _
        have hc : CellsAt ((H7.set n7 (some (.cells [.int .i64 0, .int .i64 0] 55 false none))).set n7 (some (.cells [.int .i64 LO, .int .i64 HI] 55 false none))) n7 0 [.int .i64 LO, .int .i64 HI] := CellsAt.new
        generalize (H7.set n7 (some (.cells [.int .i64 0, .int .i64 0] 55 false none))).set n7 (some (.cells [.int .i64 LO, .int .i64 HI] 55 false none)) = H8 at k8 hc ⊢
        have l0 : loadV P H8 3 ⟨n7, 0 + 0, none⟩ = some (.int .i64 LO) := loadV_int hc agg3 rfl
        have l1 : loadV P H8 3 ⟨n7, 0 + 1, none⟩ = some (.int .i64 HI) := loadV_int hc agg3 rfl
        have k68 : Keep n6 H6 H8 := e3.trans k8 e2
        have hg8 := hg6.keep k68 (show n6 ≤ n7 + 1 by omega)
        have hw8 := hw6.keep k68 (show n6 ≤ n7 + 1 by omega)
        have hb8 := hb6.keep k68 (by omega)
        have hs8 : SpreadI H8 (n7 + 1) s nl rw_ R := (c4.keep g3 g2).keep k68 (by omega)
        obtain ⟨H9, n9, f1, f2, f3⟩ := Hspread he hin H8 (n7 + 1) _ s rw_ hg8 hw8 hs8
        obtain ⟨H10, n10, y1, y2, y3⟩ := Hyoung he hin H9 n9 s rw_ (hs8.keep f3 f2)
        have fin : C5_2 c KK w (.int .i64 pad) (.pointer (some ⟨n, 0, none⟩)) s (.int .i64 0) (.int .i64 (if hi = true then HI else LO)) H8 (n7 + 1) = some (.bool true, H10, n10) := by
          unfold C5_2 B5_2
          rw [binK_some bin_eql, d00]
          simp only [guardK_tt, addrV_eq, bindO_some, ld H8 hb8, f1, pickV_t, y1, binK_some bin_eql, decide_true, Hawake]
        rw [fa55_0, bindO_some, addrV_eq, bindO_some, l0, bindO_some]
        cases hi with
        | true =>
          rw [ifK_t, fa55_1, bindO_some, addrV_eq, bindO_some, l1, bindO_some]
          exact ⟨H10, n10, fin⟩
        | false =>
          rw [ifK_f]
          exact ⟨H10, n10, fin⟩
      · obtain ⟨H5, n5, c1, c2, c3⟩ := HWout he ht hin H4 n4 gv lv gp4 b4
        have k5 : Keep n2 H2 H5 := k4.trans c3 (by omega)
        obtain ⟨H6, n6, g1, g2, g3⟩ := Hplaced H5 n5 _ (hg2.keep k5 (by omega)) (hw2.keep k5 (by omega))
        have hw6 := hw2.keep (k5.trans g3 (by omega)) (show n2 ≤ n6 by omega)
        have din : decide ((0 : Int) ≤ pad ∧ pad ≤ (nl : Int) - 1) = false := decide_eq_false (fun h => hin ⟨h.1, by omega⟩)
        rw [c1, tw_0, bindO_some, tw_1, bindO_some, bindO_some, ld H5 (hb2.keep k5 (by omega)), bindO_some, g1, he, binK_some bin_eql, d00]
        simp only [guardK_tt, hw6.len_eq, bindO_some, binK_some (bin_sub hIn), Hin, din, not_f, pickV_t, ifK_t]
        exact refuse _ _ 2 _ (by omega)
    · obtain ⟨H5, n5, c1, c2, c3⟩ := HWbad he ht H4 n4 gv lv gp4 b4
      have k5 : Keep n2 H2 H5 := k4.trans c3 (by omega)
      obtain ⟨H6, n6, g1, g2, g3⟩ := Hplaced H5 n5 _ (hg2.keep k5 (by omega)) (hw2.keep k5 (by omega))
      have dE : decide (E = 0) = false := decide_eq_false he
      rw [c1, tw_0, bindO_some, tw_1, bindO_some, bindO_some, ld H5 (hb2.keep k5 (by omega)), bindO_some, g1, binK_some bin_eql, dE]
      simp only [guardK_ft, bindO_some, pickV_f, ifK_f]
      exact refuse _ _ E _ he
end Go.Proofs.Ytgojjellogiglaa.spec
end
section
namespace Go.Proofs.Ytgojjellogiglaa.nestBounds
open Go.ChangeShapes Go.WideShapes Go.ChangeAt Go.RowKit Go.Ev Go.Proofs.Ytgojjellogiglaa.nestFits
theorem flat3 : flatT Try.prog 5 3 = some 1 := by kernel_rfl
theorem bytes3 : 1 ≤ Try.prog.bytesOf 3 := by decide +kernel
def Says (f : Nat) : Prop := ∀ (H : Hp) (n : Nat) (v w : Value) np nj nk ps js ks nl ls, GroveI H n v np nj nk ps js ks → spec.ListR H n w nl ls →
  ∃ l H' n', (calE G.P G.A (G.KK + 1) G.tab.get l).call f [v, w] H n = some (.bool true, H', n')
set_option maxRecDepth 100000
theorem there {W : World} {base : Nat} {b o len cap : Nat} {H : Hp} (hH : ∀ i, H.get i = rowsOf W i) (hok : Cell.okWide Try.prog W .any base 44 (.slice (some ⟨b, o, none⟩) len cap)) : ∃ c, H.get b = some (.rows c) := by
  simp only [Cell.okWide, Try.underlying44, Cell.ok] at hok
  obtain ⟨_, _, _, hsp, row, cells, hshape, _⟩ := hok
  rw [hH]
  unfold rowsOf
  unfold World.shape? at hshape
  dsimp only at hshape
  cases hb : W.heap[b]? with
  | none => rw [hb] at hshape; simp at hshape
  | some B =>
    rw [hb] at hshape
    cases B with
    | cells arr x y => exact ⟨_, rfl⟩
    | _ => simp at hshape
theorem list_in {W : World} {base n len : Nat} {w : Value} {xs : List Int} {H : Hp} (hH : ∀ i, H.get i = rowsOf W i) (hok : Cell.okWide Try.prog W .any base 44 w) (h : SliceI H n 1 w len xs) : spec.ListR H n w len xs := by
  obtain ⟨h1, h2, h3⟩ := h
  refine ⟨by omega, h2, ?_⟩
  rcases h3 with h3 | ⟨b, o, cap, e, a1, a2, a3, a4⟩
  · exact .inl h3
  · refine .inr ⟨b, o, cap, e, a3, ?_⟩
    rcases a4 with rfl | a4
    · subst e
      obtain ⟨c, hc⟩ := there hH hok
      have : xs = [] := List.length_eq_zero_iff.1 (by omega)
      subst this
      exact ⟨_, c, hc, rfl, fun k v h => by simp [ints] at h⟩
    · exact a4
theorem cells_one {W : World} {base : Nat} {w : Value} (hok : Cell.okWide Try.prog W .any base 44 w) : w.cells.toList = [w] := by
  cases w with
  | slice a l c => rfl
  | _ => simp only [Cell.okWide, Try.underlying44, Cell.ok] at hok
set_option maxRecDepth 100000 in
theorem walk (hs : Says 4) {K : Type} {enc : TypeId × Value → K} {W : World} {base : Nat} {v w : Value} {d d' : DataW K} {p p' : List MemPlace}
    (hok : Value.okWide Try.prog W .any base 26 v) (ht : DataW.Trod enc Try.prog W 0 (fun _ => true) true 26 v d p) (hw : ∀ n ∈ d.weights Try.prog 26, n ≤ reachBytes)
    (hok' : Value.okWide Try.prog W .any base 44 w) (ht' : DataW.Trod enc Try.prog W 0 (fun _ => true) true 44 w d' p') (hw' : ∀ n ∈ d'.weights Try.prog 44, n ≤ reachBytes) :
    Calls Try.prog 4 #[v, w] W fun e w' => e = .returned (.bool true) ∧ Grown W w' ∧ ∀ b, b < W.heap.size → w'.heap[b]? = W.heap[b]? := by
  obtain ⟨H, hH, hI⟩ := I.start W
  obtain ⟨np, nj, nk, ps, js, ks, hg, hv⟩ := grove_in hH hok ht hw
  have hc : Cell.okWide Try.prog W .any base 44 w := by
    unfold Value.okWide at hok'
    rw [Try.underlying44] at hok'
    exact hok'
  obtain ⟨fuel, ht'⟩ := ht'
  rw [cells_one hc] at ht'
  obtain ⟨nl, ls, hsl, hv'⟩ := slice_in hH Try.underlying44 flat3 (by omega) bytes3 ht' hw' hc
  obtain ⟨l, H', n', e⟩ := hs H W.heap.size v w np nj nk ps js ks nl ls hg (list_in hH hc hsl)
  refine (calls_of_tower_open G.tab_ok hI (VRL.cons hv (VRL.cons hv' VRL.nil)) e rfl).mono ?_
  rintro en w' ⟨h1, h2, h3, h4, h5, h6, h7⟩
  exact ⟨h1, grown_of h2 h4 h5 h6 h7, h6⟩
set_option maxRecDepth 100000 in
theorem lifted (hs : Says 4) (os : Os) (started : os.Started) (H : Type) (enc : TypeId × Value → H) :
    ReturnsInHanded {} Try.checked os 4 .any (Rows.nestBoundsSpec.pre6 enc Try.prog Try.f4 Rows.nestBoundsRow.domain false) (Rows.nestBoundsSpec.post enc Try.prog Try.f4 false true false false) := by
  refine returnsInHanded_of_change_sized (C := Try.checked) own started (by kernel_rfl) Try.func4
    (ChangeSpec.witness6 (enc := enc) (C := Try.checked) false ⟨#[], #[.agg #[.slice none 0 0, .slice none 0 0, .slice none 0 0], .slice none 0 0], []⟩ 8 (by kernel_rfl) (by kernel_rfl) (by kernel_rfl) (by kernel_rfl)) ?_
  intro W base args ds gs before hval0 hW hcnd hsz _
  have hval : ∀ (j : Nat) t v, Try.f4.params[j]? = some t → args[j]? = some v → Value.okWide Try.prog W .any base t v := hval0
  have hW' := hW
  obtain ⟨p, q, hA0, hV, rfl, hfz, hnd⟩ := hW
  have hA : DataW.TrodAll enc Try.prog W 0 (fun _ => true) true Try.f4.params.toList args.toList ds p := hA0
  have hAk := hA
  rw [Try.params4] at hA hval
  obtain ⟨v, w, d, d', p0, p1, rfl, rfl, rfl, h0, h1⟩ := trodAll_two hA
  obtain ⟨rfl, rfl⟩ := trodVars_none hV
  simp only [List.append_nil] at hW' hAk
  have hall : ∀ n ∈ d.weights Try.prog 26 ++ (d'.weights Try.prog 44 ++ []), n ≤ reachBytes := by
    intro n hn
    have hm : n ∈ DataW.weightsEach Try.checked.prog (Try.f4.params.toList ++ DataSpec.varTypes Try.checked.prog Rows.nestBoundsSpec.plain) ([d, d'] ++ []) := by
      rw [Try.params4]
      exact hn
    have := List.all_eq_true.1 hsz n hm
    simpa using this
  refine (walk hs (hval 0 26 v rfl rfl) h0 (fun n hn => hall n (List.mem_append_left _ hn)) (hval 1 44 w rfl rfl) h1 (fun n hn => hall n (List.mem_append_right _ (List.mem_append_left _ hn)))).mono fun e W' ⟨he, hg, hk⟩ => ?_
  subst he
  exact ⟨_, rfl, post_of_same (pv := []) hW' (fun _ _ _ => (trodAll_cons_mk (shut_bool Try.underlying4 _) trodAll_mk0))
    (fun sp hsp => DataW.TrodAll.respare kids full (by rw [Try.params4]; decide +kernel) (carryAll hk hAk) hsp) (fun _ _ => rfl) (by simp)
    (hg.frame _) hg.2.1 (ok_one (by kernel_rfl) rfl (okWide_bool_mk Try.underlying4 _))⟩
theorem over (hs : Says 4) : Rows.nestBoundsRow.holds Try.pinned (OpenSpec.ofChange Rows.nestBoundsSpec) :=
  OpenClaim.holds_of_wide 4 Try.f4 rfl rfl rfl rfl rfl rfl rfl ⟨rfl, rfl, rfl, rfl, rfl⟩ rfl rfl rfl rfl rfl (by kernel_rfl) Try.func4 (by kernel_rfl)
    (of_decide_eq_true (by kernel_rfl)) (by unfold Func.isWrapper; first | (rw [if_pos (by decide +kernel)]; kernel_rfl) | (rw [if_neg (by decide +kernel)]; exact ⟨rfl, rfl⟩))
    (fun os started H enc _ => lifted hs os started H enc)
theorem said (hs : Says 4) : Rows.NestBoundsSaid := over hs
end Go.Proofs.Ytgojjellogiglaa.nestBounds
end
section
namespace Go.Proofs.Ytgojjellogiglaa.nestWorsts
open Go.ChangeShapes Go.WideShapes Go.ChangeAt Go.RowKit Go.Ev Go.Proofs.Ytgojjellogiglaa.nestFits Go.Proofs.Ytgojjellogiglaa.nestBounds
def Says (f : Nat) : Prop := ∀ (H : Hp) (n : Nat) (v w : Value) np nj nk ps js ks nl ls (a : Int) (b : Bool), GroveI H n v np nj nk ps js ks → spec.ListR H n w nl ls → I64 a →
  ∃ l H' n', (calE G.P G.A (G.KK + 1) G.tab.get l).call f [v, w, .int .i64 a, .bool b] H n = some (.bool true, H', n')
set_option maxRecDepth 100000 in
theorem int_in {K : Type} {enc : TypeId × Value → K} {W : World} {base : Nat} {w : Value} {d : DataW K} {p : List MemPlace}
    (hok : Value.okWide Try.prog W .any base 3 w) (ht : DataW.Trod enc Try.prog W 0 (fun _ => true) true 3 w d p) : ∃ a : Int, w = .int .i64 a ∧ I64 a ∧ VR (idPhi W) w w := by
  obtain ⟨a, rfl⟩ := okWide_int Try.underlying3 hok
  obtain ⟨fuel, ht⟩ := ht
  obtain ⟨m, e1, e2, e3⟩ := DataW.trod_int Try.underlying3 ht
  have e : m = a := by
    have : ([.int .i64 a] : List Value) = [.int .i64 m] := e1
    simpa using this.symm
  subst e
  have h0 : IntKind.i64.min = -9223372036854775808 := by decide
  have h1 : IntKind.i64.max = 9223372036854775807 := by decide
  unfold Lit.wf at e3
  rw [Bool.and_eq_true, decide_eq_true_iff, decide_eq_true_iff, h0, h1] at e3
  exact ⟨m, rfl, by unfold I64; omega, by simp only [VR]⟩
set_option maxRecDepth 100000 in
theorem bool_in {W : World} {base : Nat} {w : Value} (hok : Value.okWide Try.prog W .any base 4 w) : ∃ b : Bool, w = .bool b ∧ VR (idPhi W) w w := by
  obtain ⟨b, rfl⟩ := okWide_bool Try.underlying4 hok
  exact ⟨b, rfl, by simp only [VR]⟩
set_option maxRecDepth 100000 in
theorem walk (hs : Says 5) {K : Type} {enc : TypeId × Value → K} {W : World} {base : Nat} {v w x y : Value} {d d' d2 : DataW K} {p p' p2 : List MemPlace}
    (hok : Value.okWide Try.prog W .any base 26 v) (ht : DataW.Trod enc Try.prog W 0 (fun _ => true) true 26 v d p) (hw : ∀ n ∈ d.weights Try.prog 26, n ≤ reachBytes)
    (hok' : Value.okWide Try.prog W .any base 44 w) (ht' : DataW.Trod enc Try.prog W 0 (fun _ => true) true 44 w d' p') (hw' : ∀ n ∈ d'.weights Try.prog 44, n ≤ reachBytes)
    (hok2 : Value.okWide Try.prog W .any base 3 x) (ht2 : DataW.Trod enc Try.prog W 0 (fun _ => true) true 3 x d2 p2)
    (hok3 : Value.okWide Try.prog W .any base 4 y) :
    Calls Try.prog 5 #[v, w, x, y] W fun e w' => e = .returned (.bool true) ∧ Grown W w' ∧ ∀ b, b < W.heap.size → w'.heap[b]? = W.heap[b]? := by
  obtain ⟨H, hH, hI⟩ := I.start W
  obtain ⟨np, nj, nk, ps, js, ks, hg, hv⟩ := grove_in hH hok ht hw
  have hc : Cell.okWide Try.prog W .any base 44 w := by
    unfold Value.okWide at hok'
    rw [Try.underlying44] at hok'
    exact hok'
  obtain ⟨fuel, ht'⟩ := ht'
  rw [cells_one hc] at ht'
  obtain ⟨nl, ls, hsl, hv'⟩ := slice_in hH Try.underlying44 flat3 (by omega) bytes3 ht' hw' hc
  obtain ⟨a, rfl, a1, va⟩ := int_in hok2 ht2
  obtain ⟨b, rfl, vb⟩ := bool_in hok3
  obtain ⟨l, H', n', e⟩ := hs H W.heap.size v w np nj nk ps js ks nl ls a b hg (list_in hH hc hsl) a1
  refine (calls_of_tower_open G.tab_ok hI (VRL.cons hv (VRL.cons hv' (VRL.cons va (VRL.cons vb VRL.nil)))) e rfl).mono ?_
  rintro en w' ⟨h1, h2, h3, h4, h5, h6, h7⟩
  exact ⟨h1, grown_of h2 h4 h5 h6 h7, h6⟩
theorem trodAll_four {H : Type} {enc : TypeId × Value → H} {P : Program} {w : World} {base : Nat} {spare : Nat → Bool} {held : Bool} {t t' t2 t3 : TypeId} {args : Array Value} {ds : List (DataW H)} {ps : List MemPlace} (h : DataW.TrodAll enc P w base spare held [t, t', t2, t3] args.toList ds ps) :
    ∃ v v' v2 v3 d d' d2 d3 p p' p2 p3, args = #[v, v', v2, v3] ∧ ds = [d, d', d2, d3] ∧ ps = p ++ p' ++ p2 ++ p3 ∧ DataW.Trod enc P w base spare held t v d p ∧ DataW.Trod enc P w base spare held t' v' d' p' ∧ DataW.Trod enc P w base spare held t2 v2 d2 p2 ∧ DataW.Trod enc P w base spare held t3 v3 d3 p3 := by
  obtain ⟨v, vs, d, ds', p, q, hargs, rfl, rfl, hd, hrest⟩ := trodAll_cons h
  obtain ⟨v', vs', d', ds'', p', q', rfl, rfl, rfl, hd', hrest'⟩ := trodAll_cons hrest
  obtain ⟨v2, vs2, d2, ds2, p2, q2, rfl, rfl, rfl, hd2, hrest2⟩ := trodAll_cons hrest'
  obtain ⟨v3, vs3, d3, ds3, p3, q3, rfl, rfl, rfl, hd3, hrest3⟩ := trodAll_cons hrest2
  obtain ⟨rfl, rfl, rfl⟩ := trodAll_nil hrest3
  exact ⟨v, v', v2, v3, d, d', d2, d3, p, p', p2, p3, by cases args; simp_all, rfl, by simp, hd, hd', hd2, hd3⟩
set_option maxRecDepth 100000 in
theorem lifted (hs : Says 5) (os : Os) (started : os.Started) (H : Type) (enc : TypeId × Value → H) :
    ReturnsInHanded {} Try.checked os 5 .any (Rows.nestWorstsSpec.pre6 enc Try.prog Try.f5 Rows.nestWorstsRow.domain false) (Rows.nestWorstsSpec.post enc Try.prog Try.f5 false true false false) := by
  refine returnsInHanded_of_change_sized (C := Try.checked) own started (by kernel_rfl) Try.func5
    (ChangeSpec.witness6 (enc := enc) (C := Try.checked) false ⟨#[], #[.agg #[.slice none 0 0, .slice none 0 0, .slice none 0 0], .slice none 0 0, .int .i64 0, .bool false], []⟩ 8 (by kernel_rfl) (by kernel_rfl) (by kernel_rfl) (by kernel_rfl)) ?_
  intro W base args ds gs before hval0 hW hcnd hsz _
  have hval : ∀ (j : Nat) t v, Try.f5.params[j]? = some t → args[j]? = some v → Value.okWide Try.prog W .any base t v := hval0
  have hW' := hW
  obtain ⟨p, q, hA0, hV, rfl, hfz, hnd⟩ := hW
  have hA : DataW.TrodAll enc Try.prog W 0 (fun _ => true) true Try.f5.params.toList args.toList ds p := hA0
  have hAk := hA
  rw [Try.params5] at hA hval
  obtain ⟨v, w, x, y, d, d', d2, d3, p0, p1, p2, p3, rfl, rfl, rfl, h0, h1, h2, _⟩ := trodAll_four hA
  obtain ⟨rfl, rfl⟩ := trodVars_none hV
  simp only [List.append_nil] at hW' hAk
  have hall : ∀ n ∈ d.weights Try.prog 26 ++ (d'.weights Try.prog 44 ++ (d2.weights Try.prog 3 ++ (d3.weights Try.prog 4 ++ []))), n ≤ reachBytes := by
    intro n hn
    have hm : n ∈ DataW.weightsEach Try.checked.prog (Try.f5.params.toList ++ DataSpec.varTypes Try.checked.prog Rows.nestWorstsSpec.plain) ([d, d', d2, d3] ++ []) := by
      rw [Try.params5]
      exact hn
    have := List.all_eq_true.1 hsz n hm
    simpa using this
  refine (walk hs (hval 0 26 v rfl rfl) h0 (fun n hn => hall n (List.mem_append_left _ hn)) (hval 1 44 w rfl rfl) h1 (fun n hn => hall n (List.mem_append_right _ (List.mem_append_left _ hn))) (hval 2 3 x rfl rfl) h2 (hval 3 4 y rfl rfl)).mono fun e W' ⟨he, hg, hk⟩ => ?_
  subst he
  exact ⟨_, rfl, post_of_same (pv := []) hW' (fun _ _ _ => (trodAll_cons_mk (shut_bool Try.underlying4 _) trodAll_mk0))
    (fun sp hsp => DataW.TrodAll.respare kids full (by rw [Try.params5]; decide +kernel) (carryAll hk hAk) hsp) (fun _ _ => rfl) (by simp)
    (hg.frame _) hg.2.1 (ok_one (by kernel_rfl) rfl (okWide_bool_mk Try.underlying4 _))⟩
theorem over (hs : Says 5) : Rows.nestWorstsRow.holds Try.pinned (OpenSpec.ofChange Rows.nestWorstsSpec) :=
  OpenClaim.holds_of_wide 5 Try.f5 rfl rfl rfl rfl rfl rfl rfl ⟨rfl, rfl, rfl, rfl, rfl⟩ rfl rfl rfl rfl rfl (by kernel_rfl) Try.func5 (by kernel_rfl)
    (of_decide_eq_true (by kernel_rfl)) (by unfold Func.isWrapper; first | (rw [if_pos (by decide +kernel)]; kernel_rfl) | (rw [if_neg (by decide +kernel)]; exact ⟨rfl, rfl⟩))
    (fun os started H enc _ => lifted hs os started H enc)
theorem said (hs : Says 5) : Rows.NestWorstsSaid := over hs
end Go.Proofs.Ytgojjellogiglaa.nestWorsts
end
section
namespace Go.Proofs.Ytgojjellogiglaa.spec
open Go.Ev Go.Proofs.Ytgojjellogiglaa.nestFits Go.Proofs.Ytgojjellogiglaa.G
set_option maxRecDepth 1000000
noncomputable def isB (c : Bool) (r : Res) : Bool := match r with
  | some (.bool b, _, _) => b == c
  | _ => false
theorem isB_eq {c : Bool} {r : Res} (h : isB c r = true) : ∃ H n, r = some (.bool c, H, n) := by
  unfold isB at h
  split at h
  · rename_i b H n
    have h := eq_of_beq h
    subst h
    exact ⟨H, n, rfl⟩
  · cases h
theorem run_awake : isB true ((cal 60).call 16 [] .nil 0) = true := by kernel_rfl
theorem flat16 : flatF P 16 = true := by kernel_rfl
theorem awake_call {ρ : Type} (H : Hp) (n : Nat) (k : Value → Hp → Nat → Option ρ) : callFK P (cal 60) 16 [] H n k = k (.bool true) H n := by
  obtain ⟨H', n', e⟩ := isB_eq run_awake
  exact callFK_pure flat16 rfl e rfl
end Go.Proofs.Ytgojjellogiglaa.spec
end
section
namespace Go.Proofs.Ytgojjellogiglaa.spec
open Go Go.Ev Go.Proofs.Ytgojjellogiglaa.nestFits Go.Proofs.Ytgojjellogiglaa.G
set_option maxRecDepth 100000
theorem w_placed_zero {np nj nk nl : Nat} {ps js ks ls : List Int} (h : placedN np nj nk nl ps js ks ls = 0) : Good np nj nk ps js ks ∧ nl = np ∧ laidOk js ks ls nj np nk := by
  unfold placedN at h
  by_cases c1 : faultN np nj nk ps js ks ≠ 0
  · rw [if_pos c1] at h; exact absurd h c1
  · rw [if_neg c1] at h
    by_cases c2 : nl = np ∧ laidOk js ks ls nj np nk
    · exact ⟨good_of (Decidable.not_not.1 c1), c2.1, c2.2⟩
    · rw [if_neg c2] at h; omega
theorem row_facts {np nj nk p pd kd e : Nat} {ps js ks ls : List Int} (good : Good np nj nk ps js ks) (hjs : js.length = nj * 2) (hls : ls.length = np) (hok : laidOk js ks ls nj np nk) (hp : p < np) (hpd : pd < np) (he : e < 2) (hkd : ls.getD p 0 = kd) :
    kd < nk ∧ (spreadR js ks (laidL ls np) nj np pd e p).length = np ∧ (∀ o : Nat, o < np → (reach js ks nj kd p o).1 ≤ (spreadR js ks (laidL ls np) nj np pd e p).getD o 0 ∧ (spreadR js ks (laidL ls np) nj np pd e p).getD o 0 ≤ (reach js ks nj kd p o).2) ∧
      sumTo (fun o => (spreadR js ks (laidL ls np) nj np pd e p).getD o 0) np = ks.getD (kd * 5) 0 ∧ (spreadR js ks (laidL ls np) nj np pd e p).getD pd 0 = ext (ks.getD (kd * 5) 0) (shP js ks nj np p kd) e pd := by
  have np8 := good.np8
  obtain ⟨hk, hfit⟩ : kd < nk ∧ fitD js ks nj np p kd = true := by
    rcases hok p hp with q | ⟨q1, q2, q3⟩
    · omega
    · rw [hkd, Int.toNat_natCast] at q3; exact ⟨by omega, q3⟩
  have hin := good.inner hjs
  have hle : ∀ k, (shP js ks nj np p kd).getD (k * 2) 0 ≤ (shP js ks nj np p kd).getD (k * 2 + 1) 0 := fun k => by
    obtain ⟨a1, a2⟩ := share_reach (ks := ks) (kd := kd) hin np8 hp k
    obtain ⟨_, b2, _⟩ := reach_small (js := js) (nj := nj) good.small hk (p : Int) (k : Int)
    rw [a1, a2]; exact b2
  obtain ⟨_, x2, _, _⟩ := part_ext good hjs hp hpd hk ((fits_agree good hjs hp hk).1 hfit)
  have hends : ext (ks.getD (kd * 5) 0) (shP js ks nj np p kd) 0 pd ≤ ext (ks.getD (kd * 5) 0) (shP js ks nj np p kd) e pd ∧ ext (ks.getD (kd * 5) 0) (shP js ks nj np p kd) e pd ≤ ext (ks.getD (kd * 5) 0) (shP js ks nj np p kd) 1 pd := by
    match e, he with
    | 0, _ => exact ⟨Int.le_refl _, x2⟩
    | 1, _ => exact ⟨x2, Int.le_refl _⟩
  obtain ⟨s1, s2, s3, _⟩ := spreadN_ok (shP_len ..) (show pd < 8 by omega) hle hends.1 hends.2
  have hR : spreadR js ks (laidL ls np) nj np pd e p = (spreadL (ks.getD (kd * 5) 0) (shP js ks nj np p kd) pd (ext (ks.getD (kd * 5) 0) (shP js ks nj np p kd) e pd)).take np := by
    unfold spreadR
    rw [laidL_in hls hp, hkd, if_neg (by omega), Int.toNat_natCast]
  have hget : ∀ o, o < np → (spreadR js ks (laidL ls np) nj np pd e p).getD o 0 = spreadN (ks.getD (kd * 5) 0) (shP js ks nj np p kd) pd (ext (ks.getD (kd * 5) 0) (shP js ks nj np p kd) e pd) o := fun o ho => by
    rw [hR, List.getD_eq_getElem?_getD, List.getElem?_take_of_lt ho, ← List.getD_eq_getElem?_getD, spreadL_get (by omega)]
  refine ⟨hk, by rw [hR, List.length_take, spreadL_len]; omega, fun o ho => ?_, ?_, by rw [hget pd hpd, s2]⟩
  · obtain ⟨a1, a2⟩ := share_reach (ks := ks) (kd := kd) hin np8 hp o
    rw [hget o ho, ← a1, ← a2]
    exact s1 o
  · rw [sumTo_same (g := spreadN (ks.getD (kd * 5) 0) (shP js ks nj np p kd) pd (ext (ks.getD (kd * 5) 0) (shP js ks nj np p kd) e pd)) (fun k hk => hget k hk)]
    refine Eq.trans (sumTo_zero np8 fun k h1 h2 => ?_).symm s3
    obtain ⟨a1, a2⟩ := share_reach (ks := ks) (kd := kd) hin np8 hp k
    have far := reach_far (ks := ks) (kind := kd) hin hp h1
    have := s1 k
    rw [a1, a2, far] at this
    omega
theorem row_none {np nj pd e p : Nat} {js ks ls : List Int} (hls : ls.length = np) (hp : p < np) (h : ls.getD p 0 = -1) : spreadR js ks (laidL ls np) nj np pd e p = [] := by
  unfold spreadR
  rw [laidL_in hls hp, if_pos h]
theorem row_cases {np nj nk p : Nat} {js ks ls : List Int} (hok : laidOk js ks ls nj np nk) (hp : p < np) : ls.getD p 0 = -1 ∨ ∃ kd : Nat, ls.getD p 0 = kd := by
  rcases hok p hp with q | ⟨q, _⟩
  · exact .inl q
  · exact .inr ⟨(ls.getD p 0).toNat, by omega⟩
theorem rows_ok {np nj nk pd e : Nat} {ps js ks ls : List Int} (good : Good np nj nk ps js ks) (hjs : js.length = nj * 2) (hls : ls.length = np) (hok : laidOk js ks ls nj np nk) (hpd : pd < np) (he : e < 2) :
    ∀ q, q < np → rowOk js ks nj np q (ls.getD q 0) (spreadR js ks (laidL ls np) nj np pd e q) := by
  intro q hq
  unfold rowOk
  rcases row_cases hok hq with h | ⟨kd, h⟩
  · rw [if_pos (by omega), row_none hls hq h]; rfl
  · obtain ⟨_, f1, f2, f3, _⟩ := row_facts good hjs hls hok hq hpd he h
    rw [if_neg (by omega), h, Int.toNat_natCast]
    exact ⟨f1, f2, f3⟩
theorem rows_small {np nj nk pd e : Nat} {ps js ks ls : List Int} (good : Good np nj nk ps js ks) (hjs : js.length = nj * 2) (hls : ls.length = np) (hok : laidOk js ks ls nj np nk) (hpd : pd < np) (he : e < 2) {p : Nat} (hp : p < np) :
    ∀ o : Nat, 0 ≤ (spreadR js ks (laidL ls np) nj np pd e p).getD o 0 ∧ (spreadR js ks (laidL ls np) nj np pd e p).getD o 0 ≤ 1000 := by
  intro o
  rcases row_cases hok hp with h | ⟨kd, h⟩
  · rw [row_none hls hp h]; simp
  · obtain ⟨hk, f1, f2, _, _⟩ := row_facts good hjs hls hok hp hpd he h
    by_cases ho : o < np
    · have := f2 o ho
      obtain ⟨b1, _, b3⟩ := reach_small (js := js) (nj := nj) good.small hk (p : Int) (o : Int)
      omega
    · rw [List.getD_eq_getElem?_getD, List.getElem?_eq_none (by omega)]; simp
theorem rows_young {np nj nk pd e : Nat} {ps js ks ls : List Int} (good : Good np nj nk ps js ks) (hjs : js.length = nj * 2) (hls : ls.length = np) (hok : laidOk js ks ls nj np nk) (hpd : pd < np) (he : e < 2) :
    sumTo (fun p => (spreadR js ks (laidL ls np) nj np pd e p).getD pd 0) np = bsum js ks (laidL ls np) nj np 8 e pd := by
  have np8 := good.np8
  unfold bsum
  rw [sumTo_zero (f := fun p => if (laidL ls np).getD p 0 = -1 then 0 else ext (ks.getD (((laidL ls np).getD p 0).toNat * 5) 0) (shP js ks nj np p ((laidL ls np).getD p 0).toNat) e pd) np8 fun k h1 h2 => by rw [if_pos (laidL_out hls h1 h2)]]
  refine sumTo_same fun p hp => ?_
  rcases row_cases hok hp with h | ⟨kd, h⟩
  · rw [row_none hls hp h, laidL_in hls hp, if_pos h]; rfl
  · obtain ⟨_, _, _, _, f4⟩ := row_facts good hjs hls hok hp hpd he h
    rw [f4, laidL_in hls hp, h, if_neg (by omega), Int.toNat_natCast]
theorem worsts_law {np nj nk nl : Nat} {ps js ks ls : List Int} {H : Hp} {n : Nat} {v w : Value} {pad : Int} {hi : Bool} (hg : GroveI H n v np nj nk ps js ks) (hw : ListR H n w nl ls) : ∃ H' n', C5_0 (cal 60) KK v w (.int .i64 pad) (.bool hi) H n = some (.bool true, H', n') := by
  have hjs : js.length = nj * 2 := by obtain ⟨_, _, _, _, _, h2, _⟩ := hg.eq; exact h2.1
  have he : (if hi = true then 1 else 0) < 2 := by split <;> omega
  have hcase : ∀ {np : Nat}, 0 ≤ pad ∧ pad < (np : Int) → ∃ pd : Nat, pad = pd ∧ pd < np := fun h => ⟨pad.toNat, by omega, by omega⟩
  exact worsts_core (cal 60) (E := placedN np nj nk nl ps js ks ls) (R := spreadR js ks (laidL ls np) nj np pad.toNat (if hi = true then 1 else 0)) (LO := bsum js ks (laidL ls np) nj np 8 0 pad.toNat) (HI := bsum js ks (laidL ls np) nj np 8 1 pad.toNat)
    (fun H n k => awake_call H n k) (fun H n v h1 h2 => thin_call 59 h1 h2.len_eq)
    (fun H n v h ht => grove_call 58 h (by have := ht.1; omega) (by have := ht.2.1; omega) (by have := ht.2.2.1; omega))
    (fun H n h ht => list_call 59 h (by have := ht.2.2.2; omega)) (fun a lo hi H n k => in_call 59 a lo hi H n k) (fun H n v h1 h2 => placedN_call 54 h1 h2)
    (fun he ht H n v u h1 h2 => by
      obtain ⟨l1, l2, l3, _⟩ := ht
      obtain ⟨H', n', e, e1, e2⟩ := (Worst_spec 52 h1 h2 (by omega) (by omega) (by omega) hjs pad hi).1 he
      exact ⟨H', n', fun k => by rw [Worst_call, e]; rfl, e1, e2⟩)
    (fun he ht hno H n v u h1 h2 => by
      obtain ⟨l1, l2, l3, _⟩ := ht
      obtain ⟨H', n', e, e1, e2⟩ := (Worst_spec 52 h1 h2 (by omega) (by omega) (by omega) hjs pad hi).2.1 he hno
      exact ⟨H', n', fun k => by rw [Worst_call, e]; rfl, e1, e2⟩)
    (fun he0 ht hin H n v u h1 h2 => by
      obtain ⟨l1, l2, l3, _⟩ := ht
      obtain ⟨good, hnl, hok⟩ := w_placed_zero he0
      obtain ⟨pd, hpd, hlt⟩ := hcase hin
      have e0 : pad.toNat = pd := by omega
      obtain ⟨bs, base, H', n', rw_, e, e1, e2, e3, e4, e5⟩ := (Worst_spec 52 h1 h2 (by omega) (by omega) (by omega) hjs pad hi).2.2 he0 pd hpd hlt
      rw [e0]
      refine ⟨_, H', n', rw_, fun k => by rw [Worst_call, e]; rfl, e1, e2, SpreadI.of_cells e3 e4 fun p hp => (e5 p hp).list fun x hx => ?_⟩
      obtain ⟨q, hq, rfl⟩ := List.mem_iff_getElem.1 hx
      have : (spreadR js ks (laidL ls np) nj np pd (if hi = true then 1 else 0) p)[q] = (spreadR js ks (laidL ls np) nj np pd (if hi = true then 1 else 0) p).getD q 0 := by rw [List.getD_eq_getElem?_getD, List.getElem?_eq_getElem hq]; rfl
      rw [this]
      have := rows_small good hjs (by rw [hw.1, hnl]) hok hlt he hp q
      unfold I64; omega)
    (fun he => (w_placed_zero he).2.1) (fun he => ⟨(w_placed_zero he).1.np8, (w_placed_zero he).1.np1⟩)
    (fun he0 hin H n v h1 h2 => by
      obtain ⟨good, hnl, hok⟩ := w_placed_zero he0
      obtain ⟨pd, hpd, hlt⟩ := hcase hin
      have e0 : pad.toNat = pd := by omega
      rw [e0, hpd]
      exact rbounds_call 55 good hok hlt h1 h2)
    (fun he0 hin H n v s rw_ h1 h2 h3 => by
      obtain ⟨good, hnl, hok⟩ := w_placed_zero he0
      obtain ⟨pd, hpd, hlt⟩ := hcase hin
      have e0 : pad.toNat = pd := by omega
      rw [e0] at h3
      obtain ⟨r, H', n', r0, r1, r2, r3⟩ := isSpread_call (ρ := Value × Hp × Nat) 57 good hok h1 h2 h3
      have : r = true := r0.2 ⟨rfl, rows_ok good hjs (by rw [hw.1, hnl]) hok hlt he⟩
      subst this
      exact ⟨H', n', r1, r2, r3⟩)
    (fun he0 hin H n s rw_ h3 => by
      obtain ⟨good, hnl, hok⟩ := w_placed_zero he0
      obtain ⟨pd, hpd, hlt⟩ := hcase hin
      have e0 : pad.toNat = pd := by omega
      rw [e0] at h3
      have hls : ls.length = np := by rw [hw.1, hnl]
      obtain ⟨H', n', r1, r2, r3⟩ := young_call (ρ := Value × Hp × Nat) 59 (pad := pd) h3 (by have := good.np8; omega) (fun p hp => by
        rcases row_cases hok hp with h | ⟨kd, h⟩
        · exact .inl (by rw [row_none hls hp h]; rfl)
        · obtain ⟨_, f1, _⟩ := row_facts good hjs hls hok hp hlt he h
          have := rows_small good hjs hls hok hlt he hp pd
          exact .inr ⟨by omega, by omega, by omega⟩)
      rw [rows_young good hjs hls hok hlt he] at r1
      refine ⟨H', n', fun k => ?_, r2, r3⟩
      rw [hpd, r1, ← hpd, e0]
      cases hi <;> rfl) hg hw
theorem call5 (v w x y : Value) (H : Hp) (n : Nat) : (cal (60 + 1)).call 5 [v, w, x, y] H n = C5_0 (cal 60) KK v w x y H n := by kernel_rfl
theorem worsts_says : nestWorsts.Says 5 := by
  intro H n v w np nj nk ps js ks nl ls a b hg hw _
  obtain ⟨H', n', e⟩ := worsts_law (pad := a) (hi := b) hg hw
  exact ⟨60 + 1, H', n', (call5 v w _ _ H n).trans e⟩
theorem proved : Rows.NestWorstsSaid := nestWorsts.said worsts_says
#print axioms proved
end Go.Proofs.Ytgojjellogiglaa.spec
end
