/- The pads of any layout whose nest can be removed are as the document says, or the error is: whatever the grove and the layout. -/
import Derived.Test.YtgojjellogiglaaB2
section
namespace Go.Proofs.Ytgojjellogiglaa.spec
open Go Go.Ev Go.Proofs.Ytgojjellogiglaa.nestFits Go.Proofs.Ytgojjellogiglaa.G
set_option maxRecDepth 100000
variable {ρ : Type}
def Same (H Hm : Hp) : Prop := ∀ b o vs, CellsAt H b o vs → CellsAt Hm b o vs
theorem same_slice {H Hm : Hp} {n s len : Nat} {v : Value} {xs : List Int} (hr : Same H Hm) (h : SliceI H n s v len xs) : SliceI Hm n s v len xs := by
  obtain ⟨h1, h2, h3⟩ := h
  refine ⟨h1, h2, ?_⟩
  rcases h3 with h3 | ⟨b, o, cap, e, a1, a2, a3, a4⟩
  · exact .inl h3
  · exact .inr ⟨b, o, cap, e, a1, a2, a3, a4.imp id fun z => hr _ _ _ z⟩
theorem same_grove {H Hm : Hp} {n np nj nk : Nat} {v : Value} {ps js ks : List Int} (hr : Same H Hm) (h : GroveI H n v np nj nk ps js ks) : GroveI Hm n v np nj nk ps js ks := by
  obtain ⟨a, b, c, e, h1, h2, h3⟩ := h.eq
  exact ⟨⟨a, b, c, e, same_slice hr h1, same_slice hr h2, same_slice hr h3⟩⟩
theorem same_list {H Hm : Hp} {n len : Nat} {v : Value} {xs : List Int} (hr : Same H Hm) (h : ListR H n v len xs) : ListR Hm n v len xs := by
  obtain ⟨h1, h2, h3⟩ := h
  refine ⟨h1, h2, ?_⟩
  rcases h3 with h3 | ⟨b, o, cap, e, a, c⟩
  · exact .inl h3
  · exact .inr ⟨b, o, cap, e, a, hr _ _ _ c⟩
theorem block_of {H : Hp} {b o : Nat} {vs : List Value} (h : CellsAt H b o vs) : (∃ c e ro vec, H.get b = some (.cells c e ro vec)) ∨ ∃ c, H.get b = some (.rows c) := by
  obtain ⟨B, c, h1, h2, _⟩ := h
  cases B with
  | cells c e ro vec => exact .inl ⟨_, _, _, _, h1⟩
  | rows c => exact .inr ⟨_, h1⟩
  | _ => cases h2
theorem effK_read {ex : List Extra} {H : Hp} {n : Nat} {v : Value} {op : Hp → Nat → (Value → Hp → Nat → Option ρ) → Option ρ}
    (hex : ∀ y ∈ ex, ∃ t a, y = .l t a ∧ a.block < n ∧ ((∃ c e ro vec, H.get a.block = some (.cells c e ro vec)) ∨ ∃ c, H.get a.block = some (.rows c)))
    (hop : ∀ Hm, Same H Hm → ∃ H2 n2, (∀ k, op Hm n k = k v H2 n2) ∧ n ≤ n2 ∧ Keep n Hm H2) :
    ∃ H' n2, (∀ k, effK P ex H n op k = k v H' n2) ∧ n ≤ n2 ∧ Keep n H H' := by
  cases ex with
  | nil =>
    obtain ⟨H2, n2, h1, h2, h3⟩ := hop H (fun _ _ _ h => h)
    exact ⟨H2, n2, fun k => by unfold effK; exact h1 k, h2, h3⟩
  | cons y l =>
    have hl : ∀ z ∈ y :: l, ∃ t a, z = .l t a := fun z hz => by obtain ⟨t, a, e, _⟩ := hex z hz; exact ⟨t, a, e⟩
    obtain ⟨H1, e1, e2⟩ := maskX_some (ex := y :: l) (H := H) fun z hz => by obtain ⟨t, a, e, _, h⟩ := hex z hz; exact .inl ⟨t, a, e, h⟩
    have hnw : ∀ b, ¬ nwOf (y :: l) b := fun b ⟨id, c, e, h1, _⟩ => by obtain ⟨t, a, q⟩ := hl _ h1; cases q
    obtain ⟨H2, n2, h1, h2, h3⟩ := hop (maskXA (y :: l) H1) fun b o vs hc => by
      obtain ⟨B, c, g1, g2, g3⟩ := hc
      have em := (maskXA_get (ex := y :: l) (H := H1) b).2 (hnw _)
      rcases e2 b with q | ⟨⟨c', e, ro, vec, q1, q2⟩, _⟩
      · exact ⟨B, c, by rw [em, q]; exact g1, g2, g3⟩
      · rw [q1] at g1
        cases g1
        exact ⟨.cells c' e true vec, c, by rw [em]; exact q2, g2, g3⟩
    have hsome : ∀ z ∈ y :: l, (∃ t a, z = .l t a ∧ (H2.get a.block).isSome) ∨ ∃ id c e, z = .a id c e := by
      intro z hz
      obtain ⟨t, a, rfl, hb, hc⟩ := hex z hz
      refine .inl ⟨t, a, rfl, ?_⟩
      rw [h3 _ hb, (maskXA_get (H := H1) a.block).2 (hnw _)]
      have hs : (H.get a.block).isSome := by rcases hc with ⟨c, e, ro, vec, hc⟩ | ⟨c, hc⟩ <;> rw [hc] <;> rfl
      rcases e2 a.block with q | ⟨⟨c, e, ro, vec, _, q⟩, _⟩
      · rw [q]; exact hs
      · rw [q]; rfl
    obtain ⟨H3, f1, f2, f3⟩ := backX_some (H0 := H) hsome
    have hck : chkX P (backXA (y :: l) H H3) (y :: l) = true := chk_true fun z hz => .inl (hl z hz)
    refine ⟨backXA (y :: l) H H3, n2, fun k => ?_, h2, fun b hb => ?_⟩
    · unfold effK
      simp only [e1, bindO_some, h1, f1, hck]
      rfl
    · rw [(backXA_get b).2 (hnw b)]
      by_cases q : ldOf (y :: l) b
      · exact f2 b q
      · rw [f3 b q, h3 b hb, (maskXA_get (H := H1) b).2 (hnw b)]
        rcases e2 b with z | ⟨_, z⟩
        · exact z
        · exact absurd z q
theorem fv55_0 (a b : Value) : fieldV P 55 (.agg ⟨[a, b]⟩) 0 = some a := by kernel_rfl
theorem fv55_1 (a b : Value) : fieldV P 55 (.agg ⟨[a, b]⟩) 1 = some b := by kernel_rfl
theorem limit_spec (l : Nat) {np nj nk q : Nat} {ps js ks ls : List Int} (good : Good np nj nk ps js ks) (hok : laidOk js ks ls nj np nk) (hq : q < np) {H : Hp} {n : Nat} {v w : Value} (hg : GroveI H n v np nj nk ps js ks) (hw : ListR H n w np ls) :
    Ret (C28_0 (cal (l + 5)) KK v w (.int .i64 q) H n) n H (.bool (decide (bsum js ks (laidL ls np) nj np 8 0 q < ps.getD (q * 2) 0))) ∧
    Ret (C29_0 (cal (l + 5)) KK v w (.int .i64 q) H n) n H (.bool (decide (ps.getD (q * 2 + 1) 0 < bsum js ks (laidL ls np) nj np 8 1 q))) := by
  have hg0 := hg
  obtain ⟨x, y, z, rfl, h1, h2, h3⟩ := hg.eq
  have hk : Keep n H (H.set n (some (.cells [x, y, z] 26 false none))) := (Keep.refl n H).set (Nat.le_refl _) _
  have hb : (H.set n (some (.cells [x, y, z] 26 false none))).get n = some (.cells [x, y, z] 26 false none) := by rw [Tr.get_set, if_pos rfl]
  unfold C28_0 B28_0 C29_0 B29_0
  rw [boxK_eq, boxK_eq]
  simp only [cellsV, ptr]
  generalize H.set n (some (.cells [x, y, z] 26 false none)) = H1 at hk hb ⊢
  have hg1 : GroveI H1 (n + 1) (.agg ⟨[x, y, z]⟩) np nj nk ps js ks := hg0.keep hk (by omega)
  have lx : loadV P H1 22 ⟨n, 0 + 0, none⟩ = some x := loadV_scalar (cells_of hb) agg22 rfl h1.hole.1 h1.hole.2
  obtain ⟨rb, o, hix, hrb, hc⟩ := ((h1.keep hk (Nat.le_refl _)).up (show n ≤ n + 1 by omega)).at_ und22 sz95 hq
  have hl : q * 2 + 2 ≤ ps.length := by rw [h1.1]; omega
  have a0 : loadV P H1 3 ⟨rb, o + q * 2 + 0, none⟩ = some (.int .i64 (ps.getD (q * 2) 0)) := by
    rw [show o + q * 2 + 0 = o + (q * 2) by omega]; exact loadV_int hc agg3 (ints_get (getD_some (by omega)))
  have a1 : loadV P H1 3 ⟨rb, o + q * 2 + 1, none⟩ = some (.int .i64 (ps.getD (q * 2 + 1) 0)) := by
    rw [show o + q * 2 + 1 = o + (q * 2 + 1) by omega]; exact loadV_int hc agg3 (ints_get (getD_some (by omega)))
  have go : ∀ (oo : Nat), ∃ H' n2, (∀ k : Value → Hp → Nat → Res, effK P [.l 3 ⟨rb, oo, none⟩, .l 22 ⟨n, 0 + 0, none⟩] H1 (n + 1) (fun H n k => callFK P (cal (l + 5)) 27 [.agg ⟨[x, y, z]⟩, w, .int .i64 q] H n fun v H n => k v H n) k =
      k (.agg ⟨[.int .i64 (bsum js ks (laidL ls np) nj np 8 0 q), .int .i64 (bsum js ks (laidL ls np) nj np 8 1 q)]⟩) H' n2) ∧ n + 1 ≤ n2 ∧ Keep (n + 1) H1 H' := fun oo =>
    effK_read (fun y hy => by
      simp only [List.mem_cons, List.not_mem_nil, or_false] at hy
      rcases hy with rfl | rfl
      · exact ⟨_, _, rfl, hrb, block_of hc⟩
      · exact ⟨_, _, rfl, by show n < n + 1; omega, .inl ⟨_, _, _, _, hb⟩⟩)
      (fun Hm hm => by
        obtain ⟨H2, n2, e1, e2, e3⟩ := rbounds_call (ρ := Value × Hp × Nat) l good hok hq (same_grove hm hg1) (same_list hm (hw.keep hk (show n ≤ n + 1 by omega)))
        exact ⟨H2, n2, fun k => e1 _, e2, e3⟩)
  constructor
  · obtain ⟨H', n2, e1, e2, e3⟩ := go (o + q * 2 + 0)
    rw [addrV_eq, bindO_some, load26 (cells_of hb) h1.hole.1 h2.hole.1 h3.hole.1, bindO_some, fa26_0, bindO_some, addrV_eq, bindO_some, lx, bindO_some, hix, bindO_some, fa95_0, bindO_some, addrV_eq, bindO_some, a0, bindO_some, e1, fv55_0, bindO_some, binK_some bin_lss]
    exact ⟨H', n2, rfl, by omega, hk.trans e3 (by omega)⟩
  · obtain ⟨H', n2, e1, e2, e3⟩ := go (o + q * 2 + 1)
    rw [addrV_eq, bindO_some, load26 (cells_of hb) h1.hole.1 h2.hole.1 h3.hole.1, bindO_some, fa26_0, bindO_some, addrV_eq, bindO_some, lx, bindO_some, hix, bindO_some, fa95_1, bindO_some, addrV_eq, bindO_some, a1, bindO_some, e1, fv55_1, bindO_some, binK_some bin_gtr]
    exact ⟨H', n2, rfl, by omega, hk.trans e3 (by omega)⟩
theorem call28 (l : Nat) (a b c : Value) (H : Hp) (n : Nat) : (cal (l + 1)).call 28 [a, b, c] H n = C28_0 (cal l) KK a b c H n := by kernel_rfl
theorem call29 (l : Nat) (a b c : Value) (H : Hp) (n : Nat) : (cal (l + 1)).call 29 [a, b, c] H n = C29_0 (cal l) KK a b c H n := by kernel_rfl
theorem missedR_call (l : Nat) {np nj nk q : Nat} {ps js ks ls : List Int} (good : Good np nj nk ps js ks) (hok : laidOk js ks ls nj np nk) (hq : q < np) {H : Hp} {n : Nat} {v w : Value} (hg : GroveI H n v np nj nk ps js ks) (hw : ListR H n w np ls) :
    ∃ H' n', (∀ k : Value → Hp → Nat → Option ρ, callFK P (cal (l + 6)) 28 [v, w, .int .i64 q] H n k = k (.bool (decide (bsum js ks (laidL ls np) nj np 8 0 q < ps.getD (q * 2) 0))) H' n') ∧ n ≤ n' ∧ Keep n H H' := by
  obtain ⟨r, H', n', rfl, e1, e2, e3⟩ := callFK_spec (ρ := ρ) (P := P) (cal := cal (l + 6)) (f := 28) (args := [v, w, .int .i64 q]) (H := H) (n := n)
    (Pre := fun H n => GroveI H n v np nj nk ps js ks ∧ ListR H n w np ls) (Q := fun r => r = .bool (decide (bsum js ks (laidL ls np) nj np 8 0 q < ps.getD (q * 2) 0)))
    (fun H n h => ⟨_, by rw [call28]; exact (limit_spec l good hok hq h.1 h.2).1, rfl⟩) (fun r e _ => by subst e; rfl) ⟨hg, hw⟩ (fun hp => by
        simp only [pureL, Bool.and_eq_true] at hp
        exact ⟨hg.nil hp.1, hw.nil hp.2.1⟩)
  exact ⟨H', n', e1, e2, e3⟩
theorem overR_call (l : Nat) {np nj nk q : Nat} {ps js ks ls : List Int} (good : Good np nj nk ps js ks) (hok : laidOk js ks ls nj np nk) (hq : q < np) {H : Hp} {n : Nat} {v w : Value} (hg : GroveI H n v np nj nk ps js ks) (hw : ListR H n w np ls) :
    ∃ H' n', (∀ k : Value → Hp → Nat → Option ρ, callFK P (cal (l + 6)) 29 [v, w, .int .i64 q] H n k = k (.bool (decide (ps.getD (q * 2 + 1) 0 < bsum js ks (laidL ls np) nj np 8 1 q))) H' n') ∧ n ≤ n' ∧ Keep n H H' := by
  obtain ⟨r, H', n', rfl, e1, e2, e3⟩ := callFK_spec (ρ := ρ) (P := P) (cal := cal (l + 6)) (f := 29) (args := [v, w, .int .i64 q]) (H := H) (n := n)
    (Pre := fun H n => GroveI H n v np nj nk ps js ks ∧ ListR H n w np ls) (Q := fun r => r = .bool (decide (ps.getD (q * 2 + 1) 0 < bsum js ks (laidL ls np) nj np 8 1 q)))
    (fun H n h => ⟨_, by rw [call29]; exact (limit_spec l good hok hq h.1 h.2).2, rfl⟩) (fun r e _ => by subst e; rfl) ⟨hg, hw⟩ (fun hp => by
        simp only [pureL, Bool.and_eq_true] at hp
        exact ⟨hg.nil hp.1, hw.nil hp.2.1⟩)
  exact ⟨H', n', e1, e2, e3⟩
end Go.Proofs.Ytgojjellogiglaa.spec
end
section
namespace Go.Proofs.Ytgojjellogiglaa.spec
open Go Go.Ev Go.Proofs.Ytgojjellogiglaa.nestFits Go.Proofs.Ytgojjellogiglaa.G
set_option maxRecDepth 100000
variable {ρ : Type}
theorem rightR_loop (l k : Nat) {np nj nk : Nat} {ps js ks ls : List Int} (good : Good np nj nk ps js ks) (hok : laidOk js ks ls nj np nk) (g : Nat) (x y z w : Value) :
    ∀ (m i : Nat) (H : Hp) (n : Nat), g < n → CellsAt H g 0 [x, y, z] → GroveI H n (.agg ⟨[x, y, z]⟩) np nj nk ps js ks → ListR H n w np ls → i ≤ np → np - i ≤ m →
    ∃ r, Ret (S44_1 (cal (l + 6)) k m w (.pointer (some ⟨g, 0, none⟩)) (.int .i64 i) H n) n H (.bool r) ∧ (r = true ↔ ∀ q, i ≤ q → q < np → ¬ bsum js ks (laidL ls np) nj np 8 0 q < ps.getD (q * 2) 0 ∧ ¬ ps.getD (q * 2 + 1) 0 < bsum js ks (laidL ls np) nj np 8 1 q) := by
  have body : ∀ (b1 : Value → Value → Value → Hp → Nat → Res) (m i : Nat) (H : Hp) (n : Nat), g < n → CellsAt H g 0 [x, y, z] → GroveI H n (.agg ⟨[x, y, z]⟩) np nj nk ps js ks → ListR H n w np ls → i ≤ np →
      (∀ H' n', n ≤ n' → Keep n H H' → i < np → ∃ r, Ret (b1 w (.pointer (some ⟨g, 0, none⟩)) (.int .i64 ((i + 1 : Nat) : Int)) H' n') n' H' (.bool r) ∧ (r = true ↔ ∀ q, i + 1 ≤ q → q < np → ¬ bsum js ks (laidL ls np) nj np 8 0 q < ps.getD (q * 2) 0 ∧ ¬ ps.getD (q * 2 + 1) 0 < bsum js ks (laidL ls np) nj np 8 1 q)) →
      ∃ r, Ret (C44_1 (cal (l + 6)) k m b1 w (.pointer (some ⟨g, 0, none⟩)) (.int .i64 i) H n) n H (.bool r) ∧ (r = true ↔ ∀ q, i ≤ q → q < np → ¬ bsum js ks (laidL ls np) nj np 8 0 q < ps.getD (q * 2) 0 ∧ ¬ ps.getD (q * 2 + 1) 0 < bsum js ks (laidL ls np) nj np 8 1 q) := by
    intro b1 m i H n hgn hb hg hw hi ih
    have np8 := good.np8
    obtain ⟨x', y', z', hxyz, h1, h2, h3⟩ := hg.eq
    cases hxyz
    have lx : loadV P H 22 ⟨g, 0, none⟩ = some x := loadV_scalar (o := 0) (k := 0) hb agg22 rfl h1.hole.1 h1.hole.2
    have elx : lenV P 22 x = some (.int .i64 np) := h1.len_eq und22
    unfold C44_1 B44_1
    rw [fa26_0, Nat.add_zero, bindO_some, addrV_eq, bindO_some, lx, bindO_some, elx, bindO_some, binK_some bin_lss, ifK_d]
    by_cases hlt : i < np
    · have hI : I64 ((i : Int) + 1) := by unfold I64; omega
      have hcast : ((i : Int) + 1) = ((i + 1 : Nat) : Int) := by omega
      have l26 : ∀ H2, CellsAt H2 g 0 [x, y, z] → loadV P H2 26 ⟨g, 0, none⟩ = some (.agg ⟨[x, y, z]⟩) := fun H2 h => load26 h h1.hole.1 h2.hole.1 h3.hole.1
      obtain ⟨H2, n2, c1, c2, c3⟩ := missedR_call (ρ := Value × Hp × Nat) l good hok hlt hg hw
      obtain ⟨H3, n3, d1, d2, d3⟩ := overR_call (ρ := Value × Hp × Nat) l good hok hlt (hg.keep c3 c2) (hw.keep c3 c2)
      rw [if_pos (by omega), bindO_some, l26 H hb, bindO_some, c1]
      cases hm : decide (bsum js ks (laidL ls np) nj np 8 0 i < ps.getD (i * 2) 0) with
      | true =>
        simp only [guardK_tf, pickV_t, bindO_some, ifK_t]
        exact ⟨false, ⟨H2, n2, rfl, c2, c3⟩, ⟨fun h => (by cases h), fun h => absurd (of_decide_eq_true hm) (h i (Nat.le_refl _) hlt).1⟩⟩
      | false =>
        simp only [guardK_ff, bindO_some, l26 H2 (hb.keep c3 hgn), d1, pickV_f]
        cases ho : decide (ps.getD (i * 2 + 1) 0 < bsum js ks (laidL ls np) nj np 8 1 i) with
        | true =>
          rw [ifK_t]
          exact ⟨false, ⟨H3, n3, rfl, by omega, c3.trans d3 c2⟩, ⟨fun h => (by cases h), fun h => absurd (of_decide_eq_true ho) (h i (Nat.le_refl _) hlt).2⟩⟩
        | false =>
          rw [ifK_f, binK_some (bin_add hI), hcast]
          obtain ⟨r, ⟨H4, n4, e1, e2, e3⟩, e4⟩ := ih H3 n3 (by omega) (c3.trans d3 c2) hlt
          refine ⟨r, ⟨H4, n4, e1, by omega, (c3.trans d3 c2).trans e3 (by omega)⟩, e4.trans ⟨fun h q q1 q2 => ?_, fun h q q1 q2 => h q (by omega) q2⟩⟩
          rcases Nat.eq_or_lt_of_le q1 with e | e
          · subst e; exact ⟨of_decide_eq_false hm, of_decide_eq_false ho⟩
          · exact h q e q2
    · rw [if_neg (by omega)]
      exact ⟨true, ⟨H, n, rfl, Nat.le_refl _, Keep.refl _ _⟩, ⟨fun _ q q1 q2 => by omega, fun _ => rfl⟩⟩
  intro m
  induction m with
  | zero =>
    intro i H n h1 h2 h3 h4 h5 h6
    exact body _ 0 i H n h1 h2 h3 h4 h5 (fun _ _ _ _ h => by omega)
  | succ m ih =>
    intro i H n h1 h2 h3 h4 h5 h6
    exact body _ (m + 1) i H n h1 h2 h3 h4 h5 (fun H' n' q1 q2 q3 => ih (i + 1) H' n' (by omega) (h2.keep q2 h1) (h3.keep q2 q1) (h4.keep q2 q1) (by omega) (by omega))
theorem call44 (l : Nat) (a b : Value) (H : Hp) (n : Nat) : (cal (l + 1)).call 44 [a, b] H n = C44_0 (cal l) KK a b H n := by kernel_rfl
theorem rightR_call (l : Nat) {np nj nk : Nat} {ps js ks ls : List Int} (good : Good np nj nk ps js ks) (hok : laidOk js ks ls nj np nk) {H : Hp} {n : Nat} {v w : Value} (hg : GroveI H n v np nj nk ps js ks) (hw : ListR H n w np ls) :
    ∃ (r : Bool) (H' : Hp) (n' : Nat), (r = true ↔ RightL js ks ps (laidL ls np) nj np) ∧ (∀ k : Value → Hp → Nat → Option ρ, callFK P (cal (l + 7)) 44 [v, w] H n k = k (.bool r) H' n') ∧ n ≤ n' ∧ Keep n H H' := by
  obtain ⟨r, H', n', ⟨b, rfl, hb⟩, e1, e2, e3⟩ := callFK_spec (ρ := ρ) (P := P) (cal := cal (l + 7)) (f := 44) (args := [v, w]) (H := H) (n := n)
    (Pre := fun H n => GroveI H n v np nj nk ps js ks ∧ ListR H n w np ls) (Q := fun r => ∃ b : Bool, r = .bool b ∧ (b = true ↔ RightL js ks ps (laidL ls np) nj np))
    (fun H n ⟨hg, hw⟩ => by
      have hg0 := hg
      obtain ⟨x, y, z, rfl, _⟩ := hg.eq
      have hk : Keep n H (H.set n (some (.cells [x, y, z] 26 false none))) := (Keep.refl n H).set (Nat.le_refl _) _
      obtain ⟨r, ⟨H', n', e1, e2, e3⟩, e4⟩ := rightR_loop l KK good hok n x y z w KK 0 (H.set n (some (.cells [x, y, z] 26 false none))) (n + 1) (by omega) CellsAt.new (hg0.keep hk (by omega)) (hw.keep hk (by omega)) (by omega) (by have := good.np8; unfold KK; omega)
      refine ⟨.bool r, ⟨H', n', ?_, by omega, hk.trans e3 (by omega)⟩, r, rfl, e4.trans ⟨fun h q hq => h q (Nat.zero_le _) hq, fun h q _ hq => h q hq⟩⟩
      rw [call44]
      exact e1) (fun r ⟨b, e, _⟩ _ => by subst e; rfl) ⟨hg, hw⟩ (fun hp => by
        simp only [pureL, Bool.and_eq_true] at hp
        exact ⟨hg.nil hp.1, hw.nil hp.2.1⟩)
  exact ⟨b, H', n', hb, e1, e2, e3⟩
end Go.Proofs.Ytgojjellogiglaa.spec
end
section
namespace Go.Proofs.Ytgojjellogiglaa.spec
open Go Go.Ev Go.Proofs.Ytgojjellogiglaa.nestFits Go.Proofs.Ytgojjellogiglaa.G
set_option maxRecDepth 100000
variable {ρ : Type}
theorem spares_loop (c : Cal) (k : Nat) {np nj nk : Nat} {ps js ks ls : List Int} {H0 : Hp} {base b0 : Nat} {x y z w u5 : Value} {sp : Nat → Bool}
    (Hawake : ∀ (H : Hp) (n : Nat) (k : Value → Hp → Nat → Res), callFK P c 16 [] H n k = k (.bool true) H n)
    (Hown : ∀ (H : Hp) (n : Nat), ListR H n w np ls → ∃ b cap H' n', (∀ k : Value → Hp → Nat → Res, callFK P c 23 [w] H n k = k (.slice (some ⟨b, 0, none⟩) np cap) H' n') ∧ n ≤ b ∧ b < n' ∧ Keep n H H' ∧ H'.get b = some (.cells (ints ls) 3 false (some 1)))
    (HR : ∀ (p : Nat) (H : Hp) (n : Nat) (u : Value), p < np → ls.getD p 0 ≠ -1 → GroveI H n (.agg ⟨[x, y, z]⟩) np nj nk ps js ks → ListR H n u np (ls.set p (-1)) → ∃ (r : Bool) (H' : Hp) (n' : Nat), (r = true ↔ sp p = true) ∧ (∀ k : Value → Hp → Nat → Res, callFK P c 44 [.agg ⟨[x, y, z]⟩, u] H n k = k (.bool r) H' n') ∧ n ≤ n' ∧ Keep n H H')
    (Hsp : ∀ p, p < np → ls.getD p 0 = -1 → ¬ sp p = true) (Hneg : ∀ p, p < np → ls.getD p 0 = -1 ∨ 0 ≤ ls.getD p 0)
    (Hi : ∀ (H : Hp) (n l1 l2 : Nat) (u v : Value) (xs ys : List Int), ListR H n u l1 xs → ListR H n v l2 ys → l1 ≤ 1000 → ∃ (r : Bool) (H' : Hp) (n' : Nat), (r = true ↔ xs = ys) ∧ (∀ k : Value → Hp → Nat → Res, callFK P c 30 [u, v] H n k = k (.bool r) H' n') ∧ n ≤ n' ∧ Keep n H H')
    (hg : GroveI H0 base (.agg ⟨[x, y, z]⟩) np nj nk ps js ks) (hw : ListR H0 base w np ls) (hnp : np ≤ 8) (hbox : CellsAt H0 b0 0 [x, y, z]) (hb0 : b0 < base) (h5 : ListR H0 base u5 (listOf sp np).length (listOf sp np)) :
    ∀ (m i : Nat) (u8 : Value) (H : Hp) (n : Nat), Keep base H0 H → base ≤ n → VecAt H base n 1 3 u8 (listOf sp i).length (listOf sp i) → i ≤ np → np - i ≤ m →
    ∃ H' n', S8_1 c k m w (.pointer (some ⟨b0, 0, none⟩)) u5 (.int .i64 0) u8 (.int .i64 i) H n = some (.bool true, H', n') := by
  have body : ∀ (b1 : Value → Value → Value → Value → Value → Value → Hp → Nat → Res) (m i : Nat) (u8 : Value) (H : Hp) (n : Nat), Keep base H0 H → base ≤ n → VecAt H base n 1 3 u8 (listOf sp i).length (listOf sp i) → i ≤ np →
      (∀ (u8 : Value) (H : Hp) (n : Nat), Keep base H0 H → base ≤ n → VecAt H base n 1 3 u8 (listOf sp (i + 1)).length (listOf sp (i + 1)) → i < np →
        ∃ H' n', b1 w (.pointer (some ⟨b0, 0, none⟩)) u5 (.int .i64 0) u8 (.int .i64 ((i + 1 : Nat) : Int)) H n = some (.bool true, H', n')) →
      ∃ H' n', C8_1 c k m b1 w (.pointer (some ⟨b0, 0, none⟩)) u5 (.int .i64 0) u8 (.int .i64 i) H n = some (.bool true, H', n') := by
    intro b1 m i u8 H n hk hbn hv hi ih
    obtain ⟨x', y', z', hxyz, h1, h2, h3⟩ := hg.eq
    cases hxyz
    have hsm := listOf_small sp i (by omega)
    unfold C8_1 B8_1
    rw [(hw.keep hk hbn).len_eq, bindO_some, binK_some bin_lss, ifK_d]
    by_cases hlt : i < np
    · have hI : I64 ((i : Int) + 1) := by unfold I64; omega
      have hcast : ((i : Int) + 1) = ((i + 1 : Nat) : Int) := by omega
      have tail : ∀ (u8' : Value) (H' : Hp) (n' : Nat), Keep base H0 H' → base ≤ n' → VecAt H' base n' 1 3 u8' (listOf sp (i + 1)).length (listOf sp (i + 1)) →
          ∃ H2 n2, C8_2 c k m b1 w (.pointer (some ⟨b0, 0, none⟩)) u5 (.int .i64 0) u8' (.int .i64 i) H' n' = some (.bool true, H2, n2) := by
        intro u8' H' n' q1 q2 q3
        unfold C8_2 B8_2
        rw [binK_some (bin_add hI), hcast]
        exact ih u8' H' n' q1 q2 q3 hlt
      obtain ⟨bm, cap, H2, n2, a1, a2, a3, a4, a5⟩ := Hown H n (hw.keep hk hbn)
      obtain ⟨H3, s1, s2, s3⟩ := put44 (n := n2) (cap := cap) (a := -1) a5 hw.1 hlt a3 hw.2.1 (by unfold I64; omega)
      have k3 : Keep n H H3 := fun q hq => (s2 q (by omega)).trans (a4 q hq)
      have kb : Keep base H0 H3 := hk.trans k3 hbn
      obtain ⟨rb, o, x1, _, x3⟩ := (hw.keep kb (show base ≤ n2 by omega)).at_ hlt
      have hv3 : VecAt H3 base n2 1 3 u8 (listOf sp i).length (listOf sp i) := hv.same (by omega) fun b hb _ => k3 b hb
      rw [if_pos (by omega), a1, at44L _ _ _ hlt, bindO_some, s1, bindO_some, x1, bindO_some, addrV_eq, bindO_some, x3, bindO_some, binK_some bin_geq]
      cases hd : decide (0 ≤ ls.getD i 0) with
      | false =>
        have hm1 : ls.getD i 0 = -1 := by
          rcases Hneg i hlt with q | q
          · exact q
          · exact absurd q (of_decide_eq_false hd)
        simp only [guardK_ft, pickV_f, bindO_some, ifK_f]
        refine tail u8 H3 n2 kb (by omega) ?_
        rw [listOf_next sp, if_neg (Hsp i hlt hm1), List.append_nil]
        exact hv3
      | true =>
        have h0 := of_decide_eq_true hd
        obtain ⟨r, H4, n4, r0, r1, r2, r3⟩ := HR i H3 n2 _ hlt (by omega) (hg.keep kb (by omega)) s3
        have hv4 : VecAt H4 base n4 1 3 u8 (listOf sp i).length (listOf sp i) := hv3.same r2 fun b hb _ => r3 b hb
        have k4 : Keep base H0 H4 := kb.trans r3 (by omega)
        simp only [guardK_tt, addrV_eq, bindO_some, load26 (hbox.keep kb hb0) h1.hole.1 h2.hole.1 h3.hole.1, r1, pickV_t]
        cases r with
        | false =>
          rw [ifK_f]
          refine tail u8 H4 n4 k4 (by omega) ?_
          rw [listOf_next sp, if_neg (fun h => absurd (r0.2 h) (by simp)), List.append_nil]
          exact hv4
        | true =>
          obtain ⟨u', H5, d1, d2, d3, d4⟩ := push_int (ρ := Value × Hp × Nat) hv4 (by omega) (by omega) i
          rw [ifK_t, d1]
          refine tail u' H5 _ (fun b hb => ?_) (by omega) ?_
          · rw [d3 b (by omega) (fun q => by have := (hv4.low q).1; omega)]
            exact k4 b hb
          · rw [listOf_next sp, if_pos (r0.1 rfl), List.length_append]
            exact d2
    · have hi' : i = np := by omega
      subst hi'
      have d0 : decide ((0 : Int) = 0) = true := rfl
      obtain ⟨r, H2, n2, a1, a2, a3, a4⟩ := Hi H n _ _ u5 u8 _ _ (h5.keep hk hbn) (VecAt.list hv hsm.2) (by omega)
      have hr : r = true := a1.2 rfl
      subst hr
      rw [if_neg (by omega), binK_some bin_eql, d0]
      simp only [guardK_tt, a2, bindO_some, pickV_t, Hawake]
      exact ⟨_, _, rfl⟩
  intro m
  induction m with
  | zero =>
    intro i u8 H n h1 h2 h3 h4 h5
    exact body _ 0 i u8 H n h1 h2 h3 h4 (fun _ _ _ _ _ _ h => by omega)
  | succ m ih =>
    intro i u8 H n h1 h2 h3 h4 h5
    exact body _ (m + 1) i u8 H n h1 h2 h3 h4 (fun u8 H n q1 q2 q3 q4 => ih (i + 1) u8 H n q1 q2 q3 (by omega) (by omega))
theorem spares_core (c : Cal) (S : Value → Value → Value → Value → Value → Value → Hp → Nat → Res) {np nj nk nl : Nat} {ps js ks ls : List Int} {w : Value} {E : Int} {sp : Nat → Bool}
    (Hawake : ∀ (H : Hp) (n : Nat) (k : Value → Hp → Nat → Res), callFK P c 16 [] H n k = k (.bool true) H n)
    (Hthin : ∀ (H : Hp) (n : Nat) (v : Value), GroveI H n v np nj nk ps js ks → ListR H n w nl ls → ∃ (r : Bool) (H' : Hp) (n' : Nat), (r = true ↔ thin np nj nk nl) ∧ (∀ k : Value → Hp → Nat → Res, callFK P c 15 [v, w] H n k = k (.bool r) H' n') ∧ n ≤ n' ∧ Keep n H H')
    (Hgrove : ∀ (H : Hp) (n : Nat) (v : Value), GroveI H n v np nj nk ps js ks → thin np nj nk nl → ∃ u H' n', (∀ k : Value → Hp → Nat → Res, callFK P c 18 [v] H n k = k u H' n') ∧ n ≤ n' ∧ Keep n H H' ∧ GroveP H' n' u np nj nk ps js ks)
    (Hlist : ∀ (H : Hp) (n : Nat), ListR H n w nl ls → thin np nj nk nl → ∃ u H' n', (∀ k : Value → Hp → Nat → Res, callFK P c 23 [w] H n k = k u H' n') ∧ n ≤ n' ∧ Keep n H H' ∧ ListR H' n' u nl ls)
    (HSbad : E ≠ 0 → thin np nj nk nl → ∀ (H : Hp) (n : Nat) (v u : Value), GroveP H n v np nj nk ps js ks → ListR H n u nl ls → ∃ H' n', (∀ k : Value → Hp → Nat → Res, callFK P c 47 [v, u] H n k = k (.tuple ⟨[.slice none 0 0, .int .i64 E]⟩) H' n') ∧ n ≤ n' ∧ Keep n H H')
    (HSgood : E = 0 → thin np nj nk nl → ∀ (H : Hp) (n : Nat) (v u : Value), GroveP H n v np nj nk ps js ks → ListR H n u nl ls → ∃ (u5 : Value) (H' : Hp) (n' : Nat), (∀ k : Value → Hp → Nat → Res, callFK P c 47 [v, u] H n k = k (.tuple ⟨[u5, .int .i64 0]⟩) H' n') ∧ n ≤ n' ∧ Keep n H H' ∧ ListR H' n' u5 (listOf sp np).length (listOf sp np))
    (Hplaced : ∀ (H : Hp) (n : Nat) (v : Value), GroveI H n v np nj nk ps js ks → ListR H n w nl ls → ∃ H' n', (∀ k : Value → Hp → Nat → Res, callFK P c 25 [v, w] H n k = k (.int .i64 E) H' n') ∧ n ≤ n' ∧ Keep n H H')
    (Hnl : E = 0 → nl = np)
    (Hloop : E = 0 → thin np nj nk nl → ∀ (H : Hp) (n b0 : Nat) (x y z u5 : Value), GroveI H n (.agg ⟨[x, y, z]⟩) np nj nk ps js ks → ListR H n w np ls → CellsAt H b0 0 [x, y, z] → b0 < n → ListR H n u5 (listOf sp np).length (listOf sp np) →
      ∃ H' n', S w (.pointer (some ⟨b0, 0, none⟩)) u5 (.int .i64 0) (.slice none 0 0) (.int .i64 0) H n = some (.bool true, H', n'))
    {H : Hp} {n : Nat} {v : Value} (hg : GroveI H n v np nj nk ps js ks) (hw : ListR H n w nl ls) : ∃ H' n', B8_0 c KK S v w H n = some (.bool true, H', n') := by
  have hg0 := hg
  obtain ⟨x, y, z, rfl, h1, h2, h3⟩ := hg.eq
  unfold B8_0
  rw [boxK_eq]
  simp only [cellsV, ptr]
  have hk : Keep n H (H.set n (some (.cells [x, y, z] 26 false none))) := (Keep.refl n H).set (Nat.le_refl _) _
  have hb : CellsAt (H.set n (some (.cells [x, y, z] 26 false none))) n 0 [x, y, z] := CellsAt.new
  generalize H.set n (some (.cells [x, y, z] 26 false none)) = H1 at hk hb ⊢
  have ld : ∀ H2, CellsAt H2 n 0 [x, y, z] → loadV P H2 26 ⟨n, 0, none⟩ = some (.agg ⟨[x, y, z]⟩) := fun H2 h => load26 h h1.hole.1 h2.hole.1 h3.hole.1
  have hg1 : GroveI H1 (n + 1) (.agg ⟨[x, y, z]⟩) np nj nk ps js ks := hg0.keep hk (by omega)
  have hw1 : ListR H1 (n + 1) w nl ls := hw.keep hk (by omega)
  obtain ⟨t, H2, n2, t1, t2, t3, t4⟩ := Hthin H1 (n + 1) _ hg1 hw1
  rw [addrV_eq, bindO_some, ld H1 hb, bindO_some, t2]
  cases t with
  | false =>
    rw [not_f, bindO_some, ifK_t, Hawake]
    exact ⟨_, _, rfl⟩
  | true =>
    have ht := t1.1 rfl
    have hb2 := hb.keep t4 (by omega)
    have hg2 := hg1.keep t4 t3
    have hw2 := hw1.keep t4 t3
    obtain ⟨gv, H3, n3, a1, a2, a3, a4⟩ := Hgrove H2 n2 _ hg2 ht
    have hw3 := hw2.keep a3 a2
    obtain ⟨lv, H4, n4, b1, b2, b3, b4⟩ := Hlist H3 n3 hw3 ht
    have gp4 : GroveP H4 n4 gv np nj nk ps js ks := a4.keep b3 b2
    have k4 : Keep n2 H2 H4 := a3.trans b3 a2
    rw [not_t, bindO_some, ifK_f, bindO_some, ld H2 hb2, bindO_some, a1, b1]
    by_cases he : E = 0
    · have hnl := Hnl he
      subst hnl
      obtain ⟨u5, H5, n5, c1, c2, c3, c4⟩ := HSgood he ht H4 n4 gv lv gp4 b4
      have k5 : Keep n2 H2 H5 := k4.trans c3 (by omega)
      have t0 : tupV (.tuple ⟨[u5, .int .i64 0]⟩) 0 = some u5 := rfl
      have t1 : tupV (.tuple ⟨[u5, .int .i64 0]⟩) 1 = some (.int .i64 0) := rfl
      obtain ⟨H6, n6, g1, g2, g3⟩ := Hplaced H5 n5 _ (hg2.keep k5 (by omega)) (hw2.keep k5 (by omega))
      have k6 : Keep n2 H2 H6 := k5.trans g3 (by omega)
      have d00 : decide ((0 : Int) = 0) = true := rfl
      rw [c1, t0, bindO_some, t1, bindO_some, bindO_some, ld H5 (hb2.keep k5 (by omega)), bindO_some, g1, he, binK_some bin_neq, d00, Bool.not_true, ifK_f]
      exact Hloop he ht H6 n6 n x y z u5 (hg2.keep k6 (by omega)) (hw2.keep k6 (by omega)) (hb2.keep k6 (by omega)) (by omega) (c4.keep g3 g2)
    · obtain ⟨H5, n5, c1, c2, c3⟩ := HSbad he ht H4 n4 gv lv gp4 b4
      have k5 : Keep n2 H2 H5 := k4.trans c3 (by omega)
      have t0 : tupV (.tuple ⟨[.slice none 0 0, .int .i64 E]⟩) 0 = some (.slice none 0 0) := rfl
      have t1 : tupV (.tuple ⟨[.slice none 0 0, .int .i64 E]⟩) 1 = some (.int .i64 E) := rfl
      obtain ⟨H6, n6, g1, g2, g3⟩ := Hplaced H5 n5 _ (hg2.keep k5 (by omega)) (hw2.keep k5 (by omega))
      have dE : decide (E = E) = true := decide_eq_true rfl
      have e0 : lenV P 44 (.slice none 0 0) = some (.int .i64 0) := by kernel_rfl
      rw [c1, t0, bindO_some, t1, bindO_some, bindO_some, ld H5 (hb2.keep k5 (by omega)), bindO_some, g1, binK_some bin_neq, decide_eq_false he, Bool.not_false, ifK_t, binK_some bin_eql, dE]
      simp only [guardK_tt, e0, bindO_some, binK_some bin_eql, decide_true, pickV_t, Hawake]
      exact ⟨_, _, rfl⟩
end Go.Proofs.Ytgojjellogiglaa.spec
end
section
namespace Go.Proofs.Ytgojjellogiglaa.nestBounds
open Go.ChangeShapes Go.WideShapes Go.ChangeAt Go.RowKit Go.Ev Go.Proofs.Ytgojjellogiglaa.nestFits
theorem flat3 : flatT Try.prog 5 3 = some 1 := by kernel_rfl
theorem bytes3 : 1 ≤ Try.prog.bytesOf 3 := by decide +kernel
def Says (f : Nat) : Prop := ∀ (H : Hp) (n : Nat) (v w : Value) np nj nk ps js ks nl ls, GroveI H n v np nj nk ps js ks → spec.ListR H n w nl ls →
  ∃ l H' n', (calE G.P G.A (G.KK + 1) G.tab.get l).call f [v, w] H n = some (.bool true, H', n')
set_option maxRecDepth 100000
theorem there {W : World} {base : Nat} {b o len cap : Nat} {H : Hp} (hH : ∀ i, H.get i = rowsOf W i) (hok : Cell.okWide Try.prog W .any base 44 (.slice (some ⟨b, o, none⟩) len cap)) : ∃ c, H.get b = some (.rows c) := by
  simp only [Cell.okWide, Try.underlying44, Cell.ok] at hok
  obtain ⟨_, _, _, hsp, row, cells, hshape, _⟩ := hok
  rw [hH]
  unfold rowsOf
  unfold World.shape? at hshape
  dsimp only at hshape
  cases hb : W.heap[b]? with
  | none => rw [hb] at hshape; simp at hshape
  | some B =>
    rw [hb] at hshape
    cases B with
    | cells arr x y => exact ⟨_, rfl⟩
    | _ => simp at hshape
theorem list_in {W : World} {base n len : Nat} {w : Value} {xs : List Int} {H : Hp} (hH : ∀ i, H.get i = rowsOf W i) (hok : Cell.okWide Try.prog W .any base 44 w) (h : SliceI H n 1 w len xs) : spec.ListR H n w len xs := by
  obtain ⟨h1, h2, h3⟩ := h
  refine ⟨by omega, h2, ?_⟩
  rcases h3 with h3 | ⟨b, o, cap, e, a1, a2, a3, a4⟩
  · exact .inl h3
  · refine .inr ⟨b, o, cap, e, a3, ?_⟩
    rcases a4 with rfl | a4
    · subst e
      obtain ⟨c, hc⟩ := there hH hok
      have : xs = [] := List.length_eq_zero_iff.1 (by omega)
      subst this
      exact ⟨_, c, hc, rfl, fun k v h => by simp [ints] at h⟩
    · exact a4
theorem cells_one {W : World} {base : Nat} {w : Value} (hok : Cell.okWide Try.prog W .any base 44 w) : w.cells.toList = [w] := by
  cases w with
  | slice a l c => rfl
  | _ => simp only [Cell.okWide, Try.underlying44, Cell.ok] at hok
set_option maxRecDepth 100000 in
theorem walk (hs : Says 4) {K : Type} {enc : TypeId × Value → K} {W : World} {base : Nat} {v w : Value} {d d' : DataW K} {p p' : List MemPlace}
    (hok : Value.okWide Try.prog W .any base 26 v) (ht : DataW.Trod enc Try.prog W 0 (fun _ => true) true 26 v d p) (hw : ∀ n ∈ d.weights Try.prog 26, n ≤ reachBytes)
    (hok' : Value.okWide Try.prog W .any base 44 w) (ht' : DataW.Trod enc Try.prog W 0 (fun _ => true) true 44 w d' p') (hw' : ∀ n ∈ d'.weights Try.prog 44, n ≤ reachBytes) :
    Calls Try.prog 4 #[v, w] W fun e w' => e = .returned (.bool true) ∧ Grown W w' ∧ ∀ b, b < W.heap.size → w'.heap[b]? = W.heap[b]? := by
  obtain ⟨H, hH, hI⟩ := I.start W
  obtain ⟨np, nj, nk, ps, js, ks, hg, hv⟩ := grove_in hH hok ht hw
  have hc : Cell.okWide Try.prog W .any base 44 w := by
    unfold Value.okWide at hok'
    rw [Try.underlying44] at hok'
    exact hok'
  obtain ⟨fuel, ht'⟩ := ht'
  rw [cells_one hc] at ht'
  obtain ⟨nl, ls, hsl, hv'⟩ := slice_in hH Try.underlying44 flat3 (by omega) bytes3 ht' hw' hc
  obtain ⟨l, H', n', e⟩ := hs H W.heap.size v w np nj nk ps js ks nl ls hg (list_in hH hc hsl)
  refine (calls_of_tower_open G.tab_ok hI (VRL.cons hv (VRL.cons hv' VRL.nil)) e rfl).mono ?_
  rintro en w' ⟨h1, h2, h3, h4, h5, h6, h7⟩
  exact ⟨h1, grown_of h2 h4 h5 h6 h7, h6⟩
set_option maxRecDepth 100000 in
theorem lifted (hs : Says 4) (os : Os) (started : os.Started) (H : Type) (enc : TypeId × Value → H) :
    ReturnsInHanded {} Try.checked os 4 .any (Rows.nestBoundsSpec.pre6 enc Try.prog Try.f4 Rows.nestBoundsRow.domain false) (Rows.nestBoundsSpec.post enc Try.prog Try.f4 false true false false) := by
  refine returnsInHanded_of_change_sized (C := Try.checked) own started (by kernel_rfl) Try.func4
    (ChangeSpec.witness6 (enc := enc) (C := Try.checked) false ⟨#[], #[.agg #[.slice none 0 0, .slice none 0 0, .slice none 0 0], .slice none 0 0], []⟩ 8 (by kernel_rfl) (by kernel_rfl) (by kernel_rfl) (by kernel_rfl)) ?_
  intro W base args ds gs before hval0 hW hcnd hsz _
  have hval : ∀ (j : Nat) t v, Try.f4.params[j]? = some t → args[j]? = some v → Value.okWide Try.prog W .any base t v := hval0
  have hW' := hW
  obtain ⟨p, q, hA0, hV, rfl, hfz, hnd⟩ := hW
  have hA : DataW.TrodAll enc Try.prog W 0 (fun _ => true) true Try.f4.params.toList args.toList ds p := hA0
  have hAk := hA
  rw [Try.params4] at hA hval
  obtain ⟨v, w, d, d', p0, p1, rfl, rfl, rfl, h0, h1⟩ := trodAll_two hA
  obtain ⟨rfl, rfl⟩ := trodVars_none hV
  simp only [List.append_nil] at hW' hAk
  have hall : ∀ n ∈ d.weights Try.prog 26 ++ (d'.weights Try.prog 44 ++ []), n ≤ reachBytes := by
    intro n hn
    have hm : n ∈ DataW.weightsEach Try.checked.prog (Try.f4.params.toList ++ DataSpec.varTypes Try.checked.prog Rows.nestBoundsSpec.plain) ([d, d'] ++ []) := by
      rw [Try.params4]
      exact hn
    have := List.all_eq_true.1 hsz n hm
    simpa using this
  refine (walk hs (hval 0 26 v rfl rfl) h0 (fun n hn => hall n (List.mem_append_left _ hn)) (hval 1 44 w rfl rfl) h1 (fun n hn => hall n (List.mem_append_right _ (List.mem_append_left _ hn)))).mono fun e W' ⟨he, hg, hk⟩ => ?_
  subst he
  exact ⟨_, rfl, post_of_same (pv := []) hW' (fun _ _ _ => (trodAll_cons_mk (shut_bool Try.underlying4 _) trodAll_mk0))
    (fun sp hsp => DataW.TrodAll.respare kids full (by rw [Try.params4]; decide +kernel) (carryAll hk hAk) hsp) (fun _ _ => rfl) (by simp)
    (hg.frame _) hg.2.1 (ok_one (by kernel_rfl) rfl (okWide_bool_mk Try.underlying4 _))⟩
theorem over (hs : Says 4) : Rows.nestBoundsRow.holds Try.pinned (OpenSpec.ofChange Rows.nestBoundsSpec) :=
  OpenClaim.holds_of_wide 4 Try.f4 rfl rfl rfl rfl rfl rfl rfl ⟨rfl, rfl, rfl, rfl, rfl⟩ rfl rfl rfl rfl rfl (by kernel_rfl) Try.func4 (by kernel_rfl)
    (of_decide_eq_true (by kernel_rfl)) (by unfold Func.isWrapper; first | (rw [if_pos (by decide +kernel)]; kernel_rfl) | (rw [if_neg (by decide +kernel)]; exact ⟨rfl, rfl⟩))
    (fun os started H enc _ => lifted hs os started H enc)
theorem said (hs : Says 4) : Rows.NestBoundsSaid := over hs
end Go.Proofs.Ytgojjellogiglaa.nestBounds
end
section
namespace Go.Proofs.Ytgojjellogiglaa.nestSpares
open Go.ChangeShapes Go.WideShapes Go.ChangeAt Go.RowKit Go.Ev Go.Proofs.Ytgojjellogiglaa.nestFits Go.Proofs.Ytgojjellogiglaa.nestBounds
def Says (f : Nat) : Prop := ∀ (H : Hp) (n : Nat) (v w : Value) np nj nk ps js ks nl ls, GroveI H n v np nj nk ps js ks → spec.ListR H n w nl ls →
  ∃ l H' n', (calE G.P G.A (G.KK + 1) G.tab.get l).call f [v, w] H n = some (.bool true, H', n')
set_option maxRecDepth 100000 in
theorem walk (hs : Says 8) {K : Type} {enc : TypeId × Value → K} {W : World} {base : Nat} {v w : Value} {d d' : DataW K} {p p' : List MemPlace}
    (hok : Value.okWide Try.prog W .any base 26 v) (ht : DataW.Trod enc Try.prog W 0 (fun _ => true) true 26 v d p) (hw : ∀ n ∈ d.weights Try.prog 26, n ≤ reachBytes)
    (hok' : Value.okWide Try.prog W .any base 44 w) (ht' : DataW.Trod enc Try.prog W 0 (fun _ => true) true 44 w d' p') (hw' : ∀ n ∈ d'.weights Try.prog 44, n ≤ reachBytes) :
    Calls Try.prog 8 #[v, w] W fun e w' => e = .returned (.bool true) ∧ Grown W w' ∧ ∀ b, b < W.heap.size → w'.heap[b]? = W.heap[b]? := by
  obtain ⟨H, hH, hI⟩ := I.start W
  obtain ⟨np, nj, nk, ps, js, ks, hg, hv⟩ := grove_in hH hok ht hw
  have hc : Cell.okWide Try.prog W .any base 44 w := by
    unfold Value.okWide at hok'
    rw [Try.underlying44] at hok'
    exact hok'
  obtain ⟨fuel, ht'⟩ := ht'
  rw [cells_one hc] at ht'
  obtain ⟨nl, ls, hsl, hv'⟩ := slice_in hH Try.underlying44 flat3 (by omega) bytes3 ht' hw' hc
  obtain ⟨l, H', n', e⟩ := hs H W.heap.size v w np nj nk ps js ks nl ls hg (list_in hH hc hsl)
  refine (calls_of_tower_open G.tab_ok hI (VRL.cons hv (VRL.cons hv' VRL.nil)) e rfl).mono ?_
  rintro en w' ⟨h1, h2, h3, h4, h5, h6, h7⟩
  exact ⟨h1, grown_of h2 h4 h5 h6 h7, h6⟩
set_option maxRecDepth 100000 in
theorem lifted (hs : Says 8) (os : Os) (started : os.Started) (H : Type) (enc : TypeId × Value → H) :
    ReturnsInHanded {} Try.checked os 8 .any (Rows.nestSparesSpec.pre6 enc Try.prog Try.f8 Rows.nestSparesRow.domain false) (Rows.nestSparesSpec.post enc Try.prog Try.f8 false true false false) := by
  refine returnsInHanded_of_change_sized (C := Try.checked) own started (by kernel_rfl) Try.func8
    (ChangeSpec.witness6 (enc := enc) (C := Try.checked) false ⟨#[], #[.agg #[.slice none 0 0, .slice none 0 0, .slice none 0 0], .slice none 0 0], []⟩ 8 (by kernel_rfl) (by kernel_rfl) (by kernel_rfl) (by kernel_rfl)) ?_
  intro W base args ds gs before hval0 hW hcnd hsz _
  have hval : ∀ (j : Nat) t v, Try.f8.params[j]? = some t → args[j]? = some v → Value.okWide Try.prog W .any base t v := hval0
  have hW' := hW
  obtain ⟨p, q, hA0, hV, rfl, hfz, hnd⟩ := hW
  have hA : DataW.TrodAll enc Try.prog W 0 (fun _ => true) true Try.f8.params.toList args.toList ds p := hA0
  have hAk := hA
  rw [Try.params8] at hA hval
  obtain ⟨v, w, d, d', p0, p1, rfl, rfl, rfl, h0, h1⟩ := trodAll_two hA
  obtain ⟨rfl, rfl⟩ := trodVars_none hV
  simp only [List.append_nil] at hW' hAk
  have hall : ∀ n ∈ d.weights Try.prog 26 ++ (d'.weights Try.prog 44 ++ []), n ≤ reachBytes := by
    intro n hn
    have hm : n ∈ DataW.weightsEach Try.checked.prog (Try.f8.params.toList ++ DataSpec.varTypes Try.checked.prog Rows.nestSparesSpec.plain) ([d, d'] ++ []) := by
      rw [Try.params8]
      exact hn
    have := List.all_eq_true.1 hsz n hm
    simpa using this
  refine (walk hs (hval 0 26 v rfl rfl) h0 (fun n hn => hall n (List.mem_append_left _ hn)) (hval 1 44 w rfl rfl) h1 (fun n hn => hall n (List.mem_append_right _ (List.mem_append_left _ hn)))).mono fun e W' ⟨he, hg, hk⟩ => ?_
  subst he
  exact ⟨_, rfl, post_of_same (pv := []) hW' (fun _ _ _ => (trodAll_cons_mk (shut_bool Try.underlying4 _) trodAll_mk0))
    (fun sp hsp => DataW.TrodAll.respare kids full (by rw [Try.params8]; decide +kernel) (carryAll hk hAk) hsp) (fun _ _ => rfl) (by simp)
    (hg.frame _) hg.2.1 (ok_one (by kernel_rfl) rfl (okWide_bool_mk Try.underlying4 _))⟩
theorem over (hs : Says 8) : Rows.nestSparesRow.holds Try.pinned (OpenSpec.ofChange Rows.nestSparesSpec) :=
  OpenClaim.holds_of_wide 8 Try.f8 rfl rfl rfl rfl rfl rfl rfl ⟨rfl, rfl, rfl, rfl, rfl⟩ rfl rfl rfl rfl rfl (by kernel_rfl) Try.func8 (by kernel_rfl)
    (of_decide_eq_true (by kernel_rfl)) (by unfold Func.isWrapper; first | (rw [if_pos (by decide +kernel)]; kernel_rfl) | (rw [if_neg (by decide +kernel)]; exact ⟨rfl, rfl⟩))
    (fun os started H enc _ => lifted hs os started H enc)
theorem said (hs : Says 8) : Rows.NestSparesSaid := over hs
end Go.Proofs.Ytgojjellogiglaa.nestSpares
end
section
namespace Go.Proofs.Ytgojjellogiglaa.spec
open Go.Ev Go.Proofs.Ytgojjellogiglaa.nestFits Go.Proofs.Ytgojjellogiglaa.G
set_option maxRecDepth 1000000
noncomputable def isB (c : Bool) (r : Res) : Bool := match r with
  | some (.bool b, _, _) => b == c
  | _ => false
theorem isB_eq {c : Bool} {r : Res} (h : isB c r = true) : ∃ H n, r = some (.bool c, H, n) := by
  unfold isB at h
  split at h
  · rename_i b H n
    have h := eq_of_beq h
    subst h
    exact ⟨H, n, rfl⟩
  · cases h
theorem run_awake : isB true ((cal 60).call 16 [] .nil 0) = true := by kernel_rfl
theorem flat16 : flatF P 16 = true := by kernel_rfl
theorem awake_call {ρ : Type} (H : Hp) (n : Nat) (k : Value → Hp → Nat → Option ρ) : callFK P (cal 60) 16 [] H n k = k (.bool true) H n := by
  obtain ⟨H', n', e⟩ := isB_eq run_awake
  exact callFK_pure flat16 rfl e rfl
end Go.Proofs.Ytgojjellogiglaa.spec
end
section
namespace Go.Proofs.Ytgojjellogiglaa.spec
open Go Go.Ev Go.Proofs.Ytgojjellogiglaa.nestFits Go.Proofs.Ytgojjellogiglaa.G
set_option maxRecDepth 100000
theorem sp_placed_zero {np nj nk nl : Nat} {ps js ks ls : List Int} (h : placedN np nj nk nl ps js ks ls = 0) : Good np nj nk ps js ks ∧ nl = np ∧ laidOk js ks ls nj np nk := by
  unfold placedN at h
  by_cases c1 : faultN np nj nk ps js ks ≠ 0
  · rw [if_pos c1] at h; exact absurd h c1
  · rw [if_neg c1] at h
    by_cases c2 : nl = np ∧ laidOk js ks ls nj np nk
    · exact ⟨good_of (Decidable.not_not.1 c1), c2.1, c2.2⟩
    · rw [if_neg c2] at h; omega
theorem list_set {ls : List Int} {np p : Nat} (h : ls.length = np) (hp : p < np) : laidL (ls.set p (-1)) np = (laidL ls np).set p (-1) := by
  unfold laidL
  rw [List.set_append_left _ _ (by omega)]
theorem laid_less {js ks ls : List Int} {nj np nk p : Nat} (h : laidOk js ks ls nj np nk) : laidOk js ks (ls.set p (-1)) nj np nk := by
  intro q hq
  by_cases e : p = q
  · subst e
    by_cases hl : p < ls.length
    · refine .inl ?_
      rw [List.getD_eq_getElem?_getD, List.getElem?_set, if_pos rfl, if_pos hl]
      rfl
    · rw [List.set_eq_of_length_le (by omega)]
      exact h p hq
  · rw [List.getD_eq_getElem?_getD, List.getElem?_set, if_neg e, ← List.getD_eq_getElem?_getD]
    exact h q hq
theorem spare_list {js ks ps ls : List Int} {nj np : Nat} (h : ls.length = np) (h8 : np ≤ 8) : listOf (spareB js ks ps (laidL ls np) nj np) 8 = listOf (spareB js ks ps (laidL ls np) nj np) np := by
  have key : ∀ m, np + m ≤ 8 → listOf (spareB js ks ps (laidL ls np) nj np) (np + m) = listOf (spareB js ks ps (laidL ls np) nj np) np := by
    intro m
    induction m with
    | zero => intro _; rfl
    | succ m ih =>
      intro hm
      rw [show np + (m + 1) = np + m + 1 by omega, listOf_next, ih (by omega), if_neg, List.append_nil]
      rw [spareB_iff]
      exact fun h' => h'.1 (laidL_out h (by omega) (by omega))
  have := key (8 - np) (by omega)
  rw [show np + (8 - np) = 8 by omega] at this
  exact this
theorem spares_law {np nj nk nl : Nat} {ps js ks ls : List Int} {H : Hp} {n : Nat} {v w : Value} (hg : GroveI H n v np nj nk ps js ks) (hw : ListR H n w nl ls) : ∃ H' n', C8_0 (cal 60) KK v w H n = some (.bool true, H', n') := by
  unfold C8_0
  exact spares_core (cal 60) (S8_1 (cal 60) KK KK) (E := placedN np nj nk nl ps js ks ls) (sp := spareB js ks ps (laidL ls np) nj np) (fun H n k => awake_call H n k) (fun H n v h1 h2 => thin_call 59 h1 h2.len_eq)
    (fun H n v h ht => grove_call 58 h (by have := ht.1; omega) (by have := ht.2.1; omega) (by have := ht.2.2.1; omega))
    (fun H n h ht => list_call 59 h (by have := ht.2.2.2; omega))
    (fun he ht H n v u h1 h2 => by
      obtain ⟨l1, l2, l3, _⟩ := ht
      obtain ⟨H', n', e, e1, e2⟩ := (Spare_spec 52 h1 h2 (by omega) (by omega) (by omega)).1 he
      exact ⟨H', n', fun k => by rw [Spare_call, e]; rfl, e1, e2⟩)
    (fun he ht H n v u h1 h2 => by
      obtain ⟨l1, l2, l3, _⟩ := ht
      obtain ⟨good, hnl, _⟩ := sp_placed_zero he
      obtain ⟨u5, H', n', e, e1, e2, e3⟩ := (Spare_spec 52 h1 h2 (by omega) (by omega) (by omega)).2 he
      rw [spare_list (by rw [hw.1, hnl]) good.np8] at e3
      exact ⟨u5, H', n', fun k => by rw [Spare_call, e]; rfl, e1, e2, e3⟩)
    (fun H n v h1 h2 => placedN_call 54 h1 h2) (fun he => (sp_placed_zero he).2.1)
    (fun he ht H n b0 x y z u5 hg hw hb hb0 h5 => by
      obtain ⟨good, _, hok⟩ := sp_placed_zero he
      have np8 := good.np8
      exact spares_loop (cal 60) KK (fun H n k => awake_call H n k) (fun H n h => list_own_call 59 h good.np1 (by omega))
        (fun p H n u hp hne hg hu => by
          obtain ⟨r, H', n', r0, r1, r2, r3⟩ := rightR_call (ρ := Value × Hp × Nat) 53 good (laid_less (p := p) hok) hg hu
          refine ⟨r, H', n', r0.trans ?_, r1, r2, r3⟩
          rw [spareB_iff, list_set hw.1 hp, laidL_in hw.1 hp]
          exact ⟨fun h => ⟨hne, h⟩, fun h => h.2⟩)
        (fun p hp h => by
          rw [spareB_iff, laidL_in hw.1 hp]
          exact fun h' => h'.1 h)
        (fun p hp => by
          rcases hok p hp with z | ⟨z, _⟩
          · exact .inl z
          · exact .inr z)
        (fun H n l1 l2 u v xs ys h1 h2 h3 => ints_call 59 h1 h2 h3) hg hw np8 hb hb0 h5 KK 0 (.slice none 0 0) H n (Keep.refl _ _) (Nat.le_refl _) ⟨rfl, .inl ⟨rfl, rfl⟩⟩ (Nat.zero_le _) (by unfold KK; omega)) hg hw
theorem call8 (v w : Value) (H : Hp) (n : Nat) : (cal (60 + 1)).call 8 [v, w] H n = C8_0 (cal 60) KK v w H n := by kernel_rfl
theorem spares_says : nestSpares.Says 8 := by
  intro H n v w np nj nk ps js ks nl ls hg hw
  obtain ⟨H', n', e⟩ := spares_law hg hw
  exact ⟨60 + 1, H', n', (call8 v w H n).trans e⟩
theorem proved : Rows.NestSparesSaid := nestSpares.said spares_says
#print axioms proved
end Go.Proofs.Ytgojjellogiglaa.spec
end
