/- Texts S20 to S63. -/
import Derived.Test.YtgojjellogiglaaB1
section
namespace Go.Proofs.Ytgojjellogiglaa.spec
open Go.Ev Go.Proofs.Ytgojjellogiglaa.nestFits Go.Proofs.Ytgojjellogiglaa.G
set_option maxRecDepth 100000
variable {ρ : Type}
noncomputable def ext (y : Int) (L : List Int) (e p : Nat) : Int := lim e (L.getD (p * 2 + e) 0) (y - (total L (1 - e) - L.getD (p * 2 + (1 - e)) 0))
theorem at111 (b o : Nat) {i : Nat} (hi : i < 8) : indexAddrV P 111 (.pointer (some ⟨b, o, none⟩)) (.int .i64 i) = some (.pointer (some ⟨b, o + i * 2, none⟩)) := by
  unfold indexAddrV
  have : idxIn (.int .i64 (i : Int)) 8 = some i := by
    show idxIn (.int .i64 (.ofNat i)) 8 = some i
    simp [idxIn, hi]
  simp only [und111, this, sz53]
  rfl
theorem nest_share {y : Int} {L B : List Int} (hL : L.length = 16) {i : Nat} (hi : i < 8) : ((ints (nestL y L B)).drop (1 + i * 2)).take 2 = ((ints L).drop (i * 2)).take 2 := by
  rw [ints_cut, ints_cut]
  congr 1
  unfold nestL
  rw [Nat.add_comm, List.drop_succ_cons, List.drop_append_of_le_length (by omega), List.take_append_of_le_length (by simp; omega)]
theorem total_range {L : List Int} (hb : Bounded L) (e : Nat) : 0 ≤ total L e ∧ total L e ≤ 8000 := by
  have := sumTo_range (f := fun p => L.getD (p * 2 + e) 0) (c := 1000) (i := 8) (fun p _ => hb _)
  exact ⟨this.1, by unfold total; omega⟩
theorem row44 (x : Int) : rowOf P 44 1 [(0, .int .i64 x)] = some ([.int .i64 x], 3) := by kernel_rfl
theorem extreme_spec (l : Nat) {e : Nat} (he : e < 2) {y : Int} {L B : List Int} (hL : L.length = 16) (hB : B.length = 16) (hb : Bounded L) (hy : 0 ≤ y ∧ y ≤ 1000) {p : Nat} (hp : p < 8) :
    ∃ H' n', C120_0 (cal (l + 2)) KK (.agg ⟨ints (nestL y L B)⟩) (.int .i64 p) (endV e) .nil 0 = some (.int .i64 (ext y L e p), H', n') := by
  unfold C120_0 B120_0
  simp only [boxK_eq, cellsV, ptr, endV]
  have hg0 : (((Tr.nil : Hp).set 0 (some (.cells (ints (nestL y L B)) 113 false none))).set (0 + 1) (some (.cells [endF e, endF (1 - e), withF e] 179 false none))).get 0 = some (.cells (ints (nestL y L B)) 113 false none) := by rw [Tr.get_set, if_neg (by omega), Tr.get_set, if_pos rfl]
  have hg1 : (((Tr.nil : Hp).set 0 (some (.cells (ints (nestL y L B)) 113 false none))).set (0 + 1) (some (.cells [endF e, endF (1 - e), withF e] 179 false none))).get 1 = some (.cells [endF e, endF (1 - e), withF e] 179 false none) := by rw [Tr.get_set, if_pos rfl]
  generalize ((Tr.nil : Hp).set 0 (some (.cells (ints (nestL y L B)) 113 false none))).set (0 + 1) (some (.cells [endF e, endF (1 - e), withF e] 179 false none)) = H1 at hg0 hg1 ⊢
  simp only [Nat.zero_add]
  have lens : (ints (nestL y L B)).length = 33 := by rw [ints_length, nest_cells hL hB]
  have loads : ∀ H : Hp, H.get 0 = H1.get 0 → H.get 1 = H1.get 1 →
      loadV P H 113 ⟨0, 0, none⟩ = some (.agg ⟨ints (nestL y L B)⟩) ∧ loadV P H 129 ⟨1, 0 + 0, none⟩ = some (endF e) ∧ loadV P H 129 ⟨1, 0 + 1, none⟩ = some (endF (1 - e)) ∧ loadV P H 160 ⟨1, 0 + 2, none⟩ = some (withF e) ∧
      loadV P H 53 ⟨0, 0 + 1 + p * 2, none⟩ = some (.agg ⟨((ints L).drop (p * 2)).take 2⟩) ∧ loadV P H 3 ⟨0, 0 + 0, none⟩ = some (.int .i64 y) := by
    intro H q0 q1
    have c0 : CellsAt H 0 0 (ints (nestL y L B)) := cells_at (q0.trans hg0)
    have c1 : CellsAt H 1 0 [endF e, endF (1 - e), withF e] := cells_at (q1.trans hg1)
    refine ⟨load_all (q0.trans hg0) agg113 sz113 lens, loadV_scalar c1 agg129 rfl (endF_leaf _).2.1 (endF_leaf _).2.2.1, loadV_scalar c1 agg129 rfl (endF_leaf _).2.1 (endF_leaf _).2.2.1, loadV_scalar c1 agg160 rfl (withF_leaf _).2.1 (withF_leaf _).2.2.1, ?_, loadV_int c0 agg3 (by simp [ints, nestL])⟩
    have := loadV_agg (P := P) (k := 1 + p * 2) c0 agg53 sz53 (by rw [lens]; omega) (ints_noHole _)
    rw [nest_share hL hp, ← Nat.add_assoc] at this
    exact this
  obtain ⟨a0, a1, a2, a3, a4, a5⟩ := loads H1 rfl rfl
  have h1e : 1 - e < 2 := by omega
  rw [addrV_eq, bindO_some, a0, bindO_some, fa179_1, bindO_some, addrV_eq, bindO_some, a2, bindO_some, bindO_some, addrV_eq, bindO_some, a2, bindO_some, fa113_1, bindO_some, at111 0 (0 + 1) hp, bindO_some, addrV_eq, bindO_some, a4, bindO_some]
  obtain ⟨H2, s2, e2⟩ := effK_still (P := P) (ρ := Value × Hp × Nat) (ex := [.l 53 ⟨0, 0 + 1 + p * 2, none⟩, .l 129 ⟨1, 0 + 1, none⟩]) (H := H1) (n := 1 + 1) (v := .int .i64 (total L (1 - e)))
    (op := fun H n k => callFK P (cal (l + 2)) 98 [.agg ⟨ints (nestL y L B)⟩, endF (1 - e)] H n fun v H n => k v H n)
    ⟨fun q hq => .inl (by
      simp only [List.mem_cons, List.not_mem_nil, or_false] at hq
      rcases hq with rfl | rfl
      · exact ⟨_, _, rfl, .inl ⟨_, _, _, _, hg0⟩⟩
      · exact ⟨_, _, rfl, .inl ⟨_, _, _, _, hg1⟩⟩), fun t a id c e h1 h2 => by simp at h2⟩ (fun H k => sum_call l h1e hL hB hb H _ _)
  rw [e2, end_call (l + 1) h1e L (p * 2) (by omega)]
  obtain ⟨t0, t1⟩ := total_range hb (1 - e)
  obtain ⟨u0, u1⟩ := hb (p * 2 + (1 - e))
  have hI : I64 (total L (1 - e) - L.getD (p * 2 + (1 - e)) 0) := by unfold I64; omega
  have hI2 : I64 (y - (total L (1 - e) - L.getD (p * 2 + (1 - e)) 0)) := by unfold I64; omega
  obtain ⟨b0, b1, b2, b3, b4, b5⟩ := loads H2 (s2 0) (s2 1)
  rw [binK_some (bin_sub hI), fa179_2, bindO_some, addrV_eq, bindO_some, b3, bindO_some, fa179_0, bindO_some, addrV_eq, bindO_some, b1, bindO_some, bindO_some, at111 0 (0 + 1) hp, bindO_some, addrV_eq, bindO_some, b4, bindO_some, fa113_0, bindO_some, addrV_eq, bindO_some, b5, bindO_some,
    binK_some (bin_sub hI2), row44, bindO_some]
  unfold newK
  have hg0' : (H2.set (1 + 1) (some (.cells [.int .i64 (y - (total L (1 - e) - L.getD (p * 2 + (1 - e)) 0))] 3 false none))).get 0 = some (.cells (ints (nestL y L B)) 113 false none) := by rw [Tr.get_set, if_neg (by omega), s2]; exact hg0
  have hg1' : (H2.set (1 + 1) (some (.cells [.int .i64 (y - (total L (1 - e) - L.getD (p * 2 + (1 - e)) 0))] 3 false none))).get 1 = some (.cells [endF e, endF (1 - e), withF e] 179 false none) := by rw [Tr.get_set, if_neg (by omega), s2]; exact hg1
  have hrow : CellsAt (H2.set (1 + 1) (some (.cells [.int .i64 (y - (total L (1 - e) - L.getD (p * 2 + (1 - e)) 0))] 3 false none))) 2 0 [.int .i64 (y - (total L (1 - e) - L.getD (p * 2 + (1 - e)) 0))] := CellsAt.new
  obtain ⟨H3, s3, e3⟩ := effK_still (P := P) (ρ := Value × Hp × Nat) (ex := [.a (1 + 1) [.int .i64 (y - (total L (1 - e) - L.getD (p * 2 + (1 - e)) 0))] 3, .l 3 ⟨0, 0 + 0, none⟩, .l 160 ⟨1, 0 + 2, none⟩])
    (H := H2.set (1 + 1) (some (.cells [.int .i64 (y - (total L (1 - e) - L.getD (p * 2 + (1 - e)) 0))] 3 false none))) (n := 1 + 1 + 1) (v := .int .i64 (L.getD (p * 2 + e) 0))
    (op := fun H n k => callVK P (cal (l + 2)) (endF e) [.agg ⟨((ints L).drop (p * 2)).take 2⟩] H n fun v H n => k v H n)
    ⟨fun q hq => by
      simp only [List.mem_cons, List.not_mem_nil, or_false] at hq
      rcases hq with rfl | rfl | rfl
      · exact .inr ⟨_, _, _, rfl⟩
      · exact .inl ⟨_, _, rfl, .inl ⟨_, _, _, _, hg0'⟩⟩
      · exact .inl ⟨_, _, rfl, .inl ⟨_, _, _, _, hg1'⟩⟩, fun t a id c e h1 h2 => by
      simp only [List.mem_cons, List.not_mem_nil, or_false, Extra.a.injEq, reduceCtorEq, Extra.l.injEq, false_or] at h1 h2
      obtain ⟨rfl, _⟩ := h2
      rcases h1 with ⟨_, rfl⟩ | ⟨_, rfl⟩ <;> simp⟩ (fun H k => end_call (l + 1) he L (p * 2) (by omega) H _ _)
  have ee : ∀ k, effK P [.a (1 + 1) [.int .i64 (y - (total L (1 - e) - L.getD (p * 2 + (1 - e)) 0))] 3, .l 3 ⟨0, 0 + 0, none⟩, .l 160 ⟨1, 0 + 2, none⟩] (H2.set (1 + 1) (some (.cells [.int .i64 (y - (total L (1 - e) - L.getD (p * 2 + (1 - e)) 0))] 3 false none))) (1 + 1 + 1)
    (fun H n k => callVK P (cal (l + 2)) (endF e) [.agg ⟨((ints L).drop (p * 2)).take 2⟩] H n fun v H n => k v H n) k = k (.int .i64 (L.getD (p * 2 + e) 0)) H3 (1 + 1 + 1) := e3
  simp only [ee]
  have hx : CellsAt H3 (1 + 1) 0 [.int .i64 (y - (total L (1 - e) - L.getD (p * 2 + (1 - e)) 0))] := CellsAt.of_get hrow (s3 2)
  rw [with_call (l + 1) he _ _ hx]
  exact ⟨_, _, rfl⟩
theorem flat120 : flatF P 120 = true := by kernel_rfl
theorem call120 (l : Nat) (a b c : Value) (H : Hp) (n : Nat) : (cal (l + 1)).call 120 [a, b, c] H n = C120_0 (cal l) KK a b c H n :=
  (show (cal (l + 1)).call 120 [a, b, c] H n = quick ent120 (cal l) [a, b, c] H n by kernel_rfl).trans (quick_eq ..)
theorem extreme_call (l : Nat) {e : Nat} (he : e < 2) {y : Int} {L B : List Int} (hL : L.length = 16) (hB : B.length = 16) (hb : Bounded L) (hy : 0 ≤ y ∧ y ≤ 1000) {p : Nat} (hp : p < 8) (H : Hp) (n : Nat) (k : Value → Hp → Nat → Option ρ) :
    callFK P (cal (l + 3)) 120 [.agg ⟨ints (nestL y L B)⟩, .int .i64 p, endV e] H n k = k (.int .i64 (ext y L e p)) H n := by
  obtain ⟨H', n', h⟩ := extreme_spec l he (B := B) hL hB hb hy hp
  refine callFK_pure flat120 ?_ ((call120 ..).trans h) rfl
  simp only [endV, pureL, pureV, pureA, pure_ints, (endF_leaf _).2.2.2, (withF_leaf _).2.2.2, Bool.and_self]
end Go.Proofs.Ytgojjellogiglaa.spec
end
section
namespace Go.Proofs.Ytgojjellogiglaa.spec
open Go.Ev Go.Proofs.Ytgojjellogiglaa.nestFits Go.Proofs.Ytgojjellogiglaa.G
set_option maxRecDepth 100000
variable {ρ : Type}
noncomputable def zeros : List Int := List.replicate 16 0
theorem zeros_len : zeros.length = 16 := rfl
theorem zero113 : zeroT P 113 = some (.agg ⟨ints (nestL 0 zeros zeros)⟩) := by kernel_rfl
theorem build113 (y : Int) {L : List Int} (hL : L.length = 16) : buildP P 113 [(0, .int .i64 y), (1, .agg ⟨ints L⟩)] = some (.agg ⟨ints (nestL y L zeros)⟩) := by
  match L, hL with
  | [a0, a1, a2, a3, a4, a5, a6, a7, a8, a9, a10, a11, a12, a13, a14, a15], _ =>
    show buildP P 113 [(0, .int .i64 y), (1, .agg ⟨ints [a0, a1, a2, a3, a4, a5, a6, a7, a8, a9, a10, a11, a12, a13, a14, a15]⟩)] = some (.agg ⟨ints (nestL y [a0, a1, a2, a3, a4, a5, a6, a7, a8, a9, a10, a11, a12, a13, a14, a15] zeros)⟩)
    kernel_rfl
theorem res115 (H : Hp) (b : Nat) : resV P (Tr.set Tr.nil 4 (some (.pointer (some ⟨b, 0, none⟩)))) H results115 = (match loadV P H 113 ⟨b, 0, none⟩ with
  | none => none
  | some v => some [v]) := by kernel_rfl
theorem nest_set {y a b : Int} {L B : List Int} (hL : L.length = 16) (j : Nat) : ((nestL y L B).set (17 + j) a).set (17 + j + 1) b = nestL y L ((B.set j a).set (j + 1) b) := by
  unfold nestL
  rw [show 17 + j = (16 + j) + 1 by omega, List.set_cons_succ, List.set_cons_succ, List.set_append_right _ _ (by omega), List.set_append_right _ _ (by omega), hL]
  rw [show 16 + j - 16 = j by omega, show 16 + j + 1 - 16 = j + 1 by omega]
def BoundsTo (y : Int) (L B : List Int) (i : Nat) : Prop := B.length = 16 ∧ ∀ p, p < i → B.getD (p * 2) 0 = ext y L 0 p ∧ B.getD (p * 2 + 1) 0 = ext y L 1 p
theorem BoundsTo.next {y : Int} {L B : List Int} {i : Nat} (h : BoundsTo y L B i) (hi : i < 8) : BoundsTo y L ((B.set (i * 2) (ext y L 0 i)).set (i * 2 + 1) (ext y L 1 i)) (i + 1) := by
  obtain ⟨h1, h2⟩ := h
  refine ⟨by simp [h1], fun p hp => ?_⟩
  simp only [List.getD_eq_getElem?_getD, List.getElem?_set, List.length_set, h1]
  by_cases e : p = i
  · subst e
    rw [if_neg (show ¬ p * 2 + 1 = p * 2 by omega), if_pos rfl, if_pos (show p * 2 < 16 by omega), if_pos rfl, if_pos (show p * 2 + 1 < 16 by omega)]
    exact ⟨rfl, rfl⟩
  · obtain ⟨g1, g2⟩ := h2 p (by omega)
    rw [List.getD_eq_getElem?_getD] at g1 g2
    rw [if_neg (by omega), if_neg (by omega), if_neg (by omega), if_neg (by omega)]
    exact ⟨g1, g2⟩
theorem newNest_loop (l k : Nat) {y : Int} {L : List Int} (hL : L.length = 16) (hb : Bounded L) (hy : 0 ≤ y ∧ y ≤ 1000) (b4 b5 : Nat) (hne : b4 ≠ b5) : ∀ (m i : Nat) (B : List Int) (w : List Value) (H : Hp) (n : Nat), b4 < n → b5 < n →
    H.get b5 = some (.cells (ints (nestL y L B)) 113 false none) → H.get b4 = some (.cells w 113 false none) → w.length = 33 → BoundsTo y L B i → i ≤ 8 → 8 - i ≤ m →
    ∃ B' H' n', S115_1 (cal (l + 3)) k m (.pointer (some ⟨b4, 0, none⟩)) (.pointer (some ⟨b5, 0, none⟩)) (.int .i64 i) H n = some (.agg ⟨ints (nestL y L B')⟩, H', n') ∧ BoundsTo y L B' 8 := by
  have body : ∀ (b1 : Value → Value → Value → Hp → Nat → Res) (m i : Nat) (B : List Int) (w : List Value) (H : Hp) (n : Nat), b4 < n → b5 < n →
      H.get b5 = some (.cells (ints (nestL y L B)) 113 false none) → H.get b4 = some (.cells w 113 false none) → w.length = 33 → BoundsTo y L B i → i ≤ 8 →
      (∀ B2 H2 n2, b4 < n2 → b5 < n2 → H2.get b5 = some (.cells (ints (nestL y L B2)) 113 false none) → H2.get b4 = some (.cells w 113 false none) → BoundsTo y L B2 (i + 1) → i < 8 →
        ∃ B' H' n', b1 (.pointer (some ⟨b4, 0, none⟩)) (.pointer (some ⟨b5, 0, none⟩)) (.int .i64 ((i + 1 : Nat) : Int)) H2 n2 = some (.agg ⟨ints (nestL y L B')⟩, H', n') ∧ BoundsTo y L B' 8) →
      ∃ B' H' n', C115_1 (cal (l + 3)) k m b1 (.pointer (some ⟨b4, 0, none⟩)) (.pointer (some ⟨b5, 0, none⟩)) (.int .i64 i) H n = some (.agg ⟨ints (nestL y L B')⟩, H', n') ∧ BoundsTo y L B' 8 := by
    intro b1 m i B w H n hb4 hb5 hg5 hg4 hw hB hi ih
    have lens : (ints (nestL y L B)).length = 33 := by rw [ints_length, nest_cells hL hB.1]
    have hld := load_all hg5 agg113 sz113 lens
    unfold C115_1 B115_1
    rw [binK_some bin_lss, ifK_d]
    by_cases hlt : i < 8
    · rw [if_pos (by omega), addrV_eq, bindO_some, hld, bindO_some, bindO_some, hld, bindO_some, fa113_2, bindO_some]
      obtain ⟨H1, n1, e1, f1, g1⟩ := effK_grow (P := P) (ρ := Value × Hp × Nat) (ex := [.l 113 ⟨b5, 0, none⟩, .l 113 ⟨b5, 0, none⟩]) (H := H) (n := n) (v := endV 0)
        (op := fun H n k => callFK P (cal (l + 3)) 121 [] H n fun v H n => k v H n)
        (fun q hq => by simp only [List.mem_cons, List.not_mem_nil, or_false, or_self] at hq; subst hq; exact ⟨_, _, rfl, hb5, .inl ⟨_, _, _, _, hg5⟩⟩)
        (fun Hm => by obtain ⟨H', n', h1, h2, h3⟩ := lowEnd_call (ρ := Value × Hp × Nat) (l + 2) Hm n; exact ⟨H', n', fun k => h1 _, h2, h3⟩)
      rw [e1]
      have k5 : H1.get b5 = some (.cells (ints (nestL y L B)) 113 false none) := (g1 b5 hb5).trans hg5
      have k4 : H1.get b4 = some (.cells w 113 false none) := (g1 b4 hb4).trans hg4
      obtain ⟨H2, s2, e2⟩ := effK_still (P := P) (ρ := Value × Hp × Nat) (ex := [.l 113 ⟨b5, 0, none⟩]) (H := H1) (n := n1) (v := .int .i64 (ext y L 0 i))
        (op := fun H n k => callFK P (cal (l + 3)) 120 [.agg ⟨ints (nestL y L B)⟩, .int .i64 i, endV 0] H n fun v H n => k v H n)
        ⟨fun q hq => .inl (by simp only [List.mem_cons, List.not_mem_nil, or_false] at hq; subst hq; exact ⟨_, _, rfl, .inl ⟨_, _, _, _, k5⟩⟩), fun t a id c e h1 h2 => by simp at h2⟩
        (fun H k => extreme_call l (by omega) hL hB.1 hb hy hlt H _ _)
      rw [e2]
      have j5 : H2.get b5 = some (.cells (ints (nestL y L B)) 113 false none) := (s2 b5).trans k5
      have j4 : H2.get b4 = some (.cells w 113 false none) := (s2 b4).trans k4
      obtain ⟨H3, n3, e3, f3, g3⟩ := effK_grow (P := P) (ρ := Value × Hp × Nat) (ex := [.l 113 ⟨b5, 0, none⟩]) (H := H2) (n := n1) (v := endV 1)
        (op := fun H n k => callFK P (cal (l + 3)) 122 [] H n fun v H n => k v H n)
        (fun q hq => by simp only [List.mem_cons, List.not_mem_nil, or_false] at hq; subst hq; exact ⟨_, _, rfl, by show b5 < n1; omega, .inl ⟨_, _, _, _, j5⟩⟩)
        (fun Hm => by obtain ⟨H', n', h1, h2, h3⟩ := highEnd_call (ρ := Value × Hp × Nat) (l + 2) Hm n1; exact ⟨H', n', fun k => h1 _, h2, h3⟩)
      rw [e3, extreme_call l (by omega) hL hB.1 hb hy hlt, build53, bindO_some, at111 b5 (0 + 17) hlt, bindO_some, store53]
      have i5 : H3.get b5 = some (.cells (ints (nestL y L B)) 113 false none) := (g3 b5 (by omega)).trans j5
      have i4 : H3.get b4 = some (.cells w 113 false none) := (g3 b4 (by omega)).trans j4
      rw [show 0 + 17 + i * 2 = 17 + i * 2 by omega, store_two i5 (by rw [nest_cells hL hB.1]; omega), nest_set hL, bindO_some]
      have hI : I64 ((i : Int) + 1) := by unfold I64; omega
      have hcast : ((i : Int) + 1) = ((i + 1 : Nat) : Int) := by omega
      rw [binK_some (bin_add hI), hcast]
      exact ih _ _ n3 (by omega) (by omega) (by rw [Tr.get_set, if_pos rfl]) (by rw [Tr.get_set, if_neg hne]; exact i4) (hB.next hlt) hlt
    · rw [if_neg (by omega), addrV_eq, bindO_some, hld, bindO_some, storeP_agg sz113 lens, storeN_all hg4 (by rw [lens, hw]) (ints_leaf _), bindO_some, res115]
      have hgw : (H.set b4 (some (.cells (ints (nestL y L B)) 113 false none))).get b4 = some (.cells (ints (nestL y L B)) 113 false none) := by rw [Tr.get_set, if_pos rfl]
      rw [load_all hgw agg113 sz113 lens]
      have hi' : i = 8 := by omega
      subst hi'
      exact ⟨B, _, _, rfl, hB⟩
  intro m
  induction m with
  | zero =>
    intro i B w H n h1 h2 h3 h4 h5 h6 h7 h8
    exact body _ 0 i B w H n h1 h2 h3 h4 h5 h6 h7 (fun _ _ _ _ _ _ _ _ h => by omega)
  | succ m ih =>
    intro i B w H n h1 h2 h3 h4 h5 h6 h7 h8
    exact body _ (m + 1) i B w H n h1 h2 h3 h4 h5 h6 h7 (fun B2 H2 n2 q1 q2 q3 q4 q5 q6 => ih (i + 1) B2 w H2 n2 q1 q2 q3 q4 h5 q5 (by omega) (by omega))
theorem newNest_spec (l : Nat) {y : Int} {L : List Int} (hL : L.length = 16) (hb : Bounded L) (hy : 0 ≤ y ∧ y ≤ 1000) :
    ∃ B H' n', C115_0 (cal (l + 3)) KK (.int .i64 y) (.agg ⟨ints L⟩) .nil 0 = some (.agg ⟨ints (nestL y L B)⟩, H', n') ∧ BoundsTo y L B 8 := by
  unfold C115_0 B115_0
  rw [boxK_eq, allocK_eq zero113]
  have hg0 : (((Tr.nil : Hp).set 0 (some (.cells (ints L) 111 false none))).set (0 + 1) (some (.cells (ints (nestL 0 zeros zeros)) 113 false none))).get 0 = some (.cells (ints L) 111 false none) := by rw [Tr.get_set, if_neg (by omega), Tr.get_set, if_pos rfl]
  have hg1 : (((Tr.nil : Hp).set 0 (some (.cells (ints L) 111 false none))).set (0 + 1) (some (.cells (ints (nestL 0 zeros zeros)) 113 false none))).get 1 = some (.cells (ints (nestL 0 zeros zeros)) 113 false none) := by rw [Tr.get_set, if_pos rfl]
  simp only [cellsV, ptr]
  generalize ((Tr.nil : Hp).set 0 (some (.cells (ints L) 111 false none))).set (0 + 1) (some (.cells (ints (nestL 0 zeros zeros)) 113 false none)) = H1 at hg0 hg1 ⊢
  have hl := load_all hg0 agg111 sz111 (by rw [ints_length, hL])
  rw [addrV_eq, bindO_some, hl, bindO_some, build113 y hL, bindO_some]
  have lens : (ints (nestL y L zeros)).length = 33 := by rw [ints_length, nest_cells hL zeros_len]
  obtain ⟨H2, k1, k2, k3⟩ := spill (P := P) (ρ := Value × Hp × Nat) (H := H1) (n := 0 + 1 + 1) (L := ints (nestL y L zeros)) zero113 (by show (ints (nestL 0 zeros zeros)).length = 33; rw [ints_length, nest_cells zeros_len zeros_len]) sz113 lens (ints_leaf _)
  rw [k3]
  exact newNest_loop l KK hL hb hy 1 2 (by omega) KK 0 zeros (ints (nestL 0 zeros zeros)) H2 3 (by omega) (by omega) k2 ((k1 1 (by omega)).trans hg1) (by rw [ints_length, nest_cells zeros_len zeros_len]) ⟨rfl, fun p hp => by omega⟩ (by omega) (by unfold KK; omega)
theorem flat115 : flatF P 115 = true := by kernel_rfl
theorem call115 (l : Nat) (a b : Value) (H : Hp) (n : Nat) : (cal (l + 1)).call 115 [a, b] H n = C115_0 (cal l) KK a b H n :=
  (show (cal (l + 1)).call 115 [a, b] H n = quick ent115 (cal l) [a, b] H n by kernel_rfl).trans (quick_eq ..)
theorem newNest_call (l : Nat) {y : Int} {L : List Int} (hL : L.length = 16) (hb : Bounded L) (hy : 0 ≤ y ∧ y ≤ 1000) : ∃ B, BoundsTo y L B 8 ∧ ∀ (H : Hp) (n : Nat) (k : Value → Hp → Nat → Option ρ),
    callFK P (cal (l + 4)) 115 [.int .i64 y, .agg ⟨ints L⟩] H n k = k (.agg ⟨ints (nestL y L B)⟩) H n := by
  obtain ⟨B, H', n', h, hB⟩ := newNest_spec l hL hb hy
  refine ⟨B, hB, fun H n k => callFK_pure flat115 ?_ ((call115 ..).trans h) ?_⟩
  · simp only [pureL, pureV, pureA, pure_ints, Bool.and_self]
  · simp only [pureV, pureA, pure_ints]
end Go.Proofs.Ytgojjellogiglaa.spec
end
section
namespace Go.Proofs.Ytgojjellogiglaa.spec
open Go Go.Ev Go.Proofs.Ytgojjellogiglaa.nestFits Go.Proofs.Ytgojjellogiglaa.G
set_option maxRecDepth 100000
variable {ρ : Type}
noncomputable def code97 : Code := codeOf 97
noncomputable def results97 : List ResultVar := resOf 97
noncomputable def asgOf : Code → Code
  | .rangeFunc _ _ a _ => a
  | _ => .skip
noncomputable def bodOf : Code → Code
  | .rangeFunc _ _ _ b => b
  | _ => .skip
noncomputable def asg97 : Code := asgOf (cL (cR (cL (cR (cR code97)))))
noncomputable def bod97 : Code := bodOf (cL (cR (cL (cR (cR code97)))))
noncomputable def K97 (c : Cal) (k : Nat) : KC (Value × Hp × Nat) := codeE P c (codeF P c k) none 97 (cR (cR (cR code97))) .leaf (doneK P results97) X0 (doneK P results97)
noncomputable def T97 (v0 v1 v2 v5 v6 v7 v11 : Value) : Tm := (((((((((Tr.nil : Tm).set 0 (some v0)).set 1 (some v1)).set 2 (some v2)).set 5 (some v5)).set 6 (some v6)).set 7 (some v7)).set 9 (some v0)).set 10 (some v1)).set 11 (some v11)
theorem pre97 (c : Cal) (k : Nat) (v0 v1 v2 : Value) (H : Hp) (n : Nat) : bodyE P c A (k + 1) 97 [v0, v1, v2] H n =
    (boxK 86 v2 H n fun v5 H n => allocK P 113 H n fun v6 H n => allocK P 111 H n fun v7 H n => callFK P c 113 [v0, v1] H n fun v11 H n =>
      rangeK P c none 97 v11 #[12] asg97 bod97 (K97 c k) (upX 0 (K97 c k) X0) (doneK P results97) (T97 v0 v1 v2 v5 v6 v7 v11) H n []) := by
  rw [body_eq (fn := Go.Proofs.Try.f97) (c := code97) (rs := results97) (by kernel_rfl) (by kernel_rfl) (by kernel_rfl) (by kernel_rfl)]
  kernel_rfl
theorem post97 (c : Cal) (k : Nat) (v0 v1 v2 v5 v6 v7 v11 : Value) (H : Hp) (n : Nat) (D : List Nat) : K97 c k (T97 v0 v1 v2 v5 v6 v7 v11) H n D =
    (bindO (fieldAddrV P 86 v5 1) fun v18 => bindO (addrV v18) fun a => bindO (loadV P H 53 a) fun v19 => bindO (indexAddrV P 111 v7 v1) fun v20 => bindO (storeP P 53 v20 v19 H) fun H =>
      bindO (fieldAddrV P 86 v5 0) fun v21 => bindO (addrV v21) fun a => bindO (loadV P H 3 a) fun v22 => bindO (addrV v7) fun a => bindO (loadV P H 111 a) fun v23 => callFK P c 115 [v22, v23] H n fun v24 H n =>
      bindO (storeP P 113 v6 v24 H) fun H => getK (takeD H D) fun H => bindO (resV P ((Tr.nil : Tm).set 6 (some v6)) H results97) fun vs => some (oneV vs, H, n)) := by
  kernel_rfl
theorem call97 (l : Nat) (a b c : Value) (H : Hp) (n : Nat) : (cal (l + 1)).call 97 [a, b, c] H n = bodyE P (cal l) A (KK + 1) 97 [a, b, c] H n := by kernel_rfl
theorem asg97_eq (l lp : Nat) (v0 v1 v2 v5 v6 v7 v11 p : Value) (H : Hp) (n : Nat) :
    (cal (l + 1)).body lp 97 asg97 { T := (T97 v0 v1 v2 v5 v6 v7 v11).set 12 (some p), H, n, D := [] } = some (.norm, { T := ((T97 v0 v1 v2 v5 v6 v7 v11).set 12 (some p)).set 8 (some p), H, n, D := [] }) := by kernel_rfl
theorem bod97_eq (l lp : Nat) (v0 v1 v2 v5 v6 v7 v11 p : Value) (H : Hp) (n : Nat) :
    (cal (l + 1)).body lp 97 bod97 { T := ((T97 v0 v1 v2 v5 v6 v7 v11).set 12 (some p)).set 8 (some p), H, n, D := [] } =
      (bindO (fieldAddrV P 86 v5 2) fun v14 => bindO (addrV v14) fun a => bindO (loadV P H 53 a) fun v15 => bindO (indexAddrV P 111 v7 p) fun v16 => bindO (storeP P 53 v16 v15 H) fun H' =>
        some (.norm, { T := ((((((T97 v0 v1 v2 v5 v6 v7 v11).set 12 (some p)).set 8 (some p)).set 13 (some p)).set 14 (some v14)).set 15 (some v15)).set 16 (some v16), H := H', n, D := [] })) := by kernel_rfl
theorem res97 (H : Hp) (b : Nat) : resV P ((Tr.nil : Tm).set 6 (some (.pointer (some ⟨b, 0, none⟩)))) H results97 = (match loadV P H 113 ⟨b, 0, none⟩ with
  | none => none
  | some v => some [v]) := by kernel_rfl
theorem ntm97 : ntm P 97 = 25 := by kernel_rfl
end Go.Proofs.Ytgojjellogiglaa.spec
end
section
namespace Go.Proofs.Ytgojjellogiglaa.spec
open Go Go.Ev Go.Proofs.Ytgojjellogiglaa.nestFits Go.Proofs.Ytgojjellogiglaa.G
set_option maxRecDepth 100000
variable {ρ : Type}
theorem agg105 : isAggT P 105 = some false := by kernel_rfl
theorem agg4 : isAggT P 4 = some false := by kernel_rfl
theorem und109 : P.underlying 109 = some (.array 8 108) := by kernel_rfl
theorem und108 : P.underlying 108 = some (.array 8 4) := by kernel_rfl
theorem sz108 : szT P 108 = some 8 := by kernel_rfl
theorem sz4 : szT P 4 = some 1 := by kernel_rfl
theorem fa117_0 (b o : Nat) : fieldAddrV P 117 (.pointer (some ⟨b, o, none⟩)) 0 = some (.pointer (some ⟨b, o + 0, none⟩)) := by kernel_rfl
theorem fa117_1 (b o : Nat) : fieldAddrV P 117 (.pointer (some ⟨b, o, none⟩)) 1 = some (.pointer (some ⟨b, o + 3, none⟩)) := by kernel_rfl
theorem fa117_2 (b o : Nat) : fieldAddrV P 117 (.pointer (some ⟨b, o, none⟩)) 2 = some (.pointer (some ⟨b, o + 67, none⟩)) := by kernel_rfl
theorem idx_lt {i n : Nat} (hi : i < n) : idxIn (.int .i64 (i : Int)) n = some i := by
  show idxIn (.int .i64 (.ofNat i)) n = some i
  simp [idxIn, hi]
theorem at109 (b o : Nat) {i : Nat} (hi : i < 8) : indexAddrV P 109 (.pointer (some ⟨b, o, none⟩)) (.int .i64 i) = some (.pointer (some ⟨b, o + i * 8, none⟩)) := by
  unfold indexAddrV
  simp only [und109, idx_lt hi, sz108]
  rfl
theorem at108 (b o : Nat) {i : Nat} (hi : i < 8) : indexAddrV P 108 (.pointer (some ⟨b, o, none⟩)) (.int .i64 i) = some (.pointer (some ⟨b, o + i * 1, none⟩)) := by
  unfold indexAddrV
  simp only [und108, idx_lt hi, sz4]
  rfl
theorem nil_ptr (a : Addr) : nilV (.pointer (some a)) = some (.pointer (some a)) := rfl
theorem guardD_tt {op : KD ρ → Option ρ} {ex : Extra} {H : Hp} {n : Nat} {k : KD ρ} : guardD (.bool true) true op ex H n k = op k := rfl
theorem guardD_ft {op : KD ρ → Option ρ} {ex : Extra} {H : Hp} {n : Nat} {k : KD ρ} : guardD (.bool false) true op ex H n k = k undef ex H n := rfl
structure Reads (H : Hp) (pb sb g : Nat) (x : Value) (pad : Nat) (near : Nat → Bool) : Prop where
  pad_ : loadV P H 3 ⟨pb, 0, none⟩ = some (.int .i64 pad)
  site : loadV P H 105 ⟨sb, 0, none⟩ = some (.pointer (some ⟨g, 0, none⟩))
  pads : loadV P H 31 ⟨g, 0 + 0 + 0, none⟩ = some x
  near_ : ∀ b, b < 8 → loadV P H 4 ⟨g, 0 + 3 + pad * 8 + b * 1, none⟩ = some (.bool (near b))
theorem iter_loop (c : Cal) (k : Nat) (yv : Value) (pb sb g pad np : Nat) (x : Value) (near : Nat → Bool) (hpad : pad < 8) (hnp : np ≤ 8) (Inv : List Nat → Hp → Nat → Prop) (hR : ∀ ps H n, Inv ps H n → Reads H pb sb g x pad near)
    (hY : ∀ (ps : List Nat) (p : Nat) (H : Hp) (n : Nat), Inv ps H n → p < 8 → ∃ H' n', (∀ k : Value → Hp → Nat → Res, callVK P c yv [.int .i64 p] H n k = k (.bool true) H' n') ∧ Inv (ps ++ [p]) H' n') (ps0 : List Nat) : ∀ (m i : Nat) (H : Hp) (n : Nat),
    Inv (ps0 ++ (List.range i).filter near) H n → i ≤ np → np - i ≤ m →
    ∃ H' n', S119_1 c k m yv (.pointer (some ⟨pb, 0, none⟩)) (.pointer (some ⟨sb, 0, none⟩)) (.int .i64 np) (.int .i64 i) H n = some (.tuple ⟨[]⟩, H', n') ∧ Inv (ps0 ++ (List.range np).filter near) H' n' := by
  have body : ∀ (b1 : Value → Value → Value → Value → Value → Hp → Nat → Res) (m i : Nat) (H : Hp) (n : Nat), Inv (ps0 ++ (List.range i).filter near) H n → i ≤ np →
      (∀ H' n', Inv (ps0 ++ (List.range (i + 1)).filter near) H' n' → i < np → ∃ H2 n2, b1 yv (.pointer (some ⟨pb, 0, none⟩)) (.pointer (some ⟨sb, 0, none⟩)) (.int .i64 np) (.int .i64 ((i + 1 : Nat) : Int)) H' n' = some (.tuple ⟨[]⟩, H2, n2) ∧ Inv (ps0 ++ (List.range np).filter near) H2 n2) →
      ∃ H' n', C119_1 c k m b1 yv (.pointer (some ⟨pb, 0, none⟩)) (.pointer (some ⟨sb, 0, none⟩)) (.int .i64 np) (.int .i64 i) H n = some (.tuple ⟨[]⟩, H', n') ∧ Inv (ps0 ++ (List.range np).filter near) H' n' := by
    intro b1 m i H n hI hi ih
    unfold C119_1 B119_1
    rw [binK_some bin_lss, ifK_d]
    by_cases hlt : i < np
    · obtain ⟨r1, r2, r3, r4⟩ := hR _ _ _ hI
      have hi8 : i < 8 := by omega
      have hb := r4 i hi8
      have hI1 : I64 ((i : Int) + 1) := by unfold I64; omega
      have hcast : ((i : Int) + 1) = ((i + 1 : Nat) : Int) := by omega
      rw [if_pos (by omega), addrV_eq, bindO_some, r2, bindO_some, addrV_eq, bindO_some, r1, bindO_some, nil_ptr, bindO_some, fa117_1, bindO_some, at109 _ _ hpad, bindO_some, at108 _ _ hi8, bindO_some, addrV_eq, bindO_some, hb, bindO_some]
      cases hn : near i with
      | true =>
        obtain ⟨H1, n1, e1, e2⟩ := hY _ i _ _ hI hi8
        simp only [guardD_tt, e1, not_t, bindO_some, pickV_t, ifK_f, binK_some (bin_add hI1), hcast]
        refine ih H1 n1 ?_ hlt
        rw [List.range_succ, List.filter_append, ← List.append_assoc]
        simp only [List.filter_cons, hn, if_true, List.filter_nil]
        exact e2
      | false =>
        simp only [guardD_ft, pickV_f, bindO_some, ifK_f, binK_some (bin_add hI1), hcast]
        refine ih H n ?_ hlt
        rw [List.range_succ, List.filter_append]
        simp only [List.filter_cons, hn, List.filter_nil, Bool.false_eq_true, if_false, List.append_nil]
        exact hI
    · rw [if_neg (by omega)]
      have hi' : i = np := by omega
      subst hi'
      exact ⟨H, n, rfl, hI⟩
  intro m
  induction m with
  | zero =>
    intro i H n h1 h2 h3
    exact body _ 0 i H n h1 h2 (fun _ _ _ h => by omega)
  | succ m ih =>
    intro i H n h1 h2 h3
    exact body _ (m + 1) i H n h1 h2 (fun H' n' q1 q2 => ih (i + 1) H' n' q1 (by omega) (by omega))
theorem iter_spec (c : Cal) (yv : Value) (pb sb g pad np : Nat) (x : Value) (near : Nat → Bool) (hpad : pad < 8) (hnp : np ≤ 8) (hx : lenV P 31 x = some (.int .i64 np)) (Inv : List Nat → Hp → Nat → Prop) (hR : ∀ ps H n, Inv ps H n → Reads H pb sb g x pad near)
    (hY : ∀ (ps : List Nat) (p : Nat) (H : Hp) (n : Nat), Inv ps H n → p < 8 → ∃ H' n', (∀ k : Value → Hp → Nat → Res, callVK P c yv [.int .i64 p] H n k = k (.bool true) H' n') ∧ Inv (ps ++ [p]) H' n') {H : Hp} {n : Nat} (h0 : Inv [] H n) :
    ∃ H' n', C119_0 c KK yv (.pointer (some ⟨pb, 0, none⟩)) (.pointer (some ⟨sb, 0, none⟩)) H n = some (.tuple ⟨[]⟩, H', n') ∧ Inv (pad :: (List.range np).filter near) H' n' := by
  unfold C119_0 B119_0
  generalize hS : S119_1 c KK KK = S
  obtain ⟨r1, _, _, _⟩ := hR _ _ _ h0
  obtain ⟨H1, n1, e1, e2⟩ := hY _ pad _ _ h0 hpad
  obtain ⟨_, r2, r3, _⟩ := hR _ _ _ e2
  rw [addrV_eq, bindO_some, r1, bindO_some, e1, not_t, bindO_some, ifK_f, addrV_eq, bindO_some, r2, bindO_some, nil_ptr, bindO_some, fa117_0, bindO_some, fa35_0, bindO_some, addrV_eq, bindO_some, r3, bindO_some, hx, bindO_some, ← hS]
  exact iter_loop c KK yv pb sb g pad np x near hpad hnp Inv hR hY [pad] KK 0 H1 n1 e2 (by omega) (by unfold KK; omega)
def fillS (lo hi : Int) (ps : List Nat) : List Int := ps.foldl (fun X p => (X.set (p * 2) lo).set (p * 2 + 1) hi) (List.replicate 16 0)
theorem fillS_snoc (lo hi : Int) (ps : List Nat) (p : Nat) : fillS lo hi (ps ++ [p]) = ((fillS lo hi ps).set (p * 2) lo).set (p * 2 + 1) hi := by
  unfold fillS; rw [List.foldl_append]; rfl
theorem set_two_len (X : List Int) (j : Nat) (a b : Int) : ((X.set j a).set (j + 1) b).length = X.length := by simp
theorem fillS_len (lo hi : Int) (ps : List Nat) : (fillS lo hi ps).length = 16 := by
  have : ∀ (ps : List Nat) (X : List Int), (ps.foldl (fun X p => (X.set (p * 2) lo).set (p * 2 + 1) hi) X).length = X.length := by
    intro ps
    induction ps with
    | nil => intro X; rfl
    | cons p ps ih => intro X; rw [List.foldl_cons, ih, set_two_len]
  exact this ps _
theorem set_two_get {X : List Int} (hX : X.length = 16) {p q : Nat} (hp : p < 8) (a b : Int) : (((X.set (p * 2) a).set (p * 2 + 1) b).getD (q * 2) 0 = if q = p then a else X.getD (q * 2) 0) ∧
    (((X.set (p * 2) a).set (p * 2 + 1) b).getD (q * 2 + 1) 0 = if q = p then b else X.getD (q * 2 + 1) 0) := by
  simp only [List.getD_eq_getElem?_getD, List.getElem?_set, List.length_set, hX]
  by_cases e : q = p
  · subst e
    rw [if_neg (show ¬ q * 2 + 1 = q * 2 by omega), if_pos rfl, if_pos (show q * 2 < 16 by omega), if_pos rfl, if_pos rfl, if_pos (show q * 2 + 1 < 16 by omega), if_pos rfl]
    exact ⟨rfl, rfl⟩
  · rw [if_neg (show ¬ p * 2 + 1 = q * 2 by omega), if_neg (show ¬ p * 2 = q * 2 by omega), if_neg e, if_neg (show ¬ p * 2 + 1 = q * 2 + 1 by omega), if_neg (show ¬ p * 2 = q * 2 + 1 by omega), if_neg e]
    exact ⟨rfl, rfl⟩
theorem fillS_get (lo hi : Int) (q : Nat) (ps : List Nat) (h : ∀ p ∈ ps, p < 8) : (fillS lo hi ps).getD (q * 2) 0 = (if q ∈ ps then lo else 0) ∧ (fillS lo hi ps).getD (q * 2 + 1) 0 = (if q ∈ ps then hi else 0) := by
  have key : ∀ (ps : List Nat) (X : List Int), X.length = 16 → (∀ p ∈ ps, p < 8) → (ps.foldl (fun X p => (X.set (p * 2) lo).set (p * 2 + 1) hi) X).getD (q * 2) 0 = (if q ∈ ps then lo else X.getD (q * 2) 0) ∧
      (ps.foldl (fun X p => (X.set (p * 2) lo).set (p * 2 + 1) hi) X).getD (q * 2 + 1) 0 = (if q ∈ ps then hi else X.getD (q * 2 + 1) 0) := by
    intro ps
    induction ps with
    | nil => intro X _ _; exact ⟨rfl, rfl⟩
    | cons p ps ih =>
      intro X hX hp
      obtain ⟨h1, h2⟩ := ih ((X.set (p * 2) lo).set (p * 2 + 1) hi) (by rw [set_two_len]; exact hX) (fun p' hp' => hp p' (List.mem_cons_of_mem _ hp'))
      obtain ⟨g1, g2⟩ := set_two_get (q := q) hX (hp p List.mem_cons_self) lo hi
      rw [List.foldl_cons, h1, h2, g1, g2]
      by_cases e : q = p <;> by_cases e2 : q ∈ ps <;> simp [e, e2]
  have z : ∀ k : Nat, (List.replicate 16 (0 : Int)).getD k 0 = 0 := by
    intro k
    rw [List.getD_eq_getElem?_getD, List.getElem?_replicate]
    split <;> rfl
  have := key ps (List.replicate 16 0) rfl h
  rw [z, z] at this
  exact this
end Go.Proofs.Ytgojjellogiglaa.spec
end
section
namespace Go.Proofs.Ytgojjellogiglaa.spec
open Go Go.Ev Go.Proofs.Ytgojjellogiglaa.nestFits Go.Proofs.Ytgojjellogiglaa.G
set_option maxRecDepth 100000
variable {ρ : Type}
theorem loadK53 {H : Hp} {b : Nat} {y a1 a2 a3 a4 : Int} (h : H.get b = some (.cells [.int .i64 y, .int .i64 a1, .int .i64 a2, .int .i64 a3, .int .i64 a4] 86 false none)) :
    loadV P H 53 ⟨b, 0 + 1, none⟩ = some (.agg ⟨[.int .i64 a1, .int .i64 a2]⟩) ∧ loadV P H 53 ⟨b, 0 + 3, none⟩ = some (.agg ⟨[.int .i64 a3, .int .i64 a4]⟩) ∧ loadV P H 3 ⟨b, 0 + 0, none⟩ = some (.int .i64 y) :=
  ⟨loadV_agg (k := 1) (cells_at h) agg53 sz53 (by simp) rfl, loadV_agg (k := 3) (cells_at h) agg53 sz53 (by simp) rfl, loadV_int (cells_at h) agg3 rfl⟩
theorem yield97 (L : Nat) {H : Hp} {n lb b5 b7 d : Nat} {v0 v1 v2 v6 v11 : Value} {y a1 a2 a3 a4 : Int} {X : List Int} (hl : H.get lb = some (.loop .ready none 97 (T97 v0 v1 v2 (.pointer (some ⟨b5, 0, none⟩)) v6 (.pointer (some ⟨b7, 0, none⟩)) v11) (ntm P 97) #[12] asg97 bod97 d))
    (h5 : H.get b5 = some (.cells [.int .i64 y, .int .i64 a1, .int .i64 a2, .int .i64 a3, .int .i64 a4] 86 false none)) (h7 : H.get b7 = some (.cells (ints X) 111 false none)) (hX : X.length = 16) (n5 : b5 ≠ lb) (n7 : b7 ≠ lb) {p : Nat} (hp : p < 8) :
    ∃ H', (∀ k : Value → Hp → Nat → Option ρ, callVK P (cal (L + 1)) (.func (.yield lb) #[] #[]) [.int .i64 p] H n k = k (.bool true) H' n) ∧ H'.get lb = H.get lb ∧
      H'.get b7 = some (.cells (ints ((X.set (p * 2) a3).set (p * 2 + 1) a4)) 111 false none) ∧ ∀ b, b ≠ lb → b ≠ b7 → H'.get b = H.get b := by
  have hpar : paramsT (T97 v0 v1 v2 (.pointer (some ⟨b5, 0, none⟩)) v6 (.pointer (some ⟨b7, 0, none⟩)) v11) (ntm P 97) (#[12] : Array Tmp).toList [.int .i64 p] = some ((T97 v0 v1 v2 (.pointer (some ⟨b5, 0, none⟩)) v6 (.pointer (some ⟨b7, 0, none⟩)) v11).set 12 (some (.int .i64 p))) := by
    rw [ntm97]; rfl
  generalize hT : T97 v0 v1 v2 (.pointer (some ⟨b5, 0, none⟩)) v6 (.pointer (some ⟨b7, 0, none⟩)) v11 = T at hl hpar
  have hrdy : isReady H lb = true := by unfold isReady; rw [hl]
  have hpen : pendingOf H lb = none := by unfold pendingOf; rw [hl]
  have hbusy : setLoop H lb .busy none = some (H.set lb (some (.loop .busy none 97 T (ntm P 97) #[12] asg97 bod97 d))) := by unfold setLoop; rw [hl]
  have g5 : (H.set lb (some (.loop .busy none 97 T (ntm P 97) #[12] asg97 bod97 d))).get b5 = some (.cells [.int .i64 y, .int .i64 a1, .int .i64 a2, .int .i64 a3, .int .i64 a4] 86 false none) := by rw [Tr.get_set, if_neg n5]; exact h5
  have g7 : (H.set lb (some (.loop .busy none 97 T (ntm P 97) #[12] asg97 bod97 d))).get b7 = some (.cells (ints X) 111 false none) := by rw [Tr.get_set, if_neg n7]; exact h7
  have gl : (H.set lb (some (.loop .busy none 97 T (ntm P 97) #[12] asg97 bod97 d))).get lb = some (.loop .busy none 97 T (ntm P 97) #[12] asg97 bod97 d) := by rw [Tr.get_set, if_pos rfl]
  have ho : ∀ b, b ≠ lb → (H.set lb (some (.loop .busy none 97 T (ntm P 97) #[12] asg97 bod97 d))).get b = H.get b := fun b hb => by rw [Tr.get_set, if_neg hb]
  generalize H.set lb (some (.loop .busy none 97 T (ntm P 97) #[12] asg97 bod97 d)) = H1 at hbusy g5 g7 gl ho
  have hst := store_two (a := a3) (b := a4) (o := p * 2) g7 (by omega)
  have q7 : (H1.set b7 (some (.cells (ints ((X.set (p * 2) a3).set (p * 2 + 1) a4)) 111 false none))).get b7 = some (.cells (ints ((X.set (p * 2) a3).set (p * 2 + 1) a4)) 111 false none) := by rw [Tr.get_set, if_pos rfl]
  have ql : (H1.set b7 (some (.cells (ints ((X.set (p * 2) a3).set (p * 2 + 1) a4)) 111 false none))).get lb = some (.loop .busy none 97 T (ntm P 97) #[12] asg97 bod97 d) := by rw [Tr.get_set, if_neg (Ne.symm n7)]; exact gl
  have qo : ∀ b, b ≠ lb → b ≠ b7 → (H1.set b7 (some (.cells (ints ((X.set (p * 2) a3).set (p * 2 + 1) a4)) 111 false none))).get b = H.get b := fun b hb hb7 => by rw [Tr.get_set, if_neg hb7]; exact ho b hb
  have hbody : ∃ T', (cal (L + 1)).body lb 97 bod97 { T := (T.set 12 (some (.int .i64 p))).set 8 (some (.int .i64 p)), H := H1, n, D := [] } = some (.norm, { T := T', H := H1.set b7 (some (.cells (ints ((X.set (p * 2) a3).set (p * 2 + 1) a4)) 111 false none)), n, D := [] }) := by
    rw [← hT, bod97_eq, fa86_2, bindO_some, addrV_eq, bindO_some, (loadK53 g5).2.1, bindO_some, at111 b7 0 hp, bindO_some, store53, Nat.zero_add, hst, bindO_some]
    exact ⟨_, rfl⟩
  generalize H1.set b7 (some (.cells (ints ((X.set (p * 2) a3).set (p * 2 + 1) a4)) 111 false none)) = H2 at q7 ql qo hbody
  obtain ⟨T', hbody⟩ := hbody
  have hasg : (cal (L + 1)).body lb 97 asg97 { T := T.set 12 (some (.int .i64 p)), H, n, D := [] } = some (.norm, { T := (T.set 12 (some (.int .i64 p))).set 8 (some (.int .i64 p)), H, n, D := [] }) := by
    rw [← hT]; exact asg97_eq ..
  have hend : setLoop H2 lb .ready none = some (H2.set lb (some (.loop .ready none 97 T (ntm P 97) #[12] asg97 bod97 d))) := by unfold setLoop; rw [ql]
  refine ⟨H2.set lb (some (.loop .ready none 97 T (ntm P 97) #[12] asg97 bod97 d)), fun k => ?_, by rw [Tr.get_set, if_pos rfl, hl], by rw [Tr.get_set, if_neg n7]; exact q7, fun b hb hb7 => by rw [Tr.get_set, if_neg hb]; exact qo b hb hb7⟩
  show stK (yieldF (fun | some l => (cal (L + 1)).body l | none => fun _ _ _ => none) P lb [.int .i64 p] (bare H n)) k = _
  have hy : yieldF (fun | some l => (cal (L + 1)).body l | none => fun _ _ _ => none) P lb [.int .i64 p] (bare H n) = some (.bool true, { bare H n with H := H2.set lb (some (.loop .ready none 97 T (ntm P 97) #[12] asg97 bod97 d)) }) := by
    unfold yieldF
    have hb : Nat.beq (ntm P 97) (ntm P 97) = true := Nat.beq_refl _
    have hx : exCode .norm = some none := rfl
    simp only [bare, hl, hb, hpar, hasg, hrdy, hpen, hbusy, hbody, hx, Option.isNone_none, if_true, hend]
  rw [hy]
  rfl
end Go.Proofs.Ytgojjellogiglaa.spec
end
section
namespace Go.Proofs.Ytgojjellogiglaa.spec
open Go Go.Ev Go.Proofs.Ytgojjellogiglaa.nestFits Go.Proofs.Ytgojjellogiglaa.G
set_option maxRecDepth 100000
variable {ρ : Type}
theorem zero111 : zeroT P 111 = some (.agg ⟨ints (List.replicate 16 0)⟩) := by kernel_rfl
theorem flat113 : flatF P 113 = false := by kernel_rfl
theorem call113 (l : Nat) (a b : Value) (H : Hp) (n : Nat) : (cal (l + 1)).call 113 [a, b] H n = C113_0 (cal l) KK a b H n := by kernel_rfl
theorem call119 (l : Nat) (a b c : Value) (H : Hp) (n : Nat) : (cal (l + 1)).call 119 [a, b, c] H n = C119_0 (cal l) KK a b c H n := by kernel_rfl
theorem reached_call (l : Nat) (g pad : Nat) (H : Hp) (n : Nat) (k : Value → Hp → Nat → Option ρ) : callFK P (cal (l + 1)) 113 [.pointer (some ⟨g, 0, none⟩), .int .i64 pad] H n k =
    k (.func (.func 119) ⟨[]⟩ ⟨[.pointer (some ⟨n + 1, 0, none⟩), .pointer (some ⟨n, 0, none⟩)]⟩) ((H.set n (some (.cells [.pointer (some ⟨g, 0, none⟩)] 105 false none))).set (n + 1) (some (.cells [.int .i64 pad] 3 false none))) (n + 2) := by
  unfold callFK
  rw [flat113, call113]
  rfl
theorem range97 (c : Cal) (a b : Value) (K : KC (Value × Hp × Nat)) (X : XC (Value × Hp × Nat)) (Kr : KC (Value × Hp × Nat)) (T : Tm) (H : Hp) (n : Nat) :
    rangeK P c none 97 (.func (.func 119) ⟨[]⟩ ⟨[a, b]⟩) #[12] asg97 bod97 K X Kr T H n [] =
      callFK P c 119 [.func (.yield (n + 1)) #[] #[], a, b] ((H.set n (some .deferred)).set (n + 1) (some (.loop .ready none 97 T (ntm P 97) #[12] asg97 bod97 n))) (n + 2) fun _ H n' => fin K X Kr (rangeOut (n + 1) { T := T, H, n := n', D := [n] }) := rfl
def sharesL (a1 a2 a3 a4 : Int) (near : Nat → Bool) (np pad : Nat) : List Int := ((fillS a3 a4 (pad :: (List.range np).filter near)).set (pad * 2) a1).set (pad * 2 + 1) a2
theorem sharesL_len (a1 a2 a3 a4 : Int) (near : Nat → Bool) (np pad : Nat) : (sharesL a1 a2 a3 a4 near np pad).length = 16 := by
  unfold sharesL; rw [set_two_len, fillS_len]
theorem sharesL_get {a1 a2 a3 a4 : Int} {near : Nat → Bool} {np pad : Nat} (hnp : np ≤ 8) (hpad : pad < 8) (q : Nat) :
    (sharesL a1 a2 a3 a4 near np pad).getD (q * 2) 0 = (if q = pad then a1 else if q < np ∧ near q = true then a3 else 0) ∧ (sharesL a1 a2 a3 a4 near np pad).getD (q * 2 + 1) 0 = (if q = pad then a2 else if q < np ∧ near q = true then a4 else 0) := by
  unfold sharesL
  obtain ⟨h1, h2⟩ := set_two_get (q := q) (fillS_len a3 a4 (pad :: (List.range np).filter near)) hpad a1 a2
  obtain ⟨g1, g2⟩ := fillS_get a3 a4 q (pad :: (List.range np).filter near) (by
    intro p hp
    rcases List.mem_cons.1 hp with z | z
    · omega
    · have := List.mem_range.1 (List.mem_filter.1 z).1; omega)
  rw [h1, h2, g1, g2]
  have hm : q ≠ pad → (q ∈ pad :: (List.range np).filter near ↔ q < np ∧ near q = true) := fun e => by simp [e]
  by_cases e : q = pad
  · simp [e]
  · rw [if_neg e, if_neg e, if_neg e, if_neg e]
    by_cases e2 : q < np ∧ near q = true
    · rw [if_pos ((hm e).2 e2), if_pos ((hm e).2 e2), if_pos e2, if_pos e2]; exact ⟨rfl, rfl⟩
    · rw [if_neg (fun h => e2 ((hm e).1 h)), if_neg (fun h => e2 ((hm e).1 h)), if_neg e2, if_neg e2]; exact ⟨rfl, rfl⟩
theorem sharesL_bounded {a1 a2 a3 a4 : Int} {near : Nat → Bool} {np pad : Nat} (hnp : np ≤ 8) (hpad : pad < 8) (h1 : okR a1 a2) (h2 : okR a3 a4) : Bounded (sharesL a1 a2 a3 a4 near np pad) := by
  intro k
  unfold okR at h1 h2
  by_cases hk : k < 16
  · obtain ⟨g1, g2⟩ := sharesL_get (a1 := a1) (a2 := a2) (a3 := a3) (a4 := a4) (near := near) hnp hpad (k / 2)
    rcases Nat.mod_two_eq_zero_or_one k with z | z
    · rw [show k / 2 * 2 = k by omega] at g1
      rw [g1]
      split
      · omega
      · split <;> omega
    · rw [show k / 2 * 2 + 1 = k by omega] at g2
      rw [g2]
      split
      · omega
      · split <;> omega
  · rw [List.getD_eq_getElem?_getD, List.getElem?_eq_none (by rw [sharesL_len]; omega)]
    simp
theorem nestOn_spec (l : Nat) {H : Hp} {n g np pad : Nat} {f : Nat → Value} {x : Value} {near : Nat → Bool} {y a1 a2 a3 a4 : Int} (hg : g < n) (hs : CellsF H g 859 117 f) (hx : f 0 = x) (hlen : lenV P 31 x = some (.int .i64 np)) (hnp : np ≤ 8) (hpad : pad < 8)
    (hnear : ∀ b, b < 8 → f (3 + pad * 8 + b) = .bool (near b)) (hy : 0 ≤ y ∧ y ≤ 1000) (h1 : okR a1 a2) (h2 : okR a3 a4) :
    ∃ B, BoundsTo y (sharesL a1 a2 a3 a4 near np pad) B 8 ∧ Ret ((cal (l + 5)).call 97 [.pointer (some ⟨g, 0, none⟩), .int .i64 pad, .agg ⟨[.int .i64 y, .int .i64 a1, .int .i64 a2, .int .i64 a3, .int .i64 a4]⟩] H n) n H
      (.agg ⟨ints (nestL y (sharesL a1 a2 a3 a4 near np pad) B)⟩) := by
  obtain ⟨B, hB, hnest⟩ := newNest_call (ρ := Value × Hp × Nat) l (sharesL_len a1 a2 a3 a4 near np pad) (sharesL_bounded hnp hpad h1 h2) hy
  refine ⟨B, hB, ?_⟩
  rw [call97, pre97]
  simp only [boxK_eq, allocK_eq zero113, allocK_eq zero111, cellsV, ptr, reached_call (l + 3)]
  rw [range97]
  generalize hH1 : ((((H.set n (some (.cells [.int .i64 y, .int .i64 a1, .int .i64 a2, .int .i64 a3, .int .i64 a4] 86 false none))).set (n + 1) (some (.cells (ints (nestL 0 zeros zeros)) 113 false none))).set (n + 1 + 1) (some (.cells (ints (List.replicate 16 0)) 111 false none))).set (n + 1 + 1 + 1) (some (.cells [.pointer (some ⟨g, 0, none⟩)] 105 false none))).set (n + 1 + 1 + 1 + 1) (some (.cells [.int .i64 pad] 3 false none)) = H1
  have k1 : Keep n H H1 := fun b hb => by rw [← hH1, Tr.get_set, if_neg (by omega), Tr.get_set, if_neg (by omega), Tr.get_set, if_neg (by omega), Tr.get_set, if_neg (by omega), Tr.get_set, if_neg (by omega)]
  have q0 : H1.get n = some (.cells [.int .i64 y, .int .i64 a1, .int .i64 a2, .int .i64 a3, .int .i64 a4] 86 false none) := by rw [← hH1, Tr.get_set, if_neg (by omega), Tr.get_set, if_neg (by omega), Tr.get_set, if_neg (by omega), Tr.get_set, if_neg (by omega), Tr.get_set, if_pos rfl]
  have q1 : H1.get (n + 1) = some (.cells (ints (nestL 0 zeros zeros)) 113 false none) := by rw [← hH1, Tr.get_set, if_neg (by omega), Tr.get_set, if_neg (by omega), Tr.get_set, if_neg (by omega), Tr.get_set, if_pos rfl]
  have q2 : H1.get (n + 1 + 1) = some (.cells (ints (List.replicate 16 0)) 111 false none) := by rw [← hH1, Tr.get_set, if_neg (by omega), Tr.get_set, if_neg (by omega), Tr.get_set, if_pos rfl]
  have q3 : H1.get (n + 1 + 1 + 1) = some (.cells [.pointer (some ⟨g, 0, none⟩)] 105 false none) := by rw [← hH1, Tr.get_set, if_neg (by omega), Tr.get_set, if_pos rfl]
  have q4 : H1.get (n + 1 + 1 + 1 + 1) = some (.cells [.int .i64 pad] 3 false none) := by rw [← hH1, Tr.get_set, if_pos rfl]
  clear hH1
  generalize hT : T97 (.pointer (some ⟨g, 0, none⟩)) (.int .i64 pad) (.agg ⟨[.int .i64 y, .int .i64 a1, .int .i64 a2, .int .i64 a3, .int .i64 a4]⟩) (.pointer (some ⟨n, 0, none⟩)) (.pointer (some ⟨n + 1, 0, none⟩)) (.pointer (some ⟨n + 1 + 1, 0, none⟩))
    (.func (.func 119) ⟨[]⟩ ⟨[.pointer (some ⟨n + 1 + 1 + 1 + 1, 0, none⟩), .pointer (some ⟨n + 1 + 1 + 1, 0, none⟩)]⟩) = T
  have hc119 : ∀ (a b c : Value) (H : Hp) (n : Nat) (k : Value → Hp → Nat → Res), pureV b = false → callFK P (cal (l + 4)) 119 [a, b, c] H n k = bindO (C119_0 (cal (l + 3)) KK a b c H n) fun r => k r.1 r.2.1 r.2.2 := by
    intro a b c H n k hb
    unfold callFK
    have : (flatF P 119 && pureL [a, b, c]) = false := by simp [pureL, hb]
    rw [this, call119]
  rw [hc119 _ _ _ _ _ _ rfl]
  generalize hH2 : (H1.set (n + 1 + 1 + 1 + 2) (some .deferred)).set (n + 1 + 1 + 1 + 2 + 1) (some (.loop .ready none 97 T (ntm P 97) #[12] asg97 bod97 (n + 1 + 1 + 1 + 2))) = H2
  have r1 : ∀ b, b < n + 1 + 1 + 1 + 2 → H2.get b = H1.get b := fun b hb => by rw [← hH2, Tr.get_set, if_neg (by omega), Tr.get_set, if_neg (by omega)]
  have r2 : H2.get (n + 1 + 1 + 1 + 2) = some .deferred := by rw [← hH2, Tr.get_set, if_neg (by omega), Tr.get_set, if_pos rfl]
  have r3 : H2.get (n + 1 + 1 + 1 + 2 + 1) = some (.loop .ready none 97 T (ntm P 97) #[12] asg97 bod97 (n + 1 + 1 + 1 + 2)) := by rw [← hH2, Tr.get_set, if_pos rfl]
  clear hH2
  have hs2 : ∀ H3 : Hp, (∀ b, b ≠ n + 1 + 1 + 1 + 2 + 1 → b ≠ n + 1 + 1 → H3.get b = H2.get b) → Reads H3 (n + 1 + 1 + 1 + 1) (n + 1 + 1 + 1) g x pad near := by
    intro H3 h3
    have c3 : H3.get (n + 1 + 1 + 1) = some (.cells [.pointer (some ⟨g, 0, none⟩)] 105 false none) := by rw [h3 _ (by omega) (by omega), r1 _ (by omega)]; exact q3
    have c4 : H3.get (n + 1 + 1 + 1 + 1) = some (.cells [.int .i64 pad] 3 false none) := by rw [h3 _ (by omega) (by omega), r1 _ (by omega)]; exact q4
    have cg : CellsF H3 g 859 117 f := by
      obtain ⟨c, e1, e2, e3⟩ := hs
      exact ⟨c, by rw [h3 _ (by omega) (by omega), r1 _ (by omega), k1 _ hg]; exact e1, e2, e3⟩
    refine ⟨loadV_int (o := 0) (k := 0) (cells_at c4) agg3 rfl, loadV_scalar (o := 0) (k := 0) (cells_at c3) agg105 rfl rfl rfl, ?_, fun b hb => ?_⟩
    · have := cg.load (P := P) (k := 0) agg31 (by omega)
      rw [hx] at this; exact this
    · have := cg.load (P := P) (k := 3 + pad * 8 + b) agg4 (by omega)
      rw [hnear b hb] at this
      rw [show 0 + 3 + pad * 8 + b * 1 = 3 + pad * 8 + b by omega]
      exact this
  obtain ⟨H3, n3, e3, i1, i2, i3, i4⟩ := iter_spec (cal (l + 3)) (.func (.yield (n + 1 + 1 + 1 + 2 + 1)) #[] #[]) (n + 1 + 1 + 1 + 1) (n + 1 + 1 + 1) g pad np x near hpad hnp hlen
    (fun ps Hc nc => nc = n + 1 + 1 + 1 + 2 + 2 ∧ Hc.get (n + 1 + 1 + 1 + 2 + 1) = some (.loop .ready none 97 T (ntm P 97) #[12] asg97 bod97 (n + 1 + 1 + 1 + 2)) ∧ Hc.get (n + 1 + 1) = some (.cells (ints (fillS a3 a4 ps)) 111 false none) ∧ ∀ b, b ≠ n + 1 + 1 + 1 + 2 + 1 → b ≠ n + 1 + 1 → Hc.get b = H2.get b)
    (fun ps Hc nc ⟨_, _, _, h⟩ => hs2 Hc h)
    (fun ps p Hc nc ⟨h1, h2, h3, h4⟩ hp => by
      have h5 : Hc.get n = some (.cells [.int .i64 y, .int .i64 a1, .int .i64 a2, .int .i64 a3, .int .i64 a4] 86 false none) := by rw [h4 _ (by omega) (by omega), r1 _ (by omega)]; exact q0
      rw [← hT] at h2
      obtain ⟨H', y1, y2, y3, y4⟩ := yield97 (ρ := Value × Hp × Nat) (l + 2) (n := nc) h2 h5 h3 (fillS_len _ _ _) (by omega) (by omega) hp
      refine ⟨H', nc, y1, h1, ?_, ?_, fun b hb hb' => (y4 b hb hb').trans (h4 b hb hb')⟩
      · rw [y2, h2, hT]
      · rw [y3, fillS_snoc])
    (H := H2) (n := n + 1 + 1 + 1 + 2 + 2) ⟨rfl, r3, by rw [r1 _ (by omega)]; exact q2, fun _ _ _ => rfl⟩
  rw [show n + 1 + 1 + 1 + 2 = n + 1 + 1 + 1 + 2 from rfl, e3, bindO_some]
  have hout : rangeOut (n + 1 + 1 + 1 + 2 + 1) { T := T, H := H3, n := n3, D := [n + 1 + 1 + 1 + 2] } = some (.norm, { T := T, H := H3.set (n + 1 + 1 + 1 + 2 + 1) (some (.loop .exhausted none 97 T (ntm P 97) #[12] asg97 bod97 (n + 1 + 1 + 1 + 2))), n := n3, D := [n + 1 + 1 + 1 + 2] }) := by
    unfold rangeOut
    simp only [i2]
  rw [hout]
  show Ret (K97 (cal (l + 4)) KK T (H3.set (n + 1 + 1 + 1 + 2 + 1) (some (.loop .exhausted none 97 T (ntm P 97) #[12] asg97 bod97 (n + 1 + 1 + 1 + 2)))) n3 [n + 1 + 1 + 1 + 2]) n H _
  generalize hH4 : H3.set (n + 1 + 1 + 1 + 2 + 1) (some (.loop .exhausted none 97 T (ntm P 97) #[12] asg97 bod97 (n + 1 + 1 + 1 + 2))) = H4
  have o1 : ∀ b, b ≠ n + 1 + 1 + 1 + 2 + 1 → b ≠ n + 1 + 1 → H4.get b = H2.get b := fun b hb hb' => by rw [← hH4, Tr.get_set, if_neg hb]; exact i4 b hb hb'
  have o2 : H4.get (n + 1 + 1) = some (.cells (ints (fillS a3 a4 (pad :: (List.range np).filter near))) 111 false none) := by rw [← hH4, Tr.get_set, if_neg (by omega)]; exact i3
  clear hH4 hout
  have o0 : H4.get n = some (.cells [.int .i64 y, .int .i64 a1, .int .i64 a2, .int .i64 a3, .int .i64 a4] 86 false none) := by rw [o1 _ (by omega) (by omega), r1 _ (by omega)]; exact q0
  have o3 : H4.get (n + 1) = some (.cells (ints (nestL 0 zeros zeros)) 113 false none) := by rw [o1 _ (by omega) (by omega), r1 _ (by omega)]; exact q1
  have o4 : H4.get (n + 1 + 1 + 1 + 2) = some .deferred := by rw [o1 _ (by omega) (by omega)]; exact r2
  rw [← hT, post97, fa86_1, bindO_some, addrV_eq, bindO_some, (loadK53 o0).1, bindO_some, at111 _ 0 hpad, bindO_some, store53, Nat.zero_add, store_two o2 (by rw [fillS_len]; omega), bindO_some]
  have hsh : ((fillS a3 a4 (pad :: (List.range np).filter near)).set (pad * 2) a1).set (pad * 2 + 1) a2 = sharesL a1 a2 a3 a4 near np pad := rfl
  rw [hsh]
  generalize hH5 : H4.set (n + 1 + 1) (some (.cells (ints (sharesL a1 a2 a3 a4 near np pad)) 111 false none)) = H5
  have p1 : ∀ b, b ≠ n + 1 + 1 → H5.get b = H4.get b := fun b hb => by rw [← hH5, Tr.get_set, if_neg hb]
  have p2 : H5.get (n + 1 + 1) = some (.cells (ints (sharesL a1 a2 a3 a4 near np pad)) 111 false none) := by rw [← hH5, Tr.get_set, if_pos rfl]
  clear hH5
  have hl6 := load_all p2 agg111 sz111 (by rw [ints_length, sharesL_len])
  rw [fa86_0, bindO_some, addrV_eq, bindO_some, (loadK53 ((p1 n (by omega)).trans o0)).2.2, bindO_some, addrV_eq, bindO_some, hl6, bindO_some, hnest]
  have lens : (ints (nestL y (sharesL a1 a2 a3 a4 near np pad) B)).length = 33 := by rw [ints_length, nest_cells (sharesL_len ..) hB.1]
  rw [storeP_agg sz113 lens, storeN_all ((p1 (n + 1) (by omega)).trans o3) (by rw [lens, ints_length, nest_cells zeros_len zeros_len]) (ints_leaf _), bindO_some]
  generalize hH6 : H5.set (n + 1) (some (.cells (ints (nestL y (sharesL a1 a2 a3 a4 near np pad) B)) 113 false none)) = H6
  have u1 : H6.get (n + 1) = some (.cells (ints (nestL y (sharesL a1 a2 a3 a4 near np pad) B)) 113 false none) := by rw [← hH6, Tr.get_set, if_pos rfl]
  have u2 : ∀ b, b ≠ n + 1 → H6.get b = H5.get b := fun b hb => by rw [← hH6, Tr.get_set, if_neg hb]
  clear hH6
  have ht : takeD H6 [n + 1 + 1 + 1 + 2] = some (H6.set (n + 1 + 1 + 1 + 2) none) := by
    have : H6.get (n + 1 + 1 + 1 + 2) = some .deferred := by rw [u2 _ (by omega), p1 _ (by omega)]; exact o4
    unfold takeD
    simp only [this]
    rfl
  rw [ht]
  show Ret (bindO (resV P ((Tr.nil : Tm).set 6 (some (.pointer (some ⟨n + 1, 0, none⟩)))) (H6.set (n + 1 + 1 + 1 + 2) none) results97) fun vs => some (oneV vs, H6.set (n + 1 + 1 + 1 + 2) none, n3)) n H _
  rw [res97, load_all (t := 113) (s := 33) (L := ints (nestL y (sharesL a1 a2 a3 a4 near np pad) B)) (e := 113) (vec := none) (by rw [Tr.get_set, if_neg (by omega)]; exact u1) agg113 sz113 lens]
  refine ⟨_, _, rfl, by omega, fun b hb => ?_⟩
  rw [Tr.get_set, if_neg (by omega), u2 _ (by omega), p1 _ (by omega), o1 _ (by omega) (by omega), r1 _ (by omega), k1 _ hb]
end Go.Proofs.Ytgojjellogiglaa.spec
end
section
namespace Go.Ev
open Go
variable {P : Program} {ρ : Type}
theorem effK_gen {ex : List Extra} {H : Hp} {n : Nat} {v : Value} {op : Hp → Nat → (Value → Hp → Nat → Option ρ) → Option ρ} {R : Hp → Nat → Prop}
    (hex : ∀ y ∈ ex, ∃ t a, y = .l t a ∧ ((∃ c e ro vec, H.get a.block = some (.cells c e ro vec)) ∨ ∃ c, H.get a.block = some (.rows c)))
    (hop : ∀ Hm, (∀ b, ¬ ldOf ex b → Hm.get b = H.get b) → ∃ H2 n2, (∀ k, op Hm n k = k v H2 n2) ∧ (∀ b, ldOf ex b → H2.get b = Hm.get b) ∧ R H2 n2) :
    ∃ H' H2 n2, (∀ k, effK P ex H n op k = k v H' n2) ∧ R H2 n2 ∧ (∀ b, ldOf ex b → H'.get b = H.get b) ∧ ∀ b, ¬ ldOf ex b → H'.get b = H2.get b := by
  cases ex with
  | nil =>
    obtain ⟨H2, n2, h1, _, h3⟩ := hop H (fun _ _ => rfl)
    exact ⟨H2, H2, n2, fun k => by unfold effK; exact h1 k, h3, fun b ⟨_, _, h, _⟩ => (by cases h), fun _ _ => rfl⟩
  | cons y l =>
    have hl : ∀ z ∈ y :: l, ∃ t a, z = .l t a := fun z hz => by obtain ⟨t, a, e, _⟩ := hex z hz; exact ⟨t, a, e⟩
    obtain ⟨H1, e1, e2⟩ := maskX_some (ex := y :: l) (H := H) fun z hz => by obtain ⟨t, a, e, h⟩ := hex z hz; exact .inl ⟨t, a, e, h⟩
    have hnw : ∀ b, ¬ nwOf (y :: l) b := fun b ⟨id, c, e, h1, _⟩ => by obtain ⟨t, a, q⟩ := hl _ h1; cases q
    obtain ⟨H2, n2, h1, h2, h3⟩ := hop (maskXA (y :: l) H1) fun b hb => by
      rw [(maskXA_get (H := H1) b).2 (hnw _)]
      rcases e2 b with q | ⟨_, q⟩
      · exact q
      · exact absurd q hb
    have hsome : ∀ z ∈ y :: l, (∃ t a, z = .l t a ∧ (H2.get a.block).isSome) ∨ ∃ id c e, z = .a id c e := by
      intro z hz
      obtain ⟨t, a, rfl, hc⟩ := hex z hz
      refine .inl ⟨t, a, rfl, ?_⟩
      rw [h2 _ ⟨t, a, hz, rfl⟩, (maskXA_get (H := H1) a.block).2 (hnw _)]
      have hs : (H.get a.block).isSome := by rcases hc with ⟨c, e, ro, vec, hc⟩ | ⟨c, hc⟩ <;> rw [hc] <;> rfl
      rcases e2 a.block with q | ⟨⟨c, e, ro, vec, _, q⟩, _⟩
      · rw [q]; exact hs
      · rw [q]; rfl
    obtain ⟨H3, f1, f2, f3⟩ := backX_some (H0 := H) hsome
    have hck : chkX P (backXA (y :: l) H H3) (y :: l) = true := chk_true fun z hz => .inl (hl z hz)
    refine ⟨backXA (y :: l) H H3, H2, n2, fun k => ?_, h3, fun b hb => ?_, fun b hb => ?_⟩
    · unfold effK
      simp only [e1, bindO_some, h1, f1, hck]
      rfl
    · rw [(backXA_get b).2 (hnw b)]; exact f2 b hb
    · rw [(backXA_get b).2 (hnw b)]; exact f3 b hb
theorem putF_one (f : Nat → Value) (o : Nat) (v : Value) (k : Nat) : putF f o [v] k = if k = o then v else f k := by
  unfold putF
  by_cases h : k = o
  · subst h; simp
  · rw [if_neg h]
    by_cases h2 : o ≤ k
    · rw [if_pos h2]
      have : k - o ≠ 0 := by omega
      cases hk : k - o with
      | zero => exact absurd hk this
      | succ m => simp
    · rw [if_neg h2]
theorem putF_in (f : Nat → Value) (o : Nat) (vs : List Value) {j : Nat} {v : Value} (h : vs[j]? = some v) : putF f o vs (o + j) = v := by
  unfold putF
  rw [if_pos (by omega), show o + j - o = j by omega, h]
theorem putF_out (f : Nat → Value) (o : Nat) (vs : List Value) {k : Nat} (h : k < o ∨ o + vs.length ≤ k) : putF f o vs k = f k := by
  unfold putF
  by_cases h2 : o ≤ k
  · rw [if_pos h2, List.getElem?_eq_none (by omega)]
  · rw [if_neg h2]
end Go.Ev
end
section
namespace Go.Proofs.Ytgojjellogiglaa.spec
open Go Go.Ev Go.Proofs.Ytgojjellogiglaa.nestFits Go.Proofs.Ytgojjellogiglaa.G
set_option maxRecDepth 100000
variable {ρ : Type}
theorem und115 : P.underlying 115 = some (.array 8 114) := by kernel_rfl
theorem und114 : P.underlying 114 = some (.array 3 113) := by kernel_rfl
theorem sz114 : szT P 114 = some 99 := by kernel_rfl
theorem at115 (b o : Nat) {i : Nat} (hi : i < 8) : indexAddrV P 115 (.pointer (some ⟨b, o, none⟩)) (.int .i64 i) = some (.pointer (some ⟨b, o + i * 99, none⟩)) := by
  unfold indexAddrV
  simp only [und115, idx_lt hi, sz114]
  rfl
theorem at114 (b o : Nat) {i : Nat} (hi : i < 3) : indexAddrV P 114 (.pointer (some ⟨b, o, none⟩)) (.int .i64 i) = some (.pointer (some ⟨b, o + i * 33, none⟩)) := by
  unfold indexAddrV
  simp only [und114, idx_lt hi, sz113]
  rfl
open Classical in
noncomputable def nearB (js : List Int) (i : Nat) (a b : Nat) : Bool := decide (∃ q, q < i ∧ J js a b q)
noncomputable def shP (js ks : List Int) (nj np p kd : Nat) : List Int := sharesL (ks.getD (kd * 5 + 1) 0) (ks.getD (kd * 5 + 2) 0) (ks.getD (kd * 5 + 3) 0) (ks.getD (kd * 5 + 4) 0) (nearB js nj p) np p
def NestAt (f : Nat → Value) (js ks : List Int) (nj np p kd : Nat) : Prop := ∃ B, BoundsTo (ks.getD (kd * 5) 0) (shP js ks nj np p kd) B 8 ∧ ∀ j, j < 33 → f (67 + p * 99 + kd * 33 + j) = .int .i64 ((nestL (ks.getD (kd * 5) 0) (shP js ks nj np p kd) B).getD j 0)
structure SiteF (f : Nat → Value) (x y z : Value) (js : List Int) (i : Nat) : Prop where
  x : f 0 = x
  y : f 1 = y
  z : f 2 = z
  near : ∀ a b, a < 8 → b < 8 → f (3 + a * 8 + b) = .bool (nearB js i a b)
open Classical in
theorem nearB_next {js : List Int} {i A B : Nat} (hA : js[i * 2]? = some (A : Int)) (hB : js[i * 2 + 1]? = some (B : Int)) (a b : Nat) :
    nearB js (i + 1) a b = if (a = A ∧ b = B) ∨ (a = B ∧ b = A) then true else nearB js i a b := by
  have hJ : J js a b i ↔ (a = A ∧ b = B) ∨ (a = B ∧ b = A) := by
    unfold J; rw [hA, hB]; simp only [Option.some.injEq]; omega
  unfold nearB
  by_cases h : (a = A ∧ b = B) ∨ (a = B ∧ b = A)
  · rw [if_pos h]
    exact decide_eq_true ⟨i, by omega, hJ.2 h⟩
  · rw [if_neg h]
    congr 1
    exact propext ⟨fun ⟨q, h1, h2⟩ => by
      rcases Nat.lt_or_ge q i with z | z
      · exact ⟨q, z, h2⟩
      · rw [show q = i by omega] at h2
        exact absurd (hJ.1 h2) h, fun ⟨q, h1, h2⟩ => ⟨q, by omega, h2⟩⟩
theorem near_loop61 (c : Cal) (k : Nat) (g np nj : Nat) (js : List Int) (x y z : Value) (hnp : np ≤ 8) (hnj : nj ≤ 1000) (hjs : ∀ i, i < nj → ∃ A B : Nat, js[i * 2]? = some (A : Int) ∧ js[i * 2 + 1]? = some (B : Int) ∧ A < np ∧ B < np)
    (Q : Res → Prop) (H0 : Hp) (n0 : Nat) (hg : n0 ≤ g) (hy0 : SliceR H0 n0 2 y nj js) (hx : ∀ (H : Hp) (n : Nat) (f : Nat → Value), n0 ≤ n → g < n → Keep n0 H0 H → CellsF H g 859 117 f → SiteF f x y z js nj →
      (∀ p kd j, p < 8 → kd < 3 → j < 33 → f (67 + p * 99 + kd * 33 + j) = .int .i64 0 → True) → Q (S61_2 c k k (.pointer (some ⟨g, 0, none⟩)) (.int .i64 np) (.int .i64 0) H n)) (hlx : lenV P 31 x = some (.int .i64 np)) :
    ∀ (m i : Nat) (H : Hp) (n : Nat) (f : Nat → Value), n0 ≤ n → g < n → Keep n0 H0 H → CellsF H g 859 117 f → SiteF f x y z js i → i ≤ nj → nj - i ≤ m →
    Q (S61_1 c k m (.pointer (some ⟨g, 0, none⟩)) y (.int .i64 nj) (.int .i64 i) H n) := by
  have body : ∀ (b1 : Value → Value → Value → Value → Hp → Nat → Res) (m i : Nat) (H : Hp) (n : Nat) (f : Nat → Value), n0 ≤ n → g < n → Keep n0 H0 H → CellsF H g 859 117 f → SiteF f x y z js i → i ≤ nj →
      (∀ (H : Hp) (n : Nat) (f : Nat → Value), n0 ≤ n → g < n → Keep n0 H0 H → CellsF H g 859 117 f → SiteF f x y z js (i + 1) → i < nj → Q (b1 (.pointer (some ⟨g, 0, none⟩)) y (.int .i64 nj) (.int .i64 ((i + 1 : Nat) : Int)) H n)) →
      Q (C61_1 c k m b1 (.pointer (some ⟨g, 0, none⟩)) y (.int .i64 nj) (.int .i64 i) H n) := by
    intro b1 m i H n f hn hgn hk hf hs hi ih
    unfold C61_1 B61_1
    generalize hS : S61_2 c k k = S
    rw [binK_some bin_lss, ifK_d]
    by_cases hlt : i < nj
    · rw [if_pos (by omega)]
      obtain ⟨A, B, hA, hB, hA8, hB8⟩ := hjs i hlt
      have hy := (hy0.keep hk (Nat.le_refl _)).up hn
      obtain ⟨bb, o, hix, hbn, hc⟩ := hy.at_ und32 sz88 hlt
      have hl2 : i * 2 + 2 ≤ js.length := by rw [hy.1]; omega
      obtain ⟨u, w, hu, hw, huw⟩ := pair_at hl2
      rw [hA] at hu; rw [hB] at hw
      cases hu; cases hw
      have hld : loadV P H 88 ⟨bb, o + i * 2, none⟩ = some (.agg ⟨[.int .i64 A, .int .i64 B]⟩) := by
        rw [loadV_agg hc agg88 sz88 (by rw [ints_length]; exact hl2) (ints_noHole _), huw]
      obtain ⟨H1, k1, k2, k3⟩ := spill (P := P) (ρ := Value × Hp × Nat) (H := H) (n := n) (L := [.int .i64 A, .int .i64 B]) zero88 rfl sz88 rfl rfl
      rw [hix, bindO_some, addrV_eq, bindO_some, hld, bindO_some, k3]
      have la : loadV P H1 3 ⟨n, 0 + 0, none⟩ = some (.int .i64 A) := loadV_int (cells_at k2) agg3 rfl
      have lb : loadV P H1 3 ⟨n, 0 + 1, none⟩ = some (.int .i64 B) := loadV_int (cells_at k2) agg3 rfl
      rw [fa88_0, bindO_some, addrV_eq, bindO_some, la, bindO_some, fa88_1, bindO_some, addrV_eq, bindO_some, lb, bindO_some, bindO_some, addrV_eq, bindO_some, lb, bindO_some, bindO_some, addrV_eq, bindO_some, la, bindO_some, nil_ptr, bindO_some, fa117_1, bindO_some,
        at109 _ _ (by omega), bindO_some, at108 _ _ (by omega), bindO_some, bindO_some, fa117_1, bindO_some, at109 _ _ (by omega), bindO_some]
      have hf1 := hf.keep k1 hgn
      obtain ⟨H2, H2', n2, e2, ⟨r1, r2, r3⟩, r4, r5⟩ := effK_gen (P := P) (ρ := Value × Hp × Nat) (ex := [.l 3 ⟨n, 0 + 0, none⟩, .l 3 ⟨n, 0 + 1, none⟩]) (H := H1) (n := n + 1) (v := undef)
        (op := fun H n k => bindO (storeP P 4 (.pointer (some ⟨g, 0 + 3 + A * 8 + B * 1, none⟩)) (.bool true) H) fun H => k undef H n)
        (R := fun H' n' => n' = n + 1 ∧ CellsF H' g 859 117 (putF f (0 + 3 + A * 8 + B * 1) [.bool true]) ∧ ∀ b, b ≠ n → b ≠ g → H'.get b = H1.get b)
        (fun q hq => by
          simp only [List.mem_cons, List.not_mem_nil, or_false] at hq
          rcases hq with rfl | rfl <;> exact ⟨_, _, rfl, .inl ⟨_, _, _, _, k2⟩⟩)
        (fun Hm hm => by
          have hld : ∀ b, ldOf [.l 3 ⟨n, 0 + 0, none⟩, .l 3 ⟨n, 0 + 1, none⟩] b ↔ b = n := fun b => by
            constructor
            · rintro ⟨t, a, h1, h2⟩
              simp only [List.mem_cons, List.not_mem_nil, or_false, Extra.l.injEq] at h1
              rcases h1 with ⟨_, rfl⟩ | ⟨_, rfl⟩ <;> exact h2.symm
            · rintro rfl
              exact ⟨3, ⟨_, 0 + 0, none⟩, by simp, rfl⟩
          have hmg : CellsF Hm g 859 117 f := by
            obtain ⟨c, e1, e2, e3⟩ := hf1
            exact ⟨c, by rw [hm g (fun h => by have := (hld g).1 h; omega)]; exact e1, e2, e3⟩
          obtain ⟨H', s1, s2, s3⟩ := hmg.storeN (o := 0 + 3 + A * 8 + B * 1) (vs := [.bool true]) (by simp; omega) rfl
          refine ⟨H', n + 1, fun k => by rw [storeP_leaf sz4 rfl, s1, bindO_some], fun b hb => s3 b (by have := (hld b).1 hb; omega), rfl, s2, fun b hb hb' => ?_⟩
          rw [s3 b hb', hm b (fun h => hb ((hld b).1 h))])
      rw [e2, at108 _ _ (by omega), bindO_some]
      subst r1
      have hld : ∀ b, ldOf [.l 3 ⟨n, 0 + 0, none⟩, .l 3 ⟨n, 0 + 1, none⟩] b ↔ b = n := fun b => by
        constructor
        · rintro ⟨t, a, h1, h2⟩
          simp only [List.mem_cons, List.not_mem_nil, or_false, Extra.l.injEq] at h1
          rcases h1 with ⟨_, rfl⟩ | ⟨_, rfl⟩ <;> exact h2.symm
        · rintro rfl
          exact ⟨3, ⟨_, 0 + 0, none⟩, by simp, rfl⟩
      have hf2 : CellsF H2 g 859 117 (putF f (0 + 3 + A * 8 + B * 1) [.bool true]) := by
        obtain ⟨c, e1, e2, e3⟩ := r2
        exact ⟨c, by rw [r5 g (fun h => by have := (hld g).1 h; omega)]; exact e1, e2, e3⟩
      obtain ⟨H3, s1, s2, s3⟩ := hf2.storeN (o := 0 + 3 + B * 8 + A * 1) (vs := [.bool true]) (by simp; omega) rfl
      have hI : I64 ((i : Int) + 1) := by unfold I64; omega
      have hcast : ((i : Int) + 1) = ((i + 1 : Nat) : Int) := by omega
      rw [storeP_leaf sz4 rfl, s1, bindO_some, binK_some (bin_add hI), hcast]
      refine ih H3 (n + 1) _ (by omega) (by omega) (fun b hb => ?_) s2 ⟨?_, ?_, ?_, fun a b ha hb => ?_⟩ hlt
      · rw [s3 b (by omega), r5 b (fun h => by have := (hld b).1 h; omega), r3 b (by omega) (by omega), k1 b (by omega), hk b hb]
      · rw [putF_one, if_neg (by omega), putF_one, if_neg (by omega)]; exact hs.x
      · rw [putF_one, if_neg (by omega), putF_one, if_neg (by omega)]; exact hs.y
      · rw [putF_one, if_neg (by omega), putF_one, if_neg (by omega)]; exact hs.z
      · rw [putF_one, putF_one, nearB_next hA hB, hs.near a b ha hb]
        by_cases c1 : 3 + a * 8 + b = 0 + 3 + B * 8 + A * 1
        · rw [if_pos c1, if_pos (.inr ⟨by omega, by omega⟩)]
        · rw [if_neg c1]
          by_cases c2 : 3 + a * 8 + b = 0 + 3 + A * 8 + B * 1
          · rw [if_pos c2, if_pos (.inl ⟨by omega, by omega⟩)]
          · rw [if_neg c2, if_neg]
            rintro (⟨h1, h2⟩ | ⟨h1, h2⟩)
            · exact c2 (by subst h1; subst h2; omega)
            · exact c1 (by subst h1; subst h2; omega)
    · rw [if_neg (by omega)]
      have hi' : i = nj := by omega
      subst hi'
      have lx : loadV P H 31 ⟨g, 0 + 0 + 0, none⟩ = some x := by
        have := hf.load (P := P) (k := 0) agg31 (by omega)
        rw [hs.x] at this; exact this
      rw [nil_ptr, bindO_some, fa117_0, bindO_some, fa35_0, bindO_some, addrV_eq, bindO_some, lx, bindO_some, hlx, bindO_some, ← hS]
      exact hx H n f hn hgn hk hf hs (fun _ _ _ _ _ _ _ => trivial)
  intro m
  induction m with
  | zero =>
    intro i H n f h1 h2 h3 h4 h5 h6 h7
    exact body _ 0 i H n f h1 h2 h3 h4 h5 h6 (fun _ _ _ _ _ _ _ _ h => by omega)
  | succ m ih =>
    intro i H n f h1 h2 h3 h4 h5 h6 h7
    exact body _ (m + 1) i H n f h1 h2 h3 h4 h5 h6 (fun H n f q1 q2 q3 q4 q5 q6 => ih (i + 1) H n f q1 q2 q3 q4 q5 (by omega) (by omega))
end Go.Proofs.Ytgojjellogiglaa.spec
end
section
namespace Go.Proofs.Ytgojjellogiglaa.spec
open Go Go.Ev Go.Proofs.Ytgojjellogiglaa.nestFits Go.Proofs.Ytgojjellogiglaa.G
set_option maxRecDepth 100000
variable {ρ : Type}
theorem getD_some {X : List Int} {j : Nat} (h : j < X.length) : X[j]? = some (X.getD j 0) := by
  rw [List.getD_eq_getElem?_getD, List.getElem?_eq_getElem h]; rfl
theorem nestOn_call (l : Nat) {H : Hp} {n g np pad : Nat} {f : Nat → Value} {x : Value} {near : Nat → Bool} {y a1 a2 a3 a4 : Int} (hg : g < n) (hs : CellsF H g 859 117 f) (hx : f 0 = x) (hlen : lenV P 31 x = some (.int .i64 np)) (hnp : np ≤ 8) (hpad : pad < 8)
    (hnear : ∀ b, b < 8 → f (3 + pad * 8 + b) = .bool (near b)) (hy : 0 ≤ y ∧ y ≤ 1000) (h1 : okR a1 a2) (h2 : okR a3 a4) :
    ∃ B H' n', BoundsTo y (sharesL a1 a2 a3 a4 near np pad) B 8 ∧ (∀ k : Value → Hp → Nat → Option ρ, callFK P (cal (l + 5)) 97 [.pointer (some ⟨g, 0, none⟩), .int .i64 pad, .agg ⟨[.int .i64 y, .int .i64 a1, .int .i64 a2, .int .i64 a3, .int .i64 a4]⟩] H n k =
      k (.agg ⟨ints (nestL y (sharesL a1 a2 a3 a4 near np pad) B)⟩) H' n') ∧ n ≤ n' ∧ Keep n H H' := by
  obtain ⟨B, hB, H', n', e, h3, h4⟩ := nestOn_spec l hg hs hx hlen hnp hpad hnear hy h1 h2
  refine ⟨B, H', n', hB, fun k => ?_, h3, h4⟩
  unfold callFK
  have : (flatF P 97 && pureL [.pointer (some ⟨g, 0, none⟩), .int .i64 pad, .agg ⟨[.int .i64 y, .int .i64 a1, .int .i64 a2, .int .i64 a3, .int .i64 a4]⟩]) = false := by rw [Bool.and_eq_false_iff]; exact .inr rfl
  rw [this, e]
  rfl
def NestsTo (f : Nat → Value) (js ks : List Int) (nj np nk pd i : Nat) : Prop := ∀ p kd, p < np → kd < nk → (p < pd ∨ (p = pd ∧ kd < i)) → NestAt f js ks nj np p kd
def KindsOk (ks : List Int) (nk : Nat) : Prop := ∀ kd, kd < nk → (0 ≤ ks.getD (kd * 5) 0 ∧ ks.getD (kd * 5) 0 ≤ 1000) ∧ okR (ks.getD (kd * 5 + 1) 0) (ks.getD (kd * 5 + 2) 0) ∧ okR (ks.getD (kd * 5 + 3) 0) (ks.getD (kd * 5 + 4) 0)
theorem nests_loop3 (l k m1 : Nat) (g np nj nk : Nat) (js ks : List Int) (x y z : Value) (hnp : np ≤ 8) (hnk : nk ≤ 3) (hks : KindsOk ks nk)
    (Q : Res → Prop) (H0 : Hp) (n0 : Nat) (hg : n0 ≤ g) (hz0 : SliceR H0 n0 5 z nk ks) (hlx : lenV P 31 x = some (.int .i64 np)) (pd : Nat) (hpd : pd < np) (b2 : Value → Value → Value → Hp → Nat → Res)
    (hb2 : ∀ (H : Hp) (n : Nat) (f : Nat → Value), n0 ≤ n → g < n → Keep n0 H0 H → CellsF H g 859 117 f → SiteF f x y z js nj → NestsTo f js ks nj np nk (pd + 1) 0 → Q (b2 (.pointer (some ⟨g, 0, none⟩)) (.int .i64 np) (.int .i64 ((pd + 1 : Nat) : Int)) H n)) :
    ∀ (m i : Nat) (H : Hp) (n : Nat) (f : Nat → Value), n0 ≤ n → g < n → Keep n0 H0 H → CellsF H g 859 117 f → SiteF f x y z js nj → NestsTo f js ks nj np nk pd i → i ≤ nk → nk - i ≤ m →
    Q (S61_3 (cal (l + 5)) k m1 b2 m (.pointer (some ⟨g, 0, none⟩)) (.int .i64 pd) (.int .i64 np) (.int .i64 pd) z (.int .i64 nk) (.int .i64 i) H n) := by
  have body : ∀ (b3 : Value → Value → Value → Value → Value → Value → Value → Hp → Nat → Res) (m i : Nat) (H : Hp) (n : Nat) (f : Nat → Value), n0 ≤ n → g < n → Keep n0 H0 H → CellsF H g 859 117 f → SiteF f x y z js nj → NestsTo f js ks nj np nk pd i → i ≤ nk →
      (∀ (H : Hp) (n : Nat) (f : Nat → Value), n0 ≤ n → g < n → Keep n0 H0 H → CellsF H g 859 117 f → SiteF f x y z js nj → NestsTo f js ks nj np nk pd (i + 1) → i < nk →
        Q (b3 (.pointer (some ⟨g, 0, none⟩)) (.int .i64 pd) (.int .i64 np) (.int .i64 pd) z (.int .i64 nk) (.int .i64 ((i + 1 : Nat) : Int)) H n)) →
      Q (C61_3 (cal (l + 5)) k m1 m b2 b3 (.pointer (some ⟨g, 0, none⟩)) (.int .i64 pd) (.int .i64 np) (.int .i64 pd) z (.int .i64 nk) (.int .i64 i) H n) := by
    intro b3 m i H n f hn hgn hk hf hs hnt hi ih
    unfold C61_3 B61_3
    rw [binK_some bin_lss, ifK_d]
    by_cases hlt : i < nk
    · rw [if_pos (by omega)]
      have hz := (hz0.keep hk (Nat.le_refl _)).up hn
      obtain ⟨bb, o, hix, hbn, hc⟩ := hz.at_ und33 sz86 hlt
      have hl2 : i * 5 + 5 ≤ ks.length := by rw [hz.1]; omega
      have hld : loadV P H 86 ⟨bb, o + i * 5, none⟩ = some (.agg ⟨[.int .i64 (ks.getD (i * 5) 0), .int .i64 (ks.getD (i * 5 + 1) 0), .int .i64 (ks.getD (i * 5 + 2) 0), .int .i64 (ks.getD (i * 5 + 3) 0), .int .i64 (ks.getD (i * 5 + 4) 0)]⟩) := by
        rw [loadV_agg hc agg86 sz86 (by rw [ints_length]; exact hl2) (ints_noHole _), five_at hl2]
      obtain ⟨H1, k1, k2, k3⟩ := spill (P := P) (ρ := Value × Hp × Nat) (H := H) (n := n) (L := [.int .i64 (ks.getD (i * 5) 0), .int .i64 (ks.getD (i * 5 + 1) 0), .int .i64 (ks.getD (i * 5 + 2) 0), .int .i64 (ks.getD (i * 5 + 3) 0), .int .i64 (ks.getD (i * 5 + 4) 0)]) zero86 rfl sz86 rfl rfl
      rw [hix, bindO_some, addrV_eq, bindO_some, hld, bindO_some, k3]
      have hback := load_all k2 agg86 sz86 rfl
      rw [addrV_eq, bindO_some, hback, bindO_some, nil_ptr, bindO_some, fa117_2, bindO_some, at115 _ _ (by omega), bindO_some]
      have hf1 := hf.keep k1 hgn
      obtain ⟨y1, y2, y3⟩ := hks i hlt
      obtain ⟨B, H2, n2, hB, e2, e3, e4⟩ := nestOn_call (ρ := Value × Hp × Nat) l (n := n + 1) (by omega) hf1 hs.x hlx hnp (show pd < 8 by omega) (near := nearB js nj pd) (fun b hb => hs.near pd b (by omega) hb) y1 y2 y3
      rw [e2, at114 _ _ (by omega), bindO_some]
      have hf2 := hf1.keep e4 (by omega)
      have lens : (ints (nestL (ks.getD (i * 5) 0) (sharesL (ks.getD (i * 5 + 1) 0) (ks.getD (i * 5 + 2) 0) (ks.getD (i * 5 + 3) 0) (ks.getD (i * 5 + 4) 0) (nearB js nj pd) np pd) B)).length = 33 := by rw [ints_length, nest_cells (sharesL_len ..) hB.1]
      obtain ⟨H3, s1, s2, s3⟩ := hf2.storeN (o := 0 + 67 + pd * 99 + i * 33) (vs := ints (nestL (ks.getD (i * 5) 0) (sharesL (ks.getD (i * 5 + 1) 0) (ks.getD (i * 5 + 2) 0) (ks.getD (i * 5 + 3) 0) (ks.getD (i * 5 + 4) 0) (nearB js nj pd) np pd) B)) (by rw [lens]; omega) (ints_leaf _)
      have hI : I64 ((i : Int) + 1) := by unfold I64; omega
      have hcast : ((i : Int) + 1) = ((i + 1 : Nat) : Int) := by omega
      rw [storeP_agg sz113 lens, s1, bindO_some, binK_some (bin_add hI), hcast]
      refine ih H3 n2 _ (by omega) (by omega) (fun b hb => ?_) s2 ⟨?_, ?_, ?_, fun a b ha hb => ?_⟩ (fun p kd hp hkd hpk => ?_) hlt
      · rw [s3 b (by omega), e4 b (by omega), k1 b (by omega), hk b hb]
      · rw [putF_out _ _ _ (.inl (by omega))]; exact hs.x
      · rw [putF_out _ _ _ (.inl (by omega))]; exact hs.y
      · rw [putF_out _ _ _ (.inl (by omega))]; exact hs.z
      · rw [putF_out _ _ _ (.inl (by omega))]; exact hs.near a b ha hb
      · by_cases hnew : p = pd ∧ kd = i
        · obtain ⟨rfl, rfl⟩ := hnew
          refine ⟨B, hB, fun j hj => ?_⟩
          rw [show 67 + p * 99 + kd * 33 + j = 0 + 67 + p * 99 + kd * 33 + j by omega]
          refine putF_in _ _ _ (ints_get ?_)
          have : j < (nestL (ks.getD (kd * 5) 0) (sharesL (ks.getD (kd * 5 + 1) 0) (ks.getD (kd * 5 + 2) 0) (ks.getD (kd * 5 + 3) 0) (ks.getD (kd * 5 + 4) 0) (nearB js nj p) np p) B).length := by rw [← ints_length, lens]; exact hj
          exact getD_some this
        · obtain ⟨B', hB', hf'⟩ := hnt p kd hp hkd (by omega)
          refine ⟨B', hB', fun j hj => ?_⟩
          rw [putF_out _ _ _ (by rw [lens]; omega)]
          exact hf' j hj
    · rw [if_neg (by omega)]
      have hi' : i = nk := by omega
      subst hi'
      have hI : I64 ((pd : Int) + 1) := by unfold I64; omega
      have hcast : ((pd : Int) + 1) = ((pd + 1 : Nat) : Int) := by omega
      rw [binK_some (bin_add hI), hcast]
      exact hb2 H n f hn hgn hk hf hs (fun p kd hp hkd h => hnt p kd hp hkd (by omega))
  intro m
  induction m with
  | zero =>
    intro i H n f h1 h2 h3 h4 h5 h6 h7 h8
    exact body _ 0 i H n f h1 h2 h3 h4 h5 h6 h7 (fun _ _ _ _ _ _ _ _ _ h => by omega)
  | succ m ih =>
    intro i H n f h1 h2 h3 h4 h5 h6 h7 h8
    exact body _ (m + 1) i H n f h1 h2 h3 h4 h5 h6 h7 (fun H n f q1 q2 q3 q4 q5 q6 q7 => ih (i + 1) H n f q1 q2 q3 q4 q5 q6 (by omega) (by omega))
theorem nests_loop2 (l k : Nat) (g np nj nk : Nat) (js ks : List Int) (x y z : Value) (hnp : np ≤ 8) (hnk : nk ≤ 3) (hks : KindsOk ks nk)
    (Q : Res → Prop) (H0 : Hp) (n0 : Nat) (hg : n0 ≤ g) (hz0 : SliceR H0 n0 5 z nk ks) (hlx : lenV P 31 x = some (.int .i64 np))
    (hq : ∀ (H : Hp) (n : Nat) (f : Nat → Value), n0 ≤ n → g < n → Keep n0 H0 H → CellsF H g 859 117 f → SiteF f x y z js nj → (∀ p kd, p < np → kd < nk → NestAt f js ks nj np p kd) → Q (some (.tuple ⟨[.pointer (some ⟨g, 0, none⟩), .int .i64 0]⟩, H, n))) :
    ∀ (m i : Nat) (H : Hp) (n : Nat) (f : Nat → Value), n0 ≤ n → g < n → Keep n0 H0 H → CellsF H g 859 117 f → SiteF f x y z js nj → NestsTo f js ks nj np nk i 0 → i ≤ np → np - i + 3 ≤ m →
    Q (S61_2 (cal (l + 5)) k m (.pointer (some ⟨g, 0, none⟩)) (.int .i64 np) (.int .i64 i) H n) := by
  have body : ∀ (b2 : Value → Value → Value → Hp → Nat → Res) (m i : Nat) (H : Hp) (n : Nat) (f : Nat → Value), n0 ≤ n → g < n → Keep n0 H0 H → CellsF H g 859 117 f → SiteF f x y z js nj → NestsTo f js ks nj np nk i 0 → i ≤ np → 3 ≤ m →
      (∀ (H : Hp) (n : Nat) (f : Nat → Value), n0 ≤ n → g < n → Keep n0 H0 H → CellsF H g 859 117 f → SiteF f x y z js nj → NestsTo f js ks nj np nk (i + 1) 0 → i < np → Q (b2 (.pointer (some ⟨g, 0, none⟩)) (.int .i64 np) (.int .i64 ((i + 1 : Nat) : Int)) H n)) →
      Q (C61_2 (cal (l + 5)) k m b2 (.pointer (some ⟨g, 0, none⟩)) (.int .i64 np) (.int .i64 i) H n) := by
    intro b2 m i H n f hn hgn hk hf hs hnt hi hm ih
    unfold C61_2 B61_2
    generalize hS : S61_3 (cal (l + 5)) k m b2 m = S
    rw [binK_some bin_lss, ifK_d]
    by_cases hlt : i < np
    · rw [if_pos (by omega)]
      have lz : loadV P H 33 ⟨g, 0 + 0 + 2, none⟩ = some z := by
        have := hf.load (P := P) (k := 2) agg33 (by omega)
        rw [hs.z] at this; exact this
      have e3 : lenV P 33 z = some (.int .i64 nk) := hz0.len_eq und33
      rw [nil_ptr, bindO_some, fa117_0, bindO_some, fa35_2, bindO_some, addrV_eq, bindO_some, lz, bindO_some, e3, bindO_some, ← hS]
      exact nests_loop3 l k m g np nj nk js ks x y z hnp hnk hks Q H0 n0 hg hz0 hlx i hlt b2 (fun H n f q1 q2 q3 q4 q5 q6 => ih H n f q1 q2 q3 q4 q5 q6 hlt) m 0 H n f hn hgn hk hf hs hnt (by omega) (by omega)
    · rw [if_neg (by omega)]
      exact hq H n f hn hgn hk hf hs (fun p kd hp hkd => hnt p kd hp hkd (.inl (by omega)))
  intro m
  induction m with
  | zero =>
    intro i H n f h1 h2 h3 h4 h5 h6 h7 h8
    omega
  | succ m ih =>
    intro i H n f h1 h2 h3 h4 h5 h6 h7 h8
    exact body _ (m + 1) i H n f h1 h2 h3 h4 h5 h6 h7 (by omega) (fun H n f q1 q2 q3 q4 q5 q6 q7 => ih (i + 1) H n f q1 q2 q3 q4 q5 q6 (by omega) (by omega))
end Go.Proofs.Ytgojjellogiglaa.spec
end
section
namespace Go.Proofs.Ytgojjellogiglaa.spec
open Go Go.Ev Go.Proofs.Ytgojjellogiglaa.nestFits Go.Proofs.Ytgojjellogiglaa.G
set_option maxRecDepth 100000
variable {ρ : Type}
open Classical in
theorem nearB_zero (js : List Int) (a b : Nat) : nearB js 0 a b = false := by
  unfold nearB
  exact decide_eq_false (fun ⟨q, h, _⟩ => by omega)
theorem build117 (x y z : Value) : buildP P 117 [(0, .agg ⟨[x, y, z]⟩)] = some (.agg ⟨x :: y :: z :: (List.replicate 64 (.bool false) ++ List.replicate 792 (.int .i64 0))⟩) := by kernel_rfl
def site0 (x y z : Value) (k : Nat) : Value := if k = 0 then x else if k = 1 then y else if k = 2 then z else if k < 67 then .bool false else .int .i64 0
theorem site0_at (x y z : Value) (k : Nat) (hk : k < 859) : (x :: y :: z :: (List.replicate 64 (Value.bool false) ++ List.replicate 792 (Value.int .i64 0)))[k]? = some (site0 x y z k) := by
  match k, hk with
  | 0, _ => rfl
  | 1, _ => rfl
  | 2, _ => rfl
  | k + 3, hk =>
    rw [List.getElem?_cons_succ, List.getElem?_cons_succ, List.getElem?_cons_succ]
    unfold site0
    rw [if_neg (by omega), if_neg (by omega), if_neg (by omega)]
    by_cases h : k < 64
    · rw [List.getElem?_append_left (by simp; omega), List.getElem?_replicate, if_pos h, if_pos (by omega)]
    · rw [List.getElem?_append_right (by simp; omega), List.getElem?_replicate, List.length_replicate, if_pos (by omega), if_neg (by omega)]
structure Good (np nj nk : Nat) (ps js ks : List Int) : Prop where
  np8 : np ≤ 8
  nj16 : nj ≤ 16
  nk3 : nk ≤ 3
  np1 : np ≠ 0
  nk1 : nk ≠ 0
  ok : ¬ GBad np nj nk ps js ks
theorem good_of {np nj nk : Nat} {ps js ks : List Int} (h : faultN np nj nk ps js ks = 0) : Good np nj nk ps js ks := by
  unfold faultN at h
  by_cases c1 : 8 < np ∨ 16 < nj ∨ 3 < nk
  · rw [if_pos c1] at h; omega
  · rw [if_neg c1] at h
    by_cases c2 : np = 0 ∨ nk = 0
    · rw [if_pos c2] at h; omega
    · rw [if_neg c2] at h
      by_cases c3 : GBad np nj nk ps js ks
      · rw [if_pos c3] at h; omega
      · exact ⟨by omega, by omega, by omega, by omega, by omega, c3⟩
theorem Good.kinds {np nj nk : Nat} {ps js ks : List Int} (h : Good np nj nk ps js ks) : KindsOk ks nk := by
  intro kd hkd
  have hb : ¬ KBad ks kd := fun c => h.ok (.inr (.inl ⟨kd, hkd, c⟩))
  unfold KBad at hb
  unfold okR
  omega
theorem Good.joins {np nj nk : Nat} {ps js ks : List Int} (h : Good np nj nk ps js ks) (hl : js.length = nj * 2) (i : Nat) (hi : i < nj) : ∃ A B : Nat, js[i * 2]? = some (A : Int) ∧ js[i * 2 + 1]? = some (B : Int) ∧ A < np ∧ B < np := by
  have hb : ∀ i, i < nj → okJ js np nj (js.getD (i * 2) 0) (js.getD (i * 2 + 1) 0) := (joins_all hl).2 fun c => h.ok (.inr (.inr c))
  obtain ⟨o1, o2, _, _⟩ := hb i hi
  refine ⟨(js.getD (i * 2) 0).toNat, (js.getD (i * 2 + 1) 0).toNat, ?_, ?_, by omega, by omega⟩
  · rw [getD_some (show i * 2 < js.length by omega)]; congr 1; omega
  · rw [getD_some (show i * 2 + 1 < js.length by omega)]; congr 1; omega
def Opened (r : Res) (n : Nat) (H : Hp) (v : Value) (np nj nk : Nat) (js ks : List Int) : Prop := ∃ (g : Nat) (x y z : Value) (f : Nat → Value) (H' : Hp) (n' : Nat), r = some (.tuple ⟨[.pointer (some ⟨g, 0, none⟩), .int .i64 0]⟩, H', n') ∧ n ≤ n' ∧ Keep n H H' ∧ n ≤ g ∧ g < n' ∧
  v = .agg ⟨[x, y, z]⟩ ∧ CellsF H' g 859 117 f ∧ SiteF f x y z js nj ∧ ∀ p kd, p < np → kd < nk → NestAt f js ks nj np p kd
theorem open_spec (l : Nat) {np nj nk : Nat} {ps js ks : List Int} {H : Hp} {n : Nat} {v : Value} (hg : GroveP H n v np nj nk ps js ks) (hnp : np ≤ 1000) (hnj : nj ≤ 1000) (hnk : nk ≤ 1000) :
    (faultN np nj nk ps js ks ≠ 0 → Ret (C61_0 (cal (l + 5)) KK v H n) n H (.tuple ⟨[.pointer none, .int .i64 (faultN np nj nk ps js ks)]⟩)) ∧
    (faultN np nj nk ps js ks = 0 → Opened (C61_0 (cal (l + 5)) KK v H n) n H v np nj nk js ks) := by
  have hg0 := hg
  obtain ⟨x, y, z, rfl, h1, h2, h3⟩ := hg
  unfold C61_0 B61_0
  generalize hS : S61_1 (cal (l + 5)) KK KK = S
  rw [boxK_eq]
  simp only [cellsV, ptr]
  have hk : Keep n H (H.set n (some (.cells [x, y, z] 35 false none))) := (Keep.refl n H).set (Nat.le_refl _) _
  have hb : CellsAt (H.set n (some (.cells [x, y, z] 35 false none))) n 0 [x, y, z] := CellsAt.new
  generalize H.set n (some (.cells [x, y, z] 35 false none)) = H1 at hk hb ⊢
  have lg : ∀ H2, CellsAt H2 n 0 [x, y, z] → loadV P H2 35 ⟨n, 0, none⟩ = some (.agg ⟨[x, y, z]⟩) := fun H2 h => loadV_agg (o := 0) (k := 0) h agg35 sz35 (by simp) (by simp [h1.hole.1, h2.hole.1, h3.hole.1])
  obtain ⟨H2, n2, e1, e2, e3⟩ := check_call (ρ := Value × Hp × Nat) (l + 1) (hg0.keep hk (show n ≤ n + 1 by omega)) hnp hnj hnk
  rw [addrV_eq, bindO_some, lg H1 hb, bindO_some, e1, binK_some bin_neq]
  constructor
  · intro hne
    rw [decide_eq_false hne, Bool.not_false, ifK_t]
    exact ⟨H2, n2, rfl, by omega, hk.trans e3 (by omega)⟩
  · intro he
    have good := good_of he
    have hb2 := hb.keep e3 (by omega)
    rw [decide_eq_true he, Bool.not_true, ifK_f, bindO_some, lg H2 hb2, bindO_some, build117, bindO_some, boxK_eq]
    simp only [cellsV, ptr]
    have kk : Keep n H H2 := hk.trans e3 (by omega)
    have hf : CellsF (H2.set n2 (some (.cells (x :: y :: z :: (List.replicate 64 (.bool false) ++ List.replicate 792 (.int .i64 0))) 117 false none))) n2 859 117 (site0 x y z) := CellsF.new (by simp) _ (site0_at x y z)
    have kk2 : Keep n H (H2.set n2 (some (.cells (x :: y :: z :: (List.replicate 64 (.bool false) ++ List.replicate 792 (.int .i64 0))) 117 false none))) := kk.set (by omega) _
    generalize H2.set n2 (some (.cells (x :: y :: z :: (List.replicate 64 (.bool false) ++ List.replicate 792 (.int .i64 0))) 117 false none)) = H3 at hf kk2 ⊢
    have ly : loadV P H3 32 ⟨n2, 0 + 0 + 1, none⟩ = some y := hf.load (P := P) (k := 1) agg32 (by omega)
    have ey : lenV P 32 y = some (.int .i64 nj) := h2.len_eq und32
    rw [nil_ptr, bindO_some, fa117_0, bindO_some, fa35_1, bindO_some, addrV_eq, bindO_some, ly, bindO_some, ey, bindO_some, ← hS]
    have hlx : lenV P 31 x = some (.int .i64 np) := h1.len_eq und31
    refine near_loop61 (cal (l + 5)) KK n2 np nj js x y z good.np8 hnj (good.joins h2.1) (fun r => Opened r n H (.agg ⟨[x, y, z]⟩) np nj nk js ks) H n (by omega) h2
      (fun H4 n4 f4 q1 q2 q3 q4 q5 _ => nests_loop2 l KK n2 np nj nk js ks x y z good.np8 good.nk3 good.kinds (fun r => Opened r n H (.agg ⟨[x, y, z]⟩) np nj nk js ks) H n (by omega) h3 hlx
        (fun H5 n5 f5 p1 p2 p3 p4 p5 p6 => ⟨n2, x, y, z, f5, H5, n5, rfl, by omega, p3, by omega, p2, rfl, p4, p5, p6⟩) KK 0 H4 n4 f4 q1 q2 q3 q4 q5 (fun p kd _ _ h => by omega) (by omega) (by have := good.np8; unfold KK; omega)) hlx
      KK 0 H3 (n2 + 1) (site0 x y z) (by omega) (by omega) kk2 hf ⟨rfl, rfl, rfl, fun a b ha hb => ?_⟩ (by omega) (by unfold KK; omega)
    unfold site0
    rw [if_neg (by omega), if_neg (by omega), if_neg (by omega), if_pos (by omega), nearB_zero]
theorem flat61 : flatF P 61 = false := by kernel_rfl
theorem call61 (l : Nat) (a : Value) (H : Hp) (n : Nat) : (cal (l + 1)).call 61 [a] H n = C61_0 (cal l) KK a H n := by kernel_rfl
theorem open_call (l : Nat) (v : Value) (H : Hp) (n : Nat) (k : Value → Hp → Nat → Option ρ) : callFK P (cal (l + 6)) 61 [v] H n k = bindO (C61_0 (cal (l + 5)) KK v H n) fun r => k r.1 r.2.1 r.2.2 := by
  unfold callFK
  rw [flat61, call61]
  rfl
end Go.Proofs.Ytgojjellogiglaa.spec
end
section
namespace Go.Ev
open Go
variable {P : Program} {t t2 e e2 : TypeId} {ρ : Type}
theorem loadN_all {H : Hp} {b o : Nat} {L : List Value} (h : CellsAt H b o L) (hn : L.all noHole = true) {m : Nat} (hm : L.length = m) : loadN H ⟨b, o, none⟩ m = some L := by
  have := loadN_at (s := m) (k := 0) h (by omega) hn
  rw [Nat.add_zero] at this
  rw [this, take_all _ _ hm]
def VecV (H : Hp) (n0 n : Nat) (s : Nat) (e : TypeId) (v : Value) (len : Nat) (L : List Value) : Prop :=
  L.length = len * s ∧ L.all leafV = true ∧ L.all noHole = true ∧ ((v = .slice none 0 0 ∧ len = 0) ∨ ∃ b, v = .slice (some ⟨b, 0, none⟩) len capV ∧ n0 ≤ b ∧ b < n ∧ 0 < len ∧ H.get b = some (.cells L e false (some s)))
theorem VecV.leaf {H : Hp} {n0 n s len : Nat} {v : Value} {L : List Value} (h : VecV H n0 n s e v len L) : leafV v = true ∧ noHole v = true ∧ noHoles v = true := by
  rcases h.2.2.2 with ⟨rfl, _⟩ | ⟨b, rfl, _⟩ <;> exact ⟨rfl, rfl, rfl⟩
theorem VecV.same {H H' : Hp} {n0 n m s len : Nat} {v : Value} {L : List Value} (h : VecV H n0 n s e v len L) (hm : n ≤ m) (hk : ∀ b, b < n → blockIs v b → H'.get b = H.get b) : VecV H' n0 m s e v len L := by
  obtain ⟨h1, h2, h3, h4⟩ := h
  refine ⟨h1, h2, h3, ?_⟩
  rcases h4 with h4 | ⟨b, e, a1, a2, a3, a4⟩
  · exact .inl h4
  · exact .inr ⟨b, e, a1, by omega, a3, by rw [hk b a2 ⟨_, _, _, _, e⟩]; exact a4⟩
theorem VecV.low {H : Hp} {n0 n s len : Nat} {v : Value} {L : List Value} (h : VecV H n0 n s e v len L) {k : Nat} (hb : blockIs v k) : n0 ≤ k ∧ k < n := by
  obtain ⟨o, l, cp, sp, hb⟩ := hb
  rcases h.2.2.2 with ⟨rfl, _⟩ | ⟨b, rfl, h1, h2, _⟩
  · cases hb
  · cases hb; exact ⟨h1, h2⟩
theorem VecV.len_eq {H : Hp} {n0 n s len : Nat} {v : Value} {L : List Value} (h : VecV H n0 n s e v len L) (ht : P.underlying t = some (.slice e2)) : lenV P t v = some (goInt len) := by
  rcases h.2.2.2 with ⟨rfl, rfl⟩ | ⟨b, rfl, _⟩ <;> simp [lenV, ht]
end Go.Ev
end
section
namespace Go.Proofs.Ytgojjellogiglaa.spec
open Go Go.Ev Go.Proofs.Ytgojjellogiglaa.nestFits Go.Proofs.Ytgojjellogiglaa.G
set_option maxRecDepth 100000
variable {ρ : Type}
noncomputable def fitD (js ks : List Int) (nj np p kd : Nat) : Bool := decide (total (shP js ks nj np p kd) 0 ≤ ks.getD (kd * 5) 0 ∧ ks.getD (kd * 5) 0 ≤ total (shP js ks nj np p kd) 1)
def cntR (pd kd nk p : Nat) : Nat := if p < pd then nk else if p = pd then kd else 0
structure FS (H : Hp) (base n fb g : Nat) (r f : Nat → Value) (np nk pd kd : Nat) (bl : Nat → Nat → Bool) : Prop where
  fits : CellsF H fb np 41 r
  site : CellsF H g 859 117 f
  fbl : fb < base
  gl : g < base
  ne : g ≠ fb
  bn : base ≤ n
  rows : ∀ p, p < np → VecV H base n 1 4 (r p) (cntR pd kd nk p) ((List.range (cntR pd kd nk p)).map fun q => .bool (bl p q))
  dis : ∀ p q, p < np → q < np → p ≠ q → ∀ k, blockIs (r p) k → ¬ blockIs (r q) k
theorem FS.push {H H' : Hp} {base n m fb g np nk pd kd : Nat} {r f : Nat → Value} {bl : Nat → Nat → Bool} {new : Value} (h : FS H base n fb g r f np nk pd kd bl) (hpd : pd < np) (hm : n ≤ m) (hk : ∀ b, b < n → ¬ blockIs (r pd) b → H'.get b = H.get b)
    (hv : VecV H' base m 1 4 new (kd + 1) (((List.range kd).map fun q => .bool (bl pd q)) ++ [.bool (bl pd kd)])) (hf : ∀ k, blockIs new k → n ≤ k) :
    ∃ H'', storeN H' ⟨fb, 0 + pd * 1, none⟩ [new] = some H'' ∧ FS H'' base m fb g (putF r (0 + pd * 1) [new]) f np nk pd (kd + 1) bl ∧ ∀ b, b < base → b ≠ fb → H''.get b = H.get b := by
  have hfb := h.fbl
  have hgl := h.gl
  have hbn := h.bn
  have hne := h.ne
  have low : ∀ b, b < base → ¬ blockIs (r pd) b := fun b hb hblk => by have := ((h.rows pd hpd).low hblk).1; omega
  have cf : CellsF H' fb np 41 r := by
    obtain ⟨c, e1, e2, e3⟩ := h.fits
    exact ⟨c, by rw [hk fb (by omega) (low fb hfb)]; exact e1, e2, e3⟩
  obtain ⟨H'', s1, s2, s3⟩ := cf.storeN (o := 0 + pd * 1) (vs := [new]) (by simp; omega) (by simp [hv.leaf.1])
  refine ⟨H'', s1, ⟨s2, ?_, hfb, hgl, hne, by omega, fun p hp => ?_, fun p q hp hq hpq k => ?_⟩, fun b hb hbf => ?_⟩
  · obtain ⟨c, e1, e2, e3⟩ := h.site
    exact ⟨c, by rw [s3 g hne, hk g (by omega) (low g hgl)]; exact e1, e2, e3⟩
  · rw [putF_one]
    by_cases e : p = pd
    · subst e
      rw [if_pos (by omega)]
      have hc : cntR p (kd + 1) nk p = kd + 1 := by unfold cntR; rw [if_neg (by omega), if_pos rfl]
      rw [hc, List.range_succ, List.map_append]
      exact hv.same (Nat.le_refl _) fun b _ hb => s3 b (by have := (hv.low hb).1; omega)
    · rw [if_neg (by omega)]
      have hc : cntR pd (kd + 1) nk p = cntR pd kd nk p := by unfold cntR; rw [if_neg e, if_neg e]
      rw [hc]
      refine (h.rows p hp).same hm fun b hb hblk => ?_
      rw [s3 b (by have := ((h.rows p hp).low hblk).1; omega)]
      exact hk b hb (h.dis p pd hp hpd e b hblk)
  · rw [putF_one, putF_one]
    by_cases e1 : p = pd
    · subst e1
      rw [if_pos (by omega), if_neg (by omega)]
      intro h1 h2
      have := hf k h1
      have := ((h.rows q hq).low h2).2
      omega
    · rw [if_neg (by omega)]
      by_cases e2 : q = pd
      · subst e2
        rw [if_pos (by omega)]
        intro h1 h2
        have := hf k h2
        have := ((h.rows p hp).low h1).2
        omega
      · rw [if_neg (by omega)]
        exact h.dis p q hp hq hpq k
  · rw [s3 b hbf, hk b (by omega) (low b hb)]
theorem shP_len (js ks : List Int) (nj np p kd : Nat) : (shP js ks nj np p kd).length = 16 := sharesL_len ..
theorem shP_bounded {js ks : List Int} {nj np nk p kd : Nat} (hks : KindsOk ks nk) (hkd : kd < nk) (hnp : np ≤ 8) (hp : p < np) : Bounded (shP js ks nj np p kd) := by
  obtain ⟨_, h2, h3⟩ := hks kd hkd
  exact sharesL_bounded hnp (by omega) h2 h3
theorem nest_load {H : Hp} {g np nj p kd : Nat} {f : Nat → Value} {js ks : List Int} (hf : CellsF H g 859 117 f) (hn : NestAt f js ks nj np p kd) (hp : p < 8) (hkd : kd < 3) :
    ∃ B, BoundsTo (ks.getD (kd * 5) 0) (shP js ks nj np p kd) B 8 ∧ loadV P H 113 ⟨g, 0 + 67 + p * 99 + kd * 33, none⟩ = some (.agg ⟨ints (nestL (ks.getD (kd * 5) 0) (shP js ks nj np p kd) B)⟩) := by
  obtain ⟨B, hB, hj⟩ := hn
  refine ⟨B, hB, ?_⟩
  rw [hf.load_agg (k := 0 + 67 + p * 99 + kd * 33) agg113 sz113 (by omega)]
  have lens : (nestL (ks.getD (kd * 5) 0) (shP js ks nj np p kd) B).length = 33 := nest_cells (shP_len ..) hB.1
  have e : (List.range 33).map (fun j => f (0 + 67 + p * 99 + kd * 33 + j)) = ints (nestL (ks.getD (kd * 5) 0) (shP js ks nj np p kd) B) := by
    apply List.ext_getElem?
    intro j
    by_cases h : j < 33
    · rw [List.getElem?_map, List.getElem?_range h, ints_get (getD_some (by omega))]
      simp only [Option.map_some]
      rw [show 0 + 67 + p * 99 + kd * 33 + j = 67 + p * 99 + kd * 33 + j by omega, hj j h]
    · rw [List.getElem?_eq_none (by simp; omega), List.getElem?_eq_none (by rw [ints_length]; omega)]
  rw [e]
theorem FS.next {H : Hp} {base n fb g np nk pd : Nat} {r f : Nat → Value} {bl : Nat → Nat → Bool} (h : FS H base n fb g r f np nk pd nk bl) : FS H base n fb g r f np nk (pd + 1) 0 bl := by
  refine ⟨h.fits, h.site, h.fbl, h.gl, h.ne, h.bn, fun p hp => ?_, h.dis⟩
  have := h.rows p hp
  have hc : cntR (pd + 1) 0 nk p = cntR pd nk nk p := by
    unfold cntR
    by_cases h1 : p < pd
    · rw [if_pos h1, if_pos (by omega)]
    · by_cases h2 : p = pd
      · rw [if_neg h1, if_pos h2, if_pos (by omega)]
      · rw [if_neg h1, if_neg h2, if_neg (by omega)]; split <;> rfl
  rw [hc]; exact this
end Go.Proofs.Ytgojjellogiglaa.spec
end
section
namespace Go.Proofs.Ytgojjellogiglaa.spec
open Go Go.Ev Go.Proofs.Ytgojjellogiglaa.nestFits Go.Proofs.Ytgojjellogiglaa.G
set_option maxRecDepth 100000
variable {ρ : Type}
theorem repl_one (z : Value) : ∀ n : Nat, repl n [z] = List.replicate n z
  | 0 => rfl
  | n + 1 => by
    unfold repl
    rw [repl_one z n, List.replicate_succ]
    rfl
theorem Good.small {np nj nk : Nat} {ps js ks : List Int} (h : Good np nj nk ps js ks) : Small ks nk := by
  intro kd hkd
  obtain ⟨h1, h2, h3⟩ := h.kinds kd hkd
  unfold okR at h2 h3
  omega
theorem Good.inner {np nj nk : Nat} {ps js ks : List Int} (h : Good np nj nk ps js ks) (hl : js.length = nj * 2) : Inner js nj np := by
  intro j hj a b hJ
  obtain ⟨A, B, hA, hB, h1, h2⟩ := h.joins hl j hj
  unfold J at hJ
  rw [hA, hB] at hJ
  simp only [Option.some.injEq] at hJ
  omega
open Classical in
theorem share_reach {js ks : List Int} {nj np p kd : Nat} (hi : Inner js nj np) (hnp : np ≤ 8) (hp : p < np) (q : Nat) :
    (shP js ks nj np p kd).getD (q * 2) 0 = (reach js ks nj kd p q).1 ∧ (shP js ks nj np p kd).getD (q * 2 + 1) 0 = (reach js ks nj kd p q).2 := by
  obtain ⟨g1, g2⟩ := sharesL_get (a1 := ks.getD (kd * 5 + 1) 0) (a2 := ks.getD (kd * 5 + 2) 0) (a3 := ks.getD (kd * 5 + 3) 0) (a4 := ks.getD (kd * 5 + 4) 0) (near := nearB js nj p) hnp (show p < 8 by omega) q
  unfold shP
  rw [g1, g2]
  unfold reach
  by_cases e : q = p
  · subst e
    rw [if_pos rfl, if_pos rfl, if_pos rfl]
    exact ⟨rfl, rfl⟩
  · rw [if_neg e, if_neg e, if_neg (show ¬ (p : Int) = (q : Int) by omega)]
    by_cases hn : Near js nj p q
    · have hb : nearB js nj p q = true := by unfold nearB; rw [decide_eq_true_eq]; exact hn
      have hq : q < np := by obtain ⟨j, h1, h2⟩ := hn; have := hi j h1 _ _ h2; omega
      have hc : q < np ∧ nearB js nj p q = true := ⟨hq, hb⟩
      rw [if_pos hc, if_pos hc, if_pos hn]
      exact ⟨rfl, rfl⟩
    · have hb : ¬ (q < np ∧ nearB js nj p q = true) := fun ⟨_, h⟩ => hn (by unfold nearB at h; rw [decide_eq_true_eq] at h; exact h)
      rw [if_neg hb, if_neg hb, if_neg hn]
      exact ⟨rfl, rfl⟩
theorem fitsB_iff8 {js ks : List Int} {nj np nk kind a : Nat} (hs : Small ks nk) (hk : kind < nk) (ha : a < np) (hi : Inner js nj np) (hnp : np ≤ 8) :
    fitsB js ks nj np kind a ↔ sumTo (fun p => (reach js ks nj kind a p).1) 8 ≤ ks.getD (kind * 5) 0 ∧ ks.getD (kind * 5) 0 ≤ sumTo (fun p => (reach js ks nj kind a p).2) 8 := by
  rw [fitsB_iff hs hk ha hi (by omega)]
  have e1 : sumTo (fun p => (reach js ks nj kind a p).1) 11 = sumTo (fun p => (reach js ks nj kind a p).1) 8 := sumTo_zero (by omega) fun k h1 _ => by rw [reach_far hi ha (by omega)]
  have e2 : sumTo (fun p => (reach js ks nj kind a p).2) 11 = sumTo (fun p => (reach js ks nj kind a p).2) 8 := sumTo_zero (by omega) fun k h1 _ => by rw [reach_far hi ha (by omega)]
  rw [e1, e2]
theorem fits_agree {np nj nk p kd : Nat} {ps js ks : List Int} (good : Good np nj nk ps js ks) (hl : js.length = nj * 2) (hp : p < np) (hkd : kd < nk) : fitD js ks nj np p kd = true ↔ fitsB js ks nj np kd p := by
  rw [fitsB_iff8 good.small hkd hp (good.inner hl) good.np8]
  unfold fitD total
  rw [decide_eq_true_eq, sumTo_same (f := fun q => (shP js ks nj np p kd).getD (q * 2 + 0) 0) (g := fun q => (reach js ks nj kd p q).1) (fun q _ => (share_reach (good.inner hl) good.np8 hp q).1),
    sumTo_same (f := fun q => (shP js ks nj np p kd).getD (q * 2 + 1) 0) (g := fun q => (reach js ks nj kd p q).2) (fun q _ => (share_reach (good.inner hl) good.np8 hp q).2)]
theorem call21 (l : Nat) (a b c : Value) (H : Hp) (n : Nat) : (cal (l + 1)).call 21 [a, b, c] H n = C21_0 (cal l) KK a b c H n := by kernel_rfl
theorem fitsR_call (l : Nat) {np nj nk : Nat} {ps js ks : List Int} (hnj : nj ≤ KK) (hnp : np ≤ 100) (kind : Nat) (hk : kind < nk) (at_ : Int) (hs : Small ks nk) {H : Hp} {n : Nat} {v : Value} (hg : GroveI H n v np nj nk ps js ks) :
    ∃ (r : Bool) (H' : Hp) (n' : Nat), (r = true ↔ fitsB js ks nj np kind at_) ∧ (∀ k : Value → Hp → Nat → Option ρ, callFK P (cal (l + 4)) 21 [v, .int .i64 kind, .int .i64 at_] H n k = k (.bool r) H' n') ∧ n ≤ n' ∧ Keep n H H' := by
  obtain ⟨r, H', n', ⟨b, rfl, hb⟩, e1, e2, e3⟩ := callFK_spec (ρ := ρ) (P := P) (cal := cal (l + 4)) (f := 21) (args := [v, .int .i64 kind, .int .i64 at_]) (H := H) (n := n)
    (Pre := fun H n => GroveI H n v np nj nk ps js ks) (Q := fun r => ∃ b : Bool, r = .bool b ∧ (b = true ↔ fitsB js ks nj np kind at_))
    (fun H n h => by
      obtain ⟨r, h1, h2⟩ := fits_spec l hnj hnp kind hk at_ hs h
      exact ⟨.bool r, by rw [call21]; exact h1, r, rfl, h2⟩) (fun r ⟨b, e, _⟩ _ => by subst e; rfl) hg (fun hp => hg.nil (by simp only [pureL, Bool.and_eq_true] at hp; exact hp.1))
  exact ⟨b, H', n', hb, e1, e2, e3⟩
end Go.Proofs.Ytgojjellogiglaa.spec
end
section
namespace Go.Proofs.Ytgojjellogiglaa.spec
open Go Go.Ev Go.Proofs.Ytgojjellogiglaa.nestFits Go.Proofs.Ytgojjellogiglaa.G
set_option maxRecDepth 100000
variable {ρ : Type}
def ListR (H : Hp) (n : Nat) (v : Value) (len : Nat) (xs : List Int) : Prop := xs.length = len ∧ (∀ x ∈ xs, I64 x) ∧
  ((v = .slice none 0 0 ∧ len = 0) ∨ ∃ b o cap, v = .slice (some ⟨b, o, none⟩) len cap ∧ b < n ∧ CellsAt H b o (ints xs))
theorem ListR.keep {H H' : Hp} {n m len : Nat} {v : Value} {xs : List Int} (h : ListR H n v len xs) (hk : Keep n H H') (hm : n ≤ m) : ListR H' m v len xs := by
  obtain ⟨h1, h2, h3⟩ := h
  refine ⟨h1, h2, ?_⟩
  rcases h3 with h3 | ⟨b, o, cap, e, a, c⟩
  · exact .inl h3
  · exact .inr ⟨b, o, cap, e, by omega, c.keep hk a⟩
theorem ListR.nil {H : Hp} {n len : Nat} {v : Value} {xs : List Int} (h : ListR H n v len xs) (hp : pureV v = true) : ListR .nil 0 v len xs := by
  obtain ⟨h1, h2, h3⟩ := h
  refine ⟨h1, h2, ?_⟩
  rcases h3 with h3 | ⟨b, o, cap, e, a, c⟩
  · exact .inl h3
  · subst e; simp [pureV] at hp
theorem und44 : P.underlying 44 = some (.slice 3) := by kernel_rfl
theorem sl44 : sliceElem P 44 = some 3 := by kernel_rfl
theorem sz3 : szT P 3 = some 1 := by kernel_rfl
theorem by3 : bytesT P 3 = some 8 := by kernel_rfl
theorem zero3 : zeroT P 3 = some (.int .i64 0) := by kernel_rfl
theorem ListR.len_eq {H : Hp} {n len : Nat} {v : Value} {xs : List Int} (h : ListR H n v len xs) : lenV P 44 v = some (.int .i64 len) := by
  rcases h.2.2 with ⟨rfl, rfl⟩ | ⟨b, o, cap, rfl, _⟩
  · unfold lenV; simp only [und44]; rfl
  · unfold lenV; simp only [und44]; rfl
theorem ListR.at_ {H : Hp} {n len : Nat} {v : Value} {xs : List Int} (h : ListR H n v len xs) {i : Nat} (hi : i < len) :
    ∃ b o, indexAddrV P 44 v (.int .i64 i) = some (.pointer (some ⟨b, o, none⟩)) ∧ b < n ∧ loadV P H 3 ⟨b, o, none⟩ = some (.int .i64 (xs.getD i 0)) := by
  rcases h.2.2 with ⟨rfl, rfl⟩ | ⟨b, o, cap, rfl, a, c⟩
  · omega
  · refine ⟨b, o + i, ?_, a, ?_⟩
    · unfold indexAddrV
      simp only [und44, idx_lt hi, sz3]
      simp [addA]
    · exact loadV_int c agg3 (ints_get (getD_some (by rw [h.1]; exact hi)))
theorem ListR.src {H : Hp} {n len : Nat} {v : Value} {xs : List Int} (h : ListR H n v len xs) : srcCells H 1 v = some (ints xs, len) := by
  obtain ⟨h1, _, h3⟩ := h
  rcases h3 with ⟨rfl, rfl⟩ | ⟨b, o, cap, rfl, a, c⟩
  · have : xs = [] := List.length_eq_zero_iff.1 h1
    subst this; rfl
  · unfold srcCells
    simp only [loadN_all c (ints_noHole _) (show (ints xs).length = len * 1 by rw [ints_length, h1, Nat.mul_one])]
theorem VecAt.list {H : Hp} {n0 n len : Nat} {e : TypeId} {v : Value} {xs : List Int} (h : VecAt H n0 n 1 e v len xs) (hx : ∀ x ∈ xs, I64 x) : ListR H n v len xs := by
  obtain ⟨h1, h2⟩ := h
  refine ⟨by omega, hx, ?_⟩
  rcases h2 with h2 | ⟨b, e, a1, a2, a3, a4⟩
  · exact .inl h2
  · exact .inr ⟨b, 0, capV, e, a2, cells_at a4⟩
theorem row44_0 : rowOf P 44 0 [] = some ([], 3) := by kernel_rfl
theorem list_spec (c : Cal) (k : Nat) {H : Hp} {n len : Nat} {v : Value} {xs : List Int} (h : ListR H n v len xs) (hlen : len ≤ 1000) :
    ∃ u H' n', C23_0 c k v H n = some (u, H', n') ∧ n ≤ n' ∧ Keep n H H' ∧ ListR H' n' u len xs := by
  unfold C23_0 B23_0 rowK
  rw [row44_0, bindO_some]
  unfold newK
  dsimp only
  have hk : Keep n H (H.set n (some (.cells [] 3 false none))) := (Keep.refl n H).set (Nat.le_refl _) _
  have hg : (H.set n (some (.cells [] 3 false none))).get n = some (.cells [] 3 false none) := by rw [Tr.get_set, if_pos rfl]
  have h1 := h.keep hk (show n ≤ n + 1 by omega)
  generalize H.set n (some (.cells [] 3 false none)) = H1 at hk hg h1 ⊢
  have hold : loadN H1 ⟨n, 0, none⟩ (0 * 1) = some [] := loadN_all (L := []) (cells_at hg) rfl rfl
  have hbig : bigOk (0 + len) 1 8 = true := by unfold bigOk; simp; omega
  have hb1 : Nat.beq (cellsV (.int .i64 0)).length 1 = true := rfl
  have c0 : Nat.blt 0 capV = true := by decide +kernel
  by_cases h0 : len = 0
  · subst h0
    have hx : xs = [] := List.length_eq_zero_iff.1 h.1
    subst hx
    have ha : appendV P (bare H1 (n + 1)) 44 44 (.slice (some ⟨n, 0, none⟩) 0 0) v = some (.slice (some ⟨n, 0, none⟩) 0 0, bare (H1.set n (some (.cells [] 3 false none))) (n + 1)) := by
      unfold appendV
      have hs : srcCells (bare H1 (n + 1)).H 1 v = some ([], 0) := h1.src
      have hold' : loadN (bare H1 (n + 1)).H ⟨n, 0, none⟩ (0 * 1) = some [] := hold
      simp only [sl44, sz3, by3, zero3, hs, hb1, hold', hbig]
      unfold appendTo
      have hst : storeN (bare H1 (n + 1)).H (addA ⟨n, 0, none⟩ (0 * 1)) [] = some (H1.set n (some (.cells [] 3 false none))) := by
        unfold storeN
        simp only [addA, bare, hg]
        rfl
      have c1 : Nat.ble (0 + 0) 0 = true := rfl
      simp only [c0, c1, hst]
      rfl
    unfold stK
    dsimp only
    rw [ha, bindO_some]
    dsimp only [bare]
    exact ⟨_, _, _, rfl, by omega, hk.set (Nat.le_refl _) _, rfl, h.2.1, .inr ⟨n, 0, 0, rfl, Nat.lt_succ_self _, _, [], by rw [Tr.get_set, if_pos rfl], rfl, fun k v h => by simp [ints] at h⟩⟩
  · have ha : appendV P (bare H1 (n + 1)) 44 44 (.slice (some ⟨n, 0, none⟩) 0 0) v = some (.slice (some ⟨n + 1, 0, none⟩) len capV, bare (H1.set (n + 1) (some (.cells (ints xs) 3 false (some 1)))) (n + 1 + 1)) := by
      unfold appendV
      have hs : srcCells (bare H1 (n + 1)).H 1 v = some (ints xs, len) := h1.src
      have hold' : loadN (bare H1 (n + 1)).H ⟨n, 0, none⟩ (0 * 1) = some [] := hold
      simp only [sl44, sz3, by3, zero3, hs, hb1, hold', hbig]
      unfold appendTo
      have c1 : Nat.ble len 0 = false := by
        cases len with
        | zero => exact absurd rfl h0
        | succ m => rfl
      simp only [c0, c1, growV, bare, pushB, List.nil_append, Nat.zero_add]
    unfold stK
    dsimp only
    rw [ha, bindO_some]
    dsimp only [bare]
    exact ⟨_, _, _, rfl, by omega, hk.set (by omega) _, h.1, h.2.1, .inr ⟨n + 1, 0, capV, rfl, Nat.lt_succ_self _, _, ints xs, by rw [Tr.get_set, if_pos rfl], rfl, fun k v h => by simpa using h⟩⟩
theorem call23 (l : Nat) (a : Value) (H : Hp) (n : Nat) : (cal (l + 1)).call 23 [a] H n = C23_0 (cal l) KK a H n := by kernel_rfl
theorem flat23 : flatF P 23 = false := by kernel_rfl
theorem list_call (l : Nat) {H : Hp} {n len : Nat} {v : Value} {xs : List Int} (h : ListR H n v len xs) (hlen : len ≤ 1000) :
    ∃ u H' n', (∀ k : Value → Hp → Nat → Option ρ, callFK P (cal (l + 1)) 23 [v] H n k = k u H' n') ∧ n ≤ n' ∧ Keep n H H' ∧ ListR H' n' u len xs := by
  obtain ⟨u, H', n', e, h1, h2, h3⟩ := list_spec (cal l) KK h hlen
  refine ⟨u, H', n', fun k => ?_, h1, h2, h3⟩
  unfold callFK
  rw [flat23, call23, e]
  rfl
end Go.Proofs.Ytgojjellogiglaa.spec
end
section
namespace Go.Proofs.Ytgojjellogiglaa.spec
open Go Go.Ev Go.Proofs.Ytgojjellogiglaa.nestFits Go.Proofs.Ytgojjellogiglaa.G
set_option maxRecDepth 100000
variable {ρ : Type}
theorem und121 : P.underlying 121 = some (.array 8 3) := by kernel_rfl
theorem agg121 : isAggT P 121 = some true := by kernel_rfl
theorem sz121 : szT P 121 = some 8 := by kernel_rfl
theorem zero121 : zeroT P 121 = some (.agg ⟨ints (List.replicate 8 0)⟩) := by kernel_rfl
theorem build121 : buildP P 121 [] = some (.agg ⟨ints (List.replicate 8 0)⟩) := by kernel_rfl
theorem slice121 (b : Nat) : sliceV P 121 (.pointer (some ⟨b, 0, none⟩)) none none = some (.slice (some ⟨b, 0, none⟩) 8 8) := by kernel_rfl
noncomputable def valR (r : Res) : Option Value := match r with
  | some (v, _, _) => some v
  | none => none
theorem valR_some {r : Res} {v : Value} (h : valR r = some v) : ∃ H n, r = some (v, H, n) := by
  unfold valR at h
  split at h
  · cases h; exact ⟨_, _, rfl⟩
  · cases h
theorem bare_run (c : Cal) : valR (C101_0 c KK .nil 0) = some (.agg ⟨ints (List.replicate 8 (-1))⟩) := by kernel_rfl
theorem flat101 : flatF P 101 = true := by kernel_rfl
theorem call101 (l : Nat) (H : Hp) (n : Nat) : (cal (l + 1)).call 101 [] H n = C101_0 (cal l) KK H n := by kernel_rfl
theorem bare_call (l : Nat) (H : Hp) (n : Nat) (k : Value → Hp → Nat → Option ρ) : callFK P (cal (l + 1)) 101 [] H n k = k (.agg ⟨ints (List.replicate 8 (-1))⟩) H n := by
  obtain ⟨H', n', e⟩ := valR_some (bare_run (cal l))
  refine callFK_pure flat101 rfl ((call101 ..).trans e) ?_
  simp only [pureV, pureA, pure_ints]
def takesP (js ks : List Int) (nj np nk p : Nat) (kind : Int) : Prop := 0 ≤ kind ∧ kind < nk ∧ fitD js ks nj np p kind.toNat = true
theorem takes_spec (l : Nat) {H : Hp} {n g np nj nk p : Nat} {f : Nat → Value} {js ks : List Int} {x y z : Value} (hf : CellsF H g 859 117 f) (hs : SiteF f x y z js nj) (hz : lenV P 33 z = some (.int .i64 nk)) (hn : ∀ p kd, p < np → kd < nk → NestAt f js ks nj np p kd) (hks : KindsOk ks nk) (hnp : np ≤ 8) (hnk : nk ≤ 3) (hp : p < np) (kind : Int) :
    ∃ r, C102_0 (cal (l + 3)) KK (.pointer (some ⟨g, 0, none⟩)) (.int .i64 p) (.int .i64 kind) H n = some (.bool r, H, n) ∧ (r = true ↔ takesP js ks nj np nk p kind) := by
  unfold C102_0 B102_0
  have lz : loadV P H 33 ⟨g, 0 + 0 + 2, none⟩ = some z := by
    have := hf.load (P := P) (k := 2) agg33 (by omega)
    rw [hs.z] at this; exact this
  rw [binK_some bin_geq]
  unfold takesP
  cases c1 : decide (0 ≤ kind) with
  | false =>
    simp only [guardK_ft, guardK_u, pickV_f, bindO_some]
    exact ⟨false, rfl, ⟨fun h => (by cases h), fun h => absurd h.1 (of_decide_eq_false c1)⟩⟩
  | true =>
    have h0 := of_decide_eq_true c1
    simp only [guardK_tt, nil_ptr, bindO_some, fa117_0, fa35_2, addrV_eq, lz, hz, binK_some bin_lss, pickV_t]
    cases c2 : decide (kind < (nk : Int)) with
    | false =>
      simp only [guardK_ft, guardK_u, pickV_f, bindO_some]
      exact ⟨false, rfl, ⟨fun h => (by cases h), fun h => absurd h.2.1 (of_decide_eq_false c2)⟩⟩
    | true =>
      have h1 := of_decide_eq_true c2
      obtain ⟨kd, rfl⟩ : ∃ kd : Nat, kind = kd := ⟨kind.toNat, by omega⟩
      have hkd : kd < nk := by omega
      obtain ⟨B, hB, ln⟩ := nest_load hf (hn p kd hp hkd) (by omega) (by omega)
      simp only [guardK_tt, nil_ptr, bindO_some, fa117_2, at115 _ _ (show p < 8 by omega), at114 _ _ (show kd < 3 by omega), addrV_eq, ln, fit_call l (shP_len ..) hB.1 (shP_bounded hks hkd hnp hp), pickV_t]
      refine ⟨_, rfl, ?_⟩
      have e : fitD js ks nj np p (kd : Int).toNat = fitD js ks nj np p kd := by rw [Int.toNat_natCast]
      rw [e]
      unfold fitD
      exact ⟨fun h => ⟨h0, h1, h⟩, fun h => h.2.2⟩
theorem call102 (l : Nat) (a b c : Value) (H : Hp) (n : Nat) : (cal (l + 1)).call 102 [a, b, c] H n = C102_0 (cal l) KK a b c H n := by kernel_rfl
theorem takes_call (l : Nat) {H : Hp} {n g np nj nk p : Nat} {f : Nat → Value} {js ks : List Int} {x y z : Value} (hf : CellsF H g 859 117 f) (hs : SiteF f x y z js nj) (hz : lenV P 33 z = some (.int .i64 nk)) (hn : ∀ p kd, p < np → kd < nk → NestAt f js ks nj np p kd) (hks : KindsOk ks nk) (hnp : np ≤ 8) (hnk : nk ≤ 3) (hp : p < np) (kind : Int) :
    ∃ r : Bool, (r = true ↔ takesP js ks nj np nk p kind) ∧ ∀ k : Value → Hp → Nat → Option ρ, callFK P (cal (l + 4)) 102 [.pointer (some ⟨g, 0, none⟩), .int .i64 p, .int .i64 kind] H n k = k (.bool r) H n := by
  obtain ⟨r, e, h⟩ := takes_spec l (n := n) hf hs hz hn hks hnp hnk hp kind
  refine ⟨r, h, fun k => ?_⟩
  unfold callFK
  have : (flatF P 102 && pureL [.pointer (some ⟨g, 0, none⟩), .int .i64 p, .int .i64 kind]) = false := by rw [Bool.and_eq_false_iff]; exact .inr rfl
  rw [this, call102, e]
  rfl
theorem results65_eq : results65 = [.tmp 4, .cell 5 121, .tmp 6] := by kernel_rfl
theorem res65 {H : Hp} {b : Nat} {v : Value} (p e : Value) (h : loadV P H 121 ⟨b, 0, none⟩ = some v) : resV P (Tr.set (Tr.set (Tr.set Tr.nil 6 (some e)) 5 (some (.pointer (some ⟨b, 0, none⟩)))) 4 (some p)) H results65 = some [p, v, e] := by
  rw [results65_eq]
  simp [resV, Tr.get_set, h]
theorem index121 {L : List Int} (hL : L.length = 8) {i : Nat} (hi : i < 8) : indexV P 121 (.agg ⟨ints L⟩) (.int .i64 i) = some (.int .i64 (L.getD i 0)) := by
  unfold indexV
  have a3 : isAggT P 3 = some false := agg3
  simp only [und121, idx_lt hi, sz3, partV, a3]
  rw [Nat.mul_one]
  exact ints_get (getD_some (by omega))
def laidL (ls : List Int) (np : Nat) : List Int := ls ++ List.replicate (8 - np) (-1)
theorem laidL_len {ls : List Int} {np : Nat} (h : ls.length = np) (hnp : np ≤ 8) : (laidL ls np).length = 8 := by unfold laidL; simp [h]; omega
theorem laidL_in {ls : List Int} {np p : Nat} (h : ls.length = np) (hp : p < np) : (laidL ls np).getD p 0 = ls.getD p 0 := by
  unfold laidL
  rw [List.getD_eq_getElem?_getD, List.getElem?_append_left (by omega), ← List.getD_eq_getElem?_getD]
theorem laidL_out {ls : List Int} {np p : Nat} (h : ls.length = np) (hp : np ≤ p) (hp8 : p < 8) : (laidL ls np).getD p 0 = -1 := by
  unfold laidL
  rw [List.getD_eq_getElem?_getD, List.getElem?_append_right (by omega), List.getElem?_replicate, if_pos (by omega)]
  rfl
def laidOk (js ks ls : List Int) (nj np nk : Nat) : Prop := ∀ p, p < np → ls.getD p 0 = -1 ∨ takesP js ks nj np nk p (ls.getD p 0)
theorem splice_ints : ∀ {L X : List Int}, L.length ≤ X.length → splice.over (ints X) (ints L) = some (ints (L ++ X.drop L.length))
  | [], X, _ => by cases X <;> simp [ints, splice.over]
  | a :: L, [], h => by simp at h
  | a :: L, x :: X, h => by
    have ih := splice_ints (L := L) (X := X) (by simpa using h)
    simp only [ints, List.map_cons, splice.over] at ih ⊢
    rw [ih]
    simp
theorem copy_row {H : Hp} {n b np : Nat} {w : Value} {ls X : List Int} {e : TypeId} (hw : ListR H n w np ls) (h1 : 0 < np) (h8 : np ≤ 8) (hX : X.length = 8) (hg : H.get b = some (.cells (ints X) e false none)) :
    copyV P (bare H n) 44 (.slice (some ⟨b, 0, none⟩) 8 8) w = some (.int .i64 np, bare (H.set b (some (.cells (ints (ls ++ X.drop np)) e false none))) n) := by
  obtain ⟨hl, _, hw⟩ := hw
  rcases hw with ⟨_, h0⟩ | ⟨rb, ro, cap, rfl, hr, hc⟩
  · omega
  have hmin' : Nat.min np 8 = np := Nat.min_eq_left h8
  have hld : loadN H ⟨rb, ro, none⟩ (np * 1) = some (ints ls) := loadN_all hc (ints_noHole _) (by rw [ints_length, hl, Nat.mul_one])
  have hsp : splice (ints X) 0 (ints ls) = some (ints (ls ++ X.drop ls.length)) := by
    unfold splice
    exact splice_ints (by omega)
  have hst : storeN H ⟨b, 0, none⟩ (ints ls) = some (H.set b (some (.cells (ints (ls ++ X.drop np)) e false none))) := by
    unfold storeN
    simp only [hg, ints_leaf, if_true, hsp, hl]
  unfold copyV
  simp only [sl44, sz3, bare, hmin', hld, hst]
  rfl
theorem openLaid_loop (l k : Nat) {H : Hp} {n g np nj nk b5 b9 : Nat} {f : Nat → Value} {js ks ls : List Int} {x y z : Value} (hf : CellsF H g 859 117 f) (hs : SiteF f x y z js nj) (hz : lenV P 33 z = some (.int .i64 nk)) (hn : ∀ p kd, p < np → kd < nk → NestAt f js ks nj np p kd) (hks : KindsOk ks nk) (hnp : np ≤ 8) (hnk : nk ≤ 3)
    (hls : ls.length = np) (h5 : ∃ w, H.get b5 = some (.cells w 121 false none) ∧ w.length = 8) (h9 : H.get b9 = some (.cells (ints (laidL ls np)) 121 false none)) (hne : b5 ≠ b9) : ∀ (m i : Nat), i ≤ 8 → 8 - i ≤ m →
    ((∃ p, i ≤ p ∧ p < np ∧ ¬ (ls.getD p 0 = -1 ∨ takesP js ks nj np nk p (ls.getD p 0))) ∧ ∃ H', S65_1 (cal (l + 4)) k m (.pointer (some ⟨b5, 0, none⟩)) (.pointer (some ⟨g, 0, none⟩)) (.pointer (some ⟨b9, 0, none⟩)) (.agg ⟨ints (laidL ls np)⟩) (.int .i64 i) H n = some (.tuple ⟨[.pointer none, .agg ⟨ints (List.replicate 8 0)⟩, .int .i64 2]⟩, H', n) ∧ ∀ b, b ≠ b5 → H'.get b = H.get b) ∨
    ((∀ p, i ≤ p → p < np → ls.getD p 0 = -1 ∨ takesP js ks nj np nk p (ls.getD p 0)) ∧ ∃ H', S65_1 (cal (l + 4)) k m (.pointer (some ⟨b5, 0, none⟩)) (.pointer (some ⟨g, 0, none⟩)) (.pointer (some ⟨b9, 0, none⟩)) (.agg ⟨ints (laidL ls np)⟩) (.int .i64 i) H n = some (.tuple ⟨[.pointer (some ⟨g, 0, none⟩), .agg ⟨ints (laidL ls np)⟩, .int .i64 0]⟩, H', n) ∧ ∀ b, b ≠ b5 → H'.get b = H.get b) := by
  obtain ⟨w5, h5, hw5⟩ := h5
  have body : ∀ (b1 : Value → Value → Value → Value → Value → Hp → Nat → Res) (m i : Nat), i ≤ 8 →
      (i < 8 → ((∃ p, i + 1 ≤ p ∧ p < np ∧ ¬ (ls.getD p 0 = -1 ∨ takesP js ks nj np nk p (ls.getD p 0))) ∧ ∃ H', b1 (.pointer (some ⟨b5, 0, none⟩)) (.pointer (some ⟨g, 0, none⟩)) (.pointer (some ⟨b9, 0, none⟩)) (.agg ⟨ints (laidL ls np)⟩) (.int .i64 ((i + 1 : Nat) : Int)) H n = some (.tuple ⟨[.pointer none, .agg ⟨ints (List.replicate 8 0)⟩, .int .i64 2]⟩, H', n) ∧ ∀ b, b ≠ b5 → H'.get b = H.get b) ∨
        ((∀ p, i + 1 ≤ p → p < np → ls.getD p 0 = -1 ∨ takesP js ks nj np nk p (ls.getD p 0)) ∧ ∃ H', b1 (.pointer (some ⟨b5, 0, none⟩)) (.pointer (some ⟨g, 0, none⟩)) (.pointer (some ⟨b9, 0, none⟩)) (.agg ⟨ints (laidL ls np)⟩) (.int .i64 ((i + 1 : Nat) : Int)) H n = some (.tuple ⟨[.pointer (some ⟨g, 0, none⟩), .agg ⟨ints (laidL ls np)⟩, .int .i64 0]⟩, H', n) ∧ ∀ b, b ≠ b5 → H'.get b = H.get b)) →
      ((∃ p, i ≤ p ∧ p < np ∧ ¬ (ls.getD p 0 = -1 ∨ takesP js ks nj np nk p (ls.getD p 0))) ∧ ∃ H', C65_1 (cal (l + 4)) k m b1 (.pointer (some ⟨b5, 0, none⟩)) (.pointer (some ⟨g, 0, none⟩)) (.pointer (some ⟨b9, 0, none⟩)) (.agg ⟨ints (laidL ls np)⟩) (.int .i64 i) H n = some (.tuple ⟨[.pointer none, .agg ⟨ints (List.replicate 8 0)⟩, .int .i64 2]⟩, H', n) ∧ ∀ b, b ≠ b5 → H'.get b = H.get b) ∨
      ((∀ p, i ≤ p → p < np → ls.getD p 0 = -1 ∨ takesP js ks nj np nk p (ls.getD p 0)) ∧ ∃ H', C65_1 (cal (l + 4)) k m b1 (.pointer (some ⟨b5, 0, none⟩)) (.pointer (some ⟨g, 0, none⟩)) (.pointer (some ⟨b9, 0, none⟩)) (.agg ⟨ints (laidL ls np)⟩) (.int .i64 i) H n = some (.tuple ⟨[.pointer (some ⟨g, 0, none⟩), .agg ⟨ints (laidL ls np)⟩, .int .i64 0]⟩, H', n) ∧ ∀ b, b ≠ b5 → H'.get b = H.get b) := by
    intro b1 m i hi ih
    unfold C65_1 B65_1
    rw [binK_some bin_lss, ifK_d]
    have l8 := laidL_len hls hnp
    by_cases hlt : i < 8
    · rw [if_pos (by omega), index121 l8 hlt, bindO_some, binK_some bin_neq]
      have hI : I64 ((i : Int) + 1) := by unfold I64; omega
      have hcast : ((i : Int) + 1) = ((i + 1 : Nat) : Int) := by omega
      have go : (i < np → ls.getD i 0 = -1 ∨ takesP js ks nj np nk i (ls.getD i 0)) → ∀ r : Res, r = b1 (.pointer (some ⟨b5, 0, none⟩)) (.pointer (some ⟨g, 0, none⟩)) (.pointer (some ⟨b9, 0, none⟩)) (.agg ⟨ints (laidL ls np)⟩) (.int .i64 ((i + 1 : Nat) : Int)) H n →
          ((∃ p, i ≤ p ∧ p < np ∧ ¬ (ls.getD p 0 = -1 ∨ takesP js ks nj np nk p (ls.getD p 0))) ∧ ∃ H', r = some (.tuple ⟨[.pointer none, .agg ⟨ints (List.replicate 8 0)⟩, .int .i64 2]⟩, H', n) ∧ ∀ b, b ≠ b5 → H'.get b = H.get b) ∨
          ((∀ p, i ≤ p → p < np → ls.getD p 0 = -1 ∨ takesP js ks nj np nk p (ls.getD p 0)) ∧ ∃ H', r = some (.tuple ⟨[.pointer (some ⟨g, 0, none⟩), .agg ⟨ints (laidL ls np)⟩, .int .i64 0]⟩, H', n) ∧ ∀ b, b ≠ b5 → H'.get b = H.get b) := by
        rintro hok r rfl
        rcases ih hlt with ⟨⟨p, q1, q2, q3⟩, q4⟩ | ⟨q1, q2⟩
        · exact .inl ⟨⟨p, by omega, q2, q3⟩, q4⟩
        · refine .inr ⟨fun p p1 p2 => ?_, q2⟩
          rcases Nat.eq_or_lt_of_le p1 with z | z
          · subst z; exact hok p2
          · exact q1 p z p2
      cases c1 : decide ((laidL ls np).getD i 0 = -1) with
      | true =>
        simp only [Bool.not_true, guardK_ft, guardK_u, pickV_f, bindO_some, ifK_f, binK_some (bin_add hI), hcast]
        refine go (fun hp => .inl ?_) _ rfl
        rw [← laidL_in hls hp]; exact of_decide_eq_true c1
      | false =>
        have hip : i < np := by
          rcases Nat.lt_or_ge i np with q | q
          · exact q
          · exact absurd (laidL_out hls q hlt) (of_decide_eq_false c1)
        have hv := laidL_in hls hip
        obtain ⟨r, hr, hc⟩ := takes_call (ρ := Value × Hp × Nat) l (n := n) hf hs hz hn hks hnp hnk hip ((laidL ls np).getD i 0)
        rw [hv] at hr c1
        simp only [Bool.not_false, guardK_tt, hc]
        cases r with
        | true =>
          simp only [guardK_tt, not_t, bindO_some, pickV_t, ifK_f, binK_some (bin_add hI), hcast]
          exact go (fun _ => .inr (hr.1 rfl)) _ rfl
        | false =>
          simp only [guardK_tt, not_f, bindO_some, pickV_t, ifK_t]
          have hst := storeN_all (vs := ints (List.replicate 8 0)) h5 (by rw [hw5]; rfl) (ints_leaf _)
          rw [build121, bindO_some, storeP_agg sz121 rfl, hst, bindO_some, res65 _ _ (load_all (t := 121) (s := 8) (L := ints (List.replicate 8 0)) (e := 121) (vec := none) (by rw [Tr.get_set, if_pos rfl]) agg121 sz121 rfl)]
          refine .inl ⟨⟨i, Nat.le_refl _, hip, ?_⟩, _, rfl, fun b hb => by rw [Tr.get_set, if_neg hb]⟩
          rintro (h | h)
          · exact of_decide_eq_false c1 h
          · exact absurd (hr.2 h) (by simp)
    · have lens : (ints (laidL ls np)).length = 8 := by rw [ints_length, l8]
      have hst := storeN_all (vs := ints (laidL ls np)) h5 (by rw [hw5, lens]) (ints_leaf _)
      rw [if_neg (by omega), addrV_eq, bindO_some, load_all h9 agg121 sz121 lens, bindO_some, storeP_agg sz121 lens, hst, bindO_some,
        res65 _ _ (load_all (t := 121) (s := 8) (L := ints (laidL ls np)) (e := 121) (vec := none) (by rw [Tr.get_set, if_pos rfl]) agg121 sz121 lens)]
      exact .inr ⟨fun p p1 p2 => by omega, _, rfl, fun b hb => by rw [Tr.get_set, if_neg hb]⟩
  intro m
  induction m with
  | zero => intro i h1 h2; exact body _ 0 i h1 (fun h => by omega)
  | succ m ih => intro i h1 h2; exact body _ (m + 1) i h1 (fun h => ih (i + 1) (by omega) (by omega))
end Go.Proofs.Ytgojjellogiglaa.spec
end
section
namespace Go.Proofs.Ytgojjellogiglaa.spec
open Go Go.Ev Go.Proofs.Ytgojjellogiglaa.nestFits Go.Proofs.Ytgojjellogiglaa.G
set_option maxRecDepth 100000
variable {ρ : Type}
open Classical in
noncomputable def placedN (np nj nk nl : Nat) (ps js ks ls : List Int) : Int := if faultN np nj nk ps js ks ≠ 0 then faultN np nj nk ps js ks else if nl = np ∧ laidOk js ks ls nj np nk then 0 else 2
def NotLaid (r : Res) (n : Nat) (H : Hp) (e : Int) : Prop := ∃ H' n', r = some (.tuple ⟨[.pointer none, .agg ⟨ints (List.replicate 8 0)⟩, .int .i64 e]⟩, H', n') ∧ n ≤ n' ∧ Keep n H H'
def IsLaid (r : Res) (n : Nat) (H : Hp) (v : Value) (np nj nk : Nat) (js ks ls : List Int) : Prop := ∃ (g : Nat) (x y z : Value) (f : Nat → Value) (H' : Hp) (n' : Nat), r = some (.tuple ⟨[.pointer (some ⟨g, 0, none⟩), .agg ⟨ints (laidL ls np)⟩, .int .i64 0]⟩, H', n') ∧ n ≤ n' ∧ Keep n H H' ∧ n ≤ g ∧ g < n' ∧
  v = .agg ⟨[x, y, z]⟩ ∧ CellsF H' g 859 117 f ∧ SiteF f x y z js nj ∧ ∀ p kd, p < np → kd < nk → NestAt f js ks nj np p kd
theorem openLaid_spec (l : Nat) {np nj nk nl : Nat} {ps js ks ls : List Int} {H : Hp} {n : Nat} {v w : Value} (hg : GroveP H n v np nj nk ps js ks) (hw : ListR H n w nl ls) (hnp : np ≤ 1000) (hnj : nj ≤ 1000) (hnk : nk ≤ 1000) :
    (placedN np nj nk nl ps js ks ls ≠ 0 → NotLaid (C65_0 (cal (l + 6)) KK v w H n) n H (placedN np nj nk nl ps js ks ls)) ∧
    (placedN np nj nk nl ps js ks ls = 0 → IsLaid (C65_0 (cal (l + 6)) KK v w H n) n H v np nj nk js ks ls ∧ nl = np ∧ laidOk js ks ls nj np nk ∧ faultN np nj nk ps js ks = 0) := by
  have hg0 := hg
  obtain ⟨x, y, z, rfl, h1, h2, h3⟩ := hg
  unfold C65_0 B65_0
  generalize hS : S65_1 (cal (l + 6)) KK KK = S
  rw [boxK_eq, allocK_eq zero121]
  simp only [cellsV, ptr]
  have hk : Keep n H ((H.set n (some (.cells [x, y, z] 35 false none))).set (n + 1) (some (.cells (ints (List.replicate 8 0)) 121 false none))) := ((Keep.refl n H).set (Nat.le_refl _) _).set (by omega) _
  have hb : CellsAt ((H.set n (some (.cells [x, y, z] 35 false none))).set (n + 1) (some (.cells (ints (List.replicate 8 0)) 121 false none))) n 0 [x, y, z] := CellsAt.new.set (by omega)
  have hr : ((H.set n (some (.cells [x, y, z] 35 false none))).set (n + 1) (some (.cells (ints (List.replicate 8 0)) 121 false none))).get (n + 1) = some (.cells (ints (List.replicate 8 0)) 121 false none) := by rw [Tr.get_set, if_pos rfl]
  generalize (H.set n (some (.cells [x, y, z] 35 false none))).set (n + 1) (some (.cells (ints (List.replicate 8 0)) 121 false none)) = H1 at hk hb hr ⊢
  have lg : loadV P H1 35 ⟨n, 0, none⟩ = some (.agg ⟨[x, y, z]⟩) := loadV_agg (o := 0) (k := 0) hb agg35 sz35 (by simp) (by simp [h1.hole.1, h2.hole.1, h3.hole.1])
  obtain ⟨o1, o2⟩ := open_spec l (hg0.keep hk (show n ≤ n + 1 + 1 by omega)) hnp hnj hnk
  rw [addrV_eq, bindO_some, lg, bindO_some, open_call]
  have bad : ∀ (H2 : Hp) (n2 : Nat) (e : Int), n + 1 + 1 ≤ n2 → Keep (n + 1 + 1) H1 H2 → NotLaid (bindO (storeP P 121 (.pointer (some ⟨n + 1, 0, none⟩)) (.agg ⟨ints (List.replicate 8 0)⟩) H2) fun H_p =>
      bindO (resV P (Tr.set (Tr.set (Tr.set Tr.nil 6 (some (.int .i64 e))) 5 (some (.pointer (some ⟨n + 1, 0, none⟩)))) 4 (some (Value.pointer none))) H_p results65) fun v_r => some (oneV v_r, H_p, n2)) n H e := by
    intro H2 n2 e hn hk2
    have hr2 := (hk2 (n + 1) (by omega)).trans hr
    rw [storeP_agg sz121 rfl, storeN_all hr2 rfl (ints_leaf _), bindO_some, res65 _ _ (load_all (t := 121) (s := 8) (L := ints (List.replicate 8 0)) (e := 121) (vec := none) (by rw [Tr.get_set, if_pos rfl]) agg121 sz121 rfl)]
    exact ⟨_, _, rfl, by omega, (hk.trans hk2 (by omega)).set (by omega) _⟩
  by_cases he : faultN np nj nk ps js ks = 0
  · have good := good_of he
    obtain ⟨g, x', y', z', f, H2, n2, e1, e2, e3, e4, e5, e6, e7, e8, e9⟩ := o2 he
    simp only [Value.agg.injEq, Array.mk.injEq, List.cons.injEq, and_true] at e6
    obtain ⟨rfl, rfl, rfl⟩ := e6
    have t0 : tupV (.tuple ⟨[.pointer (some ⟨g, 0, none⟩), .int .i64 0]⟩) 0 = some (.pointer (some ⟨g, 0, none⟩)) := rfl
    have t1 : tupV (.tuple ⟨[.pointer (some ⟨g, 0, none⟩), .int .i64 0]⟩) 1 = some (.int .i64 0) := rfl
    have d0 : decide ((0 : Int) = 0) = true := rfl
    have lx : loadV P H2 31 ⟨g, 0 + 0 + 0, none⟩ = some x := by
      have := e7.load (P := P) (k := 0) agg31 (by omega)
      rw [e8.x] at this; exact this
    have hlx : lenV P 31 x = some (.int .i64 np) := h1.len_eq und31
    have hlz : lenV P 33 z = some (.int .i64 nk) := h3.len_eq und33
    have kk : Keep n H H2 := hk.trans e3 (by omega)
    have hw2 := hw.keep kk (show n ≤ n2 by omega)
    rw [e1, bindO_some, t0, bindO_some, t1, bindO_some, binK_some bin_neq, d0, Bool.not_true, ifK_f, hw.len_eq, bindO_some, nil_ptr, bindO_some, fa117_0, bindO_some, fa35_0, bindO_some, addrV_eq, bindO_some, lx, bindO_some, hlx, bindO_some, binK_some bin_neq]
    unfold placedN
    rw [if_neg (fun h => h he)]
    by_cases hl : nl = np
    · subst hl
      have dl : decide ((nl : Int) = (nl : Int)) = true := decide_eq_true rfl
      have l8 := laidL_len hw.1 good.np8
      have lens : (ints (laidL ls nl)).length = 8 := by rw [ints_length, l8]
      rw [dl, Bool.not_true, ifK_f, bare_call (l + 5)]
      obtain ⟨H3, k1, k2, k3⟩ := spill (P := P) (ρ := Value × Hp × Nat) (H := H2) (n := n2) (L := ints (List.replicate 8 (-1))) zero121 rfl sz121 rfl (ints_leaf _)
      rw [k3, slice121, bindO_some]
      have hw3 := hw2.keep k1 (show n2 ≤ n2 + 1 by omega)
      unfold stK
      rw [copy_row hw3 (by have := good.np1; omega) good.np8 rfl k2, bindO_some]
      dsimp only [bare]
      have hrow : (H3.set n2 (some (.cells (ints (ls ++ (List.replicate 8 (-1)).drop nl)) 121 false none))).get n2 = some (.cells (ints (laidL ls nl)) 121 false none) := by
        rw [Tr.get_set, if_pos rfl, List.drop_replicate]; rfl
      have kk3 : Keep n2 H2 (H3.set n2 (some (.cells (ints (ls ++ (List.replicate 8 (-1)).drop nl)) 121 false none))) := k1.set (Nat.le_refl _) _
      generalize H3.set n2 (some (.cells (ints (ls ++ (List.replicate 8 (-1)).drop nl)) 121 false none)) = H4 at hrow kk3 ⊢
      rw [addrV_eq, bindO_some, load_all hrow agg121 sz121 lens, bindO_some, ← hS]
      have hf4 := e7.keep kk3 e5
      have hr4 : H4.get (n + 1) = some (.cells (ints (List.replicate 8 0)) 121 false none) := by rw [kk3 _ (by omega), e3 _ (by omega)]; exact hr
      rcases openLaid_loop (l + 2) KK (n := n2 + 1) hf4 e8 hlz e9 good.kinds good.np8 good.nk3 hw.1 ⟨_, hr4, rfl⟩ hrow (by omega) KK 0 (by omega) (by unfold KK; omega) with ⟨⟨p, q1, q2, q3⟩, H5, q4, q5⟩ | ⟨q1, H5, q4, q5⟩
      · have hno : ¬ (nl = nl ∧ laidOk js ks ls nj nl nk) := fun h => q3 (h.2 p q2)
        rw [if_neg hno]
        refine ⟨fun _ => ⟨H5, n2 + 1, q4, by omega, fun b hb => ?_⟩, fun h => by omega⟩
        rw [q5 b (by omega), kk3 b (by omega), kk b hb]
      · have hyes : nl = nl ∧ laidOk js ks ls nj nl nk := ⟨rfl, fun p hp => q1 p (Nat.zero_le _) hp⟩
        rw [if_pos hyes]
        refine ⟨fun h => absurd rfl h, fun _ => ⟨⟨g, x, y, z, f, H5, n2 + 1, q4, by omega, fun b hb => ?_, by omega, by omega, rfl, ?_, e8, e9⟩, rfl, hyes.2, he⟩⟩
        · rw [q5 b (by omega), kk3 b (by omega), kk b hb]
        · obtain ⟨c, a1, a2, a3⟩ := hf4
          exact ⟨c, by rw [q5 g (by omega)]; exact a1, a2, a3⟩
    · have dl : decide ((nl : Int) = (np : Int)) = false := decide_eq_false (by omega)
      have hno : ¬ (nl = np ∧ laidOk js ks ls nj np nk) := fun h => hl h.1
      rw [dl, Bool.not_false, ifK_t, if_neg hno, build121, bindO_some]
      exact ⟨fun _ => bad H2 n2 2 e2 e3, fun h => by omega⟩
  · obtain ⟨H2, n2, e1, e2, e3⟩ := o1 he
    have t0 : tupV (.tuple ⟨[.pointer none, .int .i64 (faultN np nj nk ps js ks)]⟩) 0 = some (.pointer none) := rfl
    have t1 : tupV (.tuple ⟨[.pointer none, .int .i64 (faultN np nj nk ps js ks)]⟩) 1 = some (.int .i64 (faultN np nj nk ps js ks)) := rfl
    unfold placedN
    rw [if_pos he, e1, bindO_some, t0, bindO_some, t1, bindO_some, binK_some bin_neq, decide_eq_false he, Bool.not_false, ifK_t, build121, bindO_some]
    exact ⟨fun _ => bad H2 n2 _ e2 e3, fun h => absurd h he⟩
theorem flat65 : flatF P 65 = false := by kernel_rfl
theorem call65 (l : Nat) (a b : Value) (H : Hp) (n : Nat) : (cal (l + 1)).call 65 [a, b] H n = C65_0 (cal l) KK a b H n := by kernel_rfl
theorem openLaid_call (l : Nat) (v w : Value) (H : Hp) (n : Nat) (k : Value → Hp → Nat → Option ρ) : callFK P (cal (l + 7)) 65 [v, w] H n k = bindO (C65_0 (cal (l + 6)) KK v w H n) fun r => k r.1 r.2.1 r.2.2 := by
  unfold callFK
  rw [flat65, call65]
  rfl
end Go.Proofs.Ytgojjellogiglaa.spec
end
section
namespace Go.Ev
open Go
variable {P : Program} {ρ : Type}
theorem splice_one {a : Int} : ∀ {X : List Int} {o : Nat}, o < X.length → splice (ints X) o [.int .i64 a] = some (ints (X.set o a))
  | [], _, h => by simp at h
  | x :: X, 0, _ => by
    unfold splice
    cases X <;> simp [ints, splice.over]
  | x :: X, o + 1, h => by
    have ih := splice_one (a := a) (X := X) (o := o) (by simpa using h)
    unfold splice
    simp only [ints, List.map_cons, List.set_cons_succ] at ih ⊢
    rw [ih]
theorem store_one {a : Int} {X : List Int} {o g : Nat} {H : Hp} {e : TypeId} {vec : Option Nat} (h : H.get g = some (.cells (ints X) e false vec)) (ho : o < X.length) :
    storeN H ⟨g, o, none⟩ [.int .i64 a] = some (H.set g (some (.cells (ints (X.set o a)) e false vec))) := by
  unfold storeN
  simp only [h, splice_one ho]
  rfl
end Go.Ev
end
section
namespace Go.Proofs.Ytgojjellogiglaa.spec
open Go Go.Ev Go.Proofs.Ytgojjellogiglaa.nestFits Go.Proofs.Ytgojjellogiglaa.G
set_option maxRecDepth 100000
variable {ρ : Type}
end Go.Proofs.Ytgojjellogiglaa.spec
end
section
namespace Go.Proofs.Ytgojjellogiglaa.spec
open Go Go.Ev Go.Proofs.Ytgojjellogiglaa.nestFits Go.Proofs.Ytgojjellogiglaa.G
set_option maxRecDepth 100000
variable {ρ : Type}
theorem flat74 : flatF P 74 = false := by kernel_rfl
theorem call74 (l : Nat) (a b : Value) (H : Hp) (n : Nat) : (cal (l + 1)).call 74 [a, b] H n = C74_0 (cal l) KK a b H n := by kernel_rfl
theorem call104 (l : Nat) (a b c : Value) (H : Hp) (n : Nat) : (cal (l + 1)).call 104 [a, b, c] H n = C104_0 (cal l) KK a b c H n := by kernel_rfl
theorem placed_call (l : Nat) (g : Nat) {L : List Int} (H : Hp) (n : Nat) (k : Value → Hp → Nat → Option ρ) : callFK P (cal (l + 1)) 74 [.pointer (some ⟨g, 0, none⟩), .agg ⟨ints L⟩] H n k =
    k (.func (.func 104) ⟨[]⟩ ⟨[.pointer (some ⟨n + 1, 0, none⟩), .pointer (some ⟨n, 0, none⟩)]⟩) ((H.set n (some (.cells [.pointer (some ⟨g, 0, none⟩)] 105 false none))).set (n + 1) (some (.cells (ints L) 121 false none))) (n + 2) := by
  unfold callFK
  rw [flat74, call74]
  rfl
end Go.Proofs.Ytgojjellogiglaa.spec
end
section
namespace Go.Proofs.Ytgojjellogiglaa.spec
open Go Go.Ev Go.Proofs.Ytgojjellogiglaa.nestFits Go.Proofs.Ytgojjellogiglaa.G
set_option maxRecDepth 100000
variable {ρ : Type}
def KindsIn (L : List Int) (np nk : Nat) : Prop := ∀ i, i < 8 → L.getD i 0 = -1 ∨ (i < np ∧ ∃ kd : Nat, kd < nk ∧ L.getD i 0 = kd)
theorem iter104_loop (c : Cal) (k : Nat) (yv : Value) (sb g np nj nk : Nat) (js ks L : List Int) (hL : L.length = 8) (hK : KindsIn L np nk) (hnp : np ≤ 8) (hnk : nk ≤ 3) (Inv : Nat → Hp → Nat → Prop)
    (hR : ∀ i H n, Inv i H n → loadV P H 105 ⟨sb, 0, none⟩ = some (.pointer (some ⟨g, 0, none⟩)) ∧ ∀ p kd, p < np → kd < nk → ∃ B, BoundsTo (ks.getD (kd * 5) 0) (shP js ks nj np p kd) B 8 ∧ loadV P H 113 ⟨g, 0 + 67 + p * 99 + kd * 33, none⟩ = some (.agg ⟨ints (nestL (ks.getD (kd * 5) 0) (shP js ks nj np p kd) B)⟩))
    (hY : ∀ (i : Nat) (H : Hp) (n kd : Nat) (B : List Int), Inv i H n → i < np → kd < nk → L.getD i 0 = kd → BoundsTo (ks.getD (kd * 5) 0) (shP js ks nj np i kd) B 8 →
      ∃ H' n', (∀ k : Value → Hp → Nat → Res, callVK P c yv [.int .i64 i, .agg ⟨ints (nestL (ks.getD (kd * 5) 0) (shP js ks nj np i kd) B)⟩] H n k = k (.bool true) H' n') ∧ Inv (i + 1) H' n')
    (hSkip : ∀ (i : Nat) (H : Hp) (n : Nat), Inv i H n → L.getD i 0 = -1 → Inv (i + 1) H n) : ∀ (m i : Nat) (H : Hp) (n : Nat), Inv i H n → i ≤ 8 → 8 - i ≤ m →
    ∃ H' n', S104_1 c k m yv (.pointer (some ⟨sb, 0, none⟩)) (.agg ⟨ints L⟩) (.int .i64 i) H n = some (.tuple ⟨[]⟩, H', n') ∧ Inv 8 H' n' := by
  have body : ∀ (b1 : Value → Value → Value → Value → Hp → Nat → Res) (m i : Nat) (H : Hp) (n : Nat), Inv i H n → i ≤ 8 →
      (∀ H' n', Inv (i + 1) H' n' → i < 8 → ∃ H2 n2, b1 yv (.pointer (some ⟨sb, 0, none⟩)) (.agg ⟨ints L⟩) (.int .i64 ((i + 1 : Nat) : Int)) H' n' = some (.tuple ⟨[]⟩, H2, n2) ∧ Inv 8 H2 n2) →
      ∃ H' n', C104_1 c k m b1 yv (.pointer (some ⟨sb, 0, none⟩)) (.agg ⟨ints L⟩) (.int .i64 i) H n = some (.tuple ⟨[]⟩, H', n') ∧ Inv 8 H' n' := by
    intro b1 m i H n hI hi ih
    unfold C104_1 B104_1
    rw [binK_some bin_lss, ifK_d]
    by_cases hlt : i < 8
    · have hI1 : I64 ((i : Int) + 1) := by unfold I64; omega
      have hcast : ((i : Int) + 1) = ((i + 1 : Nat) : Int) := by omega
      rw [if_pos (by omega), index121 hL hlt, bindO_some, binK_some bin_neq]
      rcases hK i hlt with h | ⟨hip, kd, hkd, h⟩
      · have hd : decide (L.getD i 0 = -1) = true := decide_eq_true h
        simp only [hd, Bool.not_true, guardK_ft, guardK_u, pickV_f, bindO_some, ifK_f, binK_some (bin_add hI1), hcast]
        exact ih H n (hSkip i H n hI h) hlt
      · have hd : decide (L.getD i 0 = -1) = false := decide_eq_false (by omega)
        obtain ⟨r1, r2⟩ := hR _ _ _ hI
        obtain ⟨B, hB, hn⟩ := r2 i kd hip hkd
        obtain ⟨H1, n1, e1, e2⟩ := hY i H n kd B hI hip hkd h hB
        rw [hd, h]
        simp only [Bool.not_false, guardK_tt, addrV_eq, bindO_some, r1, nil_ptr, fa117_2, at115 _ _ hlt, at114 _ _ (show kd < 3 by omega), hn, e1, not_t, pickV_t, ifK_f, binK_some (bin_add hI1), hcast]
        exact ih H1 n1 e2 hlt
    · rw [if_neg (by omega)]
      have hi' : i = 8 := by omega
      subst hi'
      exact ⟨H, n, rfl, hI⟩
  intro m
  induction m with
  | zero => intro i H n h1 h2 h3; exact body _ 0 i H n h1 h2 (fun _ _ _ h => by omega)
  | succ m ih => intro i H n h1 h2 h3; exact body _ (m + 1) i H n h1 h2 (fun H' n' q1 q2 => ih (i + 1) H' n' q1 (by omega) (by omega))
noncomputable def bsum (js ks L : List Int) (nj np i e q : Nat) : Int := sumTo (fun p => if L.getD p 0 = -1 then 0 else ext (ks.getD ((L.getD p 0).toNat * 5) 0) (shP js ks nj np p (L.getD p 0).toNat) e q) i
theorem ext_mild {y : Int} {S : List Int} (hS : Bounded S) (hy : 0 ≤ y ∧ y ≤ 1000) {e q : Nat} (he : e < 2) : -10000 ≤ ext y S e q ∧ ext y S e q ≤ 10000 := by
  obtain ⟨a1, a2⟩ := hS (q * 2 + e)
  obtain ⟨b1, b2⟩ := hS (q * 2 + (1 - e))
  obtain ⟨c1, c2⟩ := total_range hS (1 - e)
  unfold ext
  match e, he with
  | 0, _ => unfold lim; simp only at *; omega
  | 1, _ => unfold lim; simp only at *; omega
theorem sumTo_mild {f : Nat → Int} {c : Int} (hc : 0 ≤ c) : ∀ {i : Nat}, (∀ k, k < i → -c ≤ f k ∧ f k ≤ c) → -(c * i) ≤ sumTo f i ∧ sumTo f i ≤ c * i
  | 0, _ => by simp [sumTo]
  | i + 1, h => by
    obtain ⟨h1, h2⟩ := sumTo_mild hc (i := i) (fun k hk => h k (by omega))
    obtain ⟨g1, g2⟩ := h i (by omega)
    simp only [sumTo]
    have : c * ((i + 1 : Nat) : Int) = c * i + c := by rw [Int.natCast_add, Int.mul_add]; simp
    omega
theorem bsum_mild {js ks L : List Int} {nj np nk i e q : Nat} (hks : KindsOk ks nk) (hnp : np ≤ 8) (hK : KindsIn L np nk) (hi : i ≤ 8) (he : e < 2) : -1000000 ≤ bsum js ks L nj np i e q ∧ bsum js ks L nj np i e q ≤ 1000000 := by
  have h := sumTo_mild (f := fun p => if L.getD p 0 = -1 then 0 else ext (ks.getD ((L.getD p 0).toNat * 5) 0) (shP js ks nj np p (L.getD p 0).toNat) e q) (c := 10000) (by omega) (i := i) (fun p hp => by
    split
    · omega
    · rename_i hne
      rcases hK p (by omega) with h | ⟨hip, kd, hkd, h⟩
      · exact absurd h hne
      · rw [h, Int.toNat_natCast]
        obtain ⟨y1, _, _⟩ := hks kd hkd
        exact ext_mild (shP_bounded hks hkd hnp hip) y1 he)
  unfold bsum
  omega
end Go.Proofs.Ytgojjellogiglaa.spec
end
section
namespace Go.Proofs.Ytgojjellogiglaa.spec
open Go Go.Ev Go.Proofs.Ytgojjellogiglaa.nestFits Go.Proofs.Ytgojjellogiglaa.G
set_option maxRecDepth 100000
variable {ρ : Type}
theorem laid_kinds {js ks ls : List Int} {nj np nk : Nat} (hl : ls.length = np) (hok : laidOk js ks ls nj np nk) : KindsIn (laidL ls np) np nk := by
  intro i hi
  rcases Nat.lt_or_ge i np with h | h
  · rw [laidL_in hl h]
    rcases hok i h with q | ⟨q1, q2, _⟩
    · exact .inl q
    · exact .inr ⟨h, (ls.getD i 0).toNat, by omega, by omega⟩
  · exact .inl (laidL_out hl h hi)
end Go.Proofs.Ytgojjellogiglaa.spec
end
section
namespace Go.Proofs.Ytgojjellogiglaa.spec
open Go Go.Ev Go.Proofs.Ytgojjellogiglaa.nestFits Go.Proofs.Ytgojjellogiglaa.G
set_option maxRecDepth 100000
variable {ρ : Type}
structure FL (H : Hp) (base n g b9 : Nat) (f : Nat → Value) (X : List Int) (u4 u5 : Value) (q4 q5 : List Int) : Prop where
  site : CellsF H g 859 117 f
  row : H.get b9 = some (.cells (ints X) 111 false none)
  gl : g < base
  bl : b9 < base
  bn : base ≤ n
  v4 : VecAt H base n 1 3 u4 q4.length q4
  v5 : VecAt H base n 1 3 u5 q5.length q5
  off : ∀ k, blockIs u4 k → ¬ blockIs u5 k
theorem FL.keep {H H' : Hp} {base n m g b9 : Nat} {f : Nat → Value} {X : List Int} {u4 u5 : Value} {q4 q5 : List Int} (h : FL H base n g b9 f X u4 u5 q4 q5) (hk : Keep n H H') (hm : n ≤ m) : FL H' base m g b9 f X u4 u5 q4 q5 := by
  obtain ⟨h1, h2, h3, h4, h5, h6, h7, h8⟩ := h
  exact ⟨h1.keep hk (by omega), (hk b9 (by omega)).trans h2, h3, h4, by omega, h6.same hm fun b hb _ => hk b hb, h7.same hm fun b hb _ => hk b hb, h8⟩
end Go.Proofs.Ytgojjellogiglaa.spec
end
section
namespace Go.Proofs.Ytgojjellogiglaa.spec
open Go Go.Ev Go.Proofs.Ytgojjellogiglaa.nestFits Go.Proofs.Ytgojjellogiglaa.G
set_option maxRecDepth 100000
variable {ρ : Type}
theorem guardD_ff {op : KD ρ → Option ρ} {ex : Extra} {H : Hp} {n : Nat} {k : KD ρ} : guardD (.bool false) false op ex H n k = op k := rfl
theorem guardD_tf {op : KD ρ → Option ρ} {ex : Extra} {H : Hp} {n : Nat} {k : KD ρ} : guardD (.bool true) false op ex H n k = k undef ex H n := rfl
theorem guardD_u {w : Bool} {op : KD ρ → Option ρ} {ex : Extra} {H : Hp} {n : Nat} {k : KD ρ} : guardD undef w op ex H n k = k undef ex H n := rfl
theorem isLayout_loop (l k : Nat) {np nj nk : Nat} {ps js ks ls : List Int} (good : Good np nj nk ps js ks) (hjs : js.length = nj * 2) (g : Nat) (x y z w : Value) :
    ∀ (m i : Nat) (H : Hp) (n : Nat), g < n → CellsAt H g 0 [x, y, z] → GroveI H n (.agg ⟨[x, y, z]⟩) np nj nk ps js ks → ListR H n w np ls → i ≤ np → np - i ≤ m →
    ∃ r, Ret (S58_1 (cal (l + 4)) k m w (.pointer (some ⟨g, 0, none⟩)) (.int .i64 i) H n) n H (.bool r) ∧ (r = true ↔ ∀ p, i ≤ p → p < np → ls.getD p 0 = -1 ∨ takesP js ks nj np nk p (ls.getD p 0)) := by
  have body : ∀ (b1 : Value → Value → Value → Hp → Nat → Res) (m i : Nat) (H : Hp) (n : Nat), g < n → CellsAt H g 0 [x, y, z] → GroveI H n (.agg ⟨[x, y, z]⟩) np nj nk ps js ks → ListR H n w np ls → i ≤ np →
      (∀ H' n', n ≤ n' → Keep n H H' → i < np → ∃ r, Ret (b1 w (.pointer (some ⟨g, 0, none⟩)) (.int .i64 ((i + 1 : Nat) : Int)) H' n') n' H' (.bool r) ∧ (r = true ↔ ∀ p, i + 1 ≤ p → p < np → ls.getD p 0 = -1 ∨ takesP js ks nj np nk p (ls.getD p 0))) →
      ∃ r, Ret (C58_1 (cal (l + 4)) k m b1 w (.pointer (some ⟨g, 0, none⟩)) (.int .i64 i) H n) n H (.bool r) ∧ (r = true ↔ ∀ p, i ≤ p → p < np → ls.getD p 0 = -1 ∨ takesP js ks nj np nk p (ls.getD p 0)) := by
    intro b1 m i H n hgn hb hg hw hi ih
    have np8 := good.np8
    have nk3 := good.nk3
    have nj16 := good.nj16
    unfold C58_1 B58_1
    rw [hw.len_eq, bindO_some, binK_some bin_lss, ifK_d]
    by_cases hlt : i < np
    · obtain ⟨rb, o, hix, _, hld⟩ := hw.at_ hlt
      have hI : I64 ((i : Int) + 1) := by unfold I64; omega
      have hcast : ((i : Int) + 1) = ((i + 1 : Nat) : Int) := by omega
      have go : (ls.getD i 0 = -1 ∨ takesP js ks nj np nk i (ls.getD i 0)) → ∀ (H' : Hp) (n' : Nat), n ≤ n' → Keep n H H' →
          ∃ r, Ret (b1 w (.pointer (some ⟨g, 0, none⟩)) (.int .i64 ((i + 1 : Nat) : Int)) H' n') n H (.bool r) ∧ (r = true ↔ ∀ p, i ≤ p → p < np → ls.getD p 0 = -1 ∨ takesP js ks nj np nk p (ls.getD p 0)) := by
        intro hok H' n' h1 h2
        obtain ⟨r, ⟨H2, n2, e1, e2, e3⟩, e4⟩ := ih H' n' h1 h2 hlt
        refine ⟨r, ⟨H2, n2, e1, by omega, h2.trans e3 h1⟩, e4.trans ⟨fun h p q1 q2 => ?_, fun h p q1 q2 => h p (by omega) q2⟩⟩
        rcases Nat.eq_or_lt_of_le q1 with q | q
        · subst q; exact hok
        · exact h p q q2
      have no : ¬ (ls.getD i 0 = -1 ∨ takesP js ks nj np nk i (ls.getD i 0)) → ∀ (H' : Hp) (n' : Nat), n ≤ n' → Keep n H H' →
          ∃ r, Ret (some (Value.bool false, H', n')) n H (.bool r) ∧ (r = true ↔ ∀ p, i ≤ p → p < np → ls.getD p 0 = -1 ∨ takesP js ks nj np nk p (ls.getD p 0)) :=
        fun hno H' n' h1 h2 => ⟨false, ⟨H', n', rfl, h1, h2⟩, ⟨fun h => (by cases h), fun h => absurd (h i (Nat.le_refl _) hlt) hno⟩⟩
      rw [if_pos (by omega), hix, bindO_some, addrV_eq, bindO_some, hld, bindO_some, binK_some bin_neq]
      cases c1 : decide (ls.getD i 0 = -1) with
      | true =>
        simp only [Bool.not_true, guardD_ft, guardD_u, pickV_f, bindO_some, ifK_f, binK_some (bin_add hI), hcast]
        exact go (.inl (of_decide_eq_true c1)) H n (Nat.le_refl _) (Keep.refl _ _)
      | false =>
        have hg0 := hg
        obtain ⟨x', y', z', hxyz, h1, h2, h3⟩ := hg.eq
        cases hxyz
        have lz : loadV P H 24 ⟨g, 0 + 2, none⟩ = some z := loadV_scalar hb agg24 rfl h3.hole.1 h3.hole.2
        have elz : lenV P 24 z = some (.int .i64 nk) := h3.len_eq und24
        have hIk : I64 ((nk : Int) - 1) := by unfold I64; omega
        have l26 := load26 hb h1.hole.1 h2.hole.1 h3.hole.1
        simp only [Bool.not_false, guardD_tt, hix, bindO_some, addrV_eq, hld, fa26_2, lz, elz, binK_some (bin_sub hIk), in_call (l + 3)]
        cases c2 : decide (0 ≤ ls.getD i 0 ∧ ls.getD i 0 ≤ (nk : Int) - 1) with
        | false =>
          simp only [not_f, bindO_some, guardD_tf, pickV_t, ifK_t]
          refine no ?_ H n (Nat.le_refl _) (Keep.refl _ _)
          rintro (h | ⟨q1, q2, _⟩)
          · exact of_decide_eq_false c1 h
          · exact of_decide_eq_false c2 ⟨q1, by omega⟩
        | true =>
          obtain ⟨p1, p2⟩ := of_decide_eq_true c2
          obtain ⟨kd, hkd⟩ : ∃ kd : Nat, ls.getD i 0 = kd := ⟨(ls.getD i 0).toNat, by omega⟩
          have hk : kd < nk := by omega
          obtain ⟨r, H2, n2, d1, d2, d3, d4⟩ := fitsR_call (ρ := Value × Hp × Nat) l (show nj ≤ KK by unfold KK; omega) (show np ≤ 100 by omega) kd hk (i : Int) good.small hg0
          rw [hkd] at c1
          simp only [not_t, bindO_some, guardD_ff, hix, addrV_eq, hld, l26, hkd, d2]
          have ag := fits_agree good hjs hlt hk
          have tk : takesP js ks nj np nk i (kd : Int) ↔ r = true := by
            unfold takesP
            rw [Int.toNat_natCast, ag, d1]
            exact ⟨fun h => h.2.2, fun h => ⟨by omega, by omega, h⟩⟩
          cases r with
          | true =>
            simp only [not_t, bindO_some, pickV_t, pickV_f, ifK_f, binK_some (bin_add hI), hcast]
            refine go ?_ H2 n2 d3 d4
            rw [hkd]; exact .inr (tk.2 rfl)
          | false =>
            simp only [not_f, bindO_some, pickV_t, pickV_f, ifK_t]
            refine no ?_ H2 n2 d3 d4
            rw [hkd]
            rintro (h | h)
            · exact of_decide_eq_false c1 h
            · exact absurd (tk.1 h) (by simp)
    · rw [if_neg (by omega)]
      exact ⟨true, ⟨H, n, rfl, Nat.le_refl _, Keep.refl _ _⟩, ⟨fun _ p q1 q2 => by omega, fun _ => rfl⟩⟩
  intro m
  induction m with
  | zero =>
    intro i H n h1 h2 h3 h4 h5 h6
    exact body _ 0 i H n h1 h2 h3 h4 h5 (fun _ _ _ _ h => by omega)
  | succ m ih =>
    intro i H n h1 h2 h3 h4 h5 h6
    exact body _ (m + 1) i H n h1 h2 h3 h4 h5 (fun H' n' q1 q2 q3 => ih (i + 1) H' n' (by omega) (h2.keep q2 h1) (h3.keep q2 q1) (h4.keep q2 q1) (by omega) (by omega))
theorem isLayout_spec (l : Nat) {np nj nk nl : Nat} {ps js ks ls : List Int} (good : Good np nj nk ps js ks) {H : Hp} {n : Nat} {v w : Value} (hg : GroveI H n v np nj nk ps js ks) (hw : ListR H n w nl ls) :
    ∃ r, Ret (C58_0 (cal (l + 4)) KK v w H n) n H (.bool r) ∧ (r = true ↔ nl = np ∧ laidOk js ks ls nj np nk) := by
  have hg0 := hg
  obtain ⟨x, y, z, rfl, h1, h2, h3⟩ := hg.eq
  unfold C58_0 B58_0
  generalize hS : S58_1 (cal (l + 4)) KK KK = S
  rw [boxK_eq]
  simp only [cellsV, ptr]
  have hk : Keep n H (H.set n (some (.cells [x, y, z] 26 false none))) := (Keep.refl n H).set (Nat.le_refl _) _
  have hb : CellsAt (H.set n (some (.cells [x, y, z] 26 false none))) n 0 [x, y, z] := CellsAt.new
  generalize H.set n (some (.cells [x, y, z] 26 false none)) = H1 at hk hb ⊢
  have lx : loadV P H1 22 ⟨n, 0 + 0, none⟩ = some x := loadV_scalar hb agg22 rfl h1.hole.1 h1.hole.2
  have elx : lenV P 22 x = some (.int .i64 np) := h1.len_eq und22
  rw [hw.len_eq, bindO_some, fa26_0, bindO_some, addrV_eq, bindO_some, lx, bindO_some, elx, bindO_some, binK_some bin_neq]
  cases c1 : decide ((nl : Int) = (np : Int)) with
  | false =>
    rw [Bool.not_false, ifK_t]
    exact ⟨false, ⟨H1, n + 1, rfl, by omega, hk⟩, ⟨fun h => (by cases h), fun h => absurd (by omega) (of_decide_eq_false c1)⟩⟩
  | true =>
    have e : nl = np := by have := of_decide_eq_true c1; omega
    subst e
    rw [Bool.not_true, ifK_f, ← hS]
    obtain ⟨r, ⟨H', n', e1, e2, e3⟩, e4⟩ := isLayout_loop l KK good h2.1 n x y z w KK 0 H1 (n + 1) (by omega) hb (hg0.keep hk (by omega)) (hw.keep hk (by omega)) (by omega) (by have := good.np8; unfold KK; omega)
    exact ⟨r, ⟨H', n', e1, by omega, hk.trans e3 (by omega)⟩, e4.trans ⟨fun h => ⟨rfl, fun p hp => h p (Nat.zero_le _) hp⟩, fun h p _ hp => h.2 p hp⟩⟩
theorem call58 (l : Nat) (a b : Value) (H : Hp) (n : Nat) : (cal (l + 1)).call 58 [a, b] H n = C58_0 (cal l) KK a b H n := by kernel_rfl
theorem isLayout_call (l : Nat) {np nj nk nl : Nat} {ps js ks ls : List Int} (good : Good np nj nk ps js ks) {H : Hp} {n : Nat} {v w : Value} (hg : GroveI H n v np nj nk ps js ks) (hw : ListR H n w nl ls) :
    ∃ (r : Bool) (H' : Hp) (n' : Nat), (r = true ↔ nl = np ∧ laidOk js ks ls nj np nk) ∧ (∀ k : Value → Hp → Nat → Option ρ, callFK P (cal (l + 5)) 58 [v, w] H n k = k (.bool r) H' n') ∧ n ≤ n' ∧ Keep n H H' := by
  obtain ⟨r, H', n', ⟨b, rfl, hb⟩, e1, e2, e3⟩ := callFK_spec (ρ := ρ) (P := P) (cal := cal (l + 5)) (f := 58) (args := [v, w]) (H := H) (n := n)
    (Pre := fun H n => GroveI H n v np nj nk ps js ks ∧ ListR H n w nl ls) (Q := fun r => ∃ b : Bool, r = .bool b ∧ (b = true ↔ nl = np ∧ laidOk js ks ls nj np nk))
    (fun H n h => by
      obtain ⟨r, h1, h2⟩ := isLayout_spec l good h.1 h.2
      exact ⟨.bool r, by rw [call58]; exact h1, r, rfl, h2⟩) (fun r ⟨b, e, _⟩ _ => by subst e; rfl) ⟨hg, hw⟩ (fun hp => by
        simp only [pureL, Bool.and_eq_true] at hp
        exact ⟨hg.nil hp.1, hw.nil hp.2.1⟩)
  exact ⟨b, H', n', hb, e1, e2, e3⟩
theorem placed_spec (l : Nat) {np nj nk nl : Nat} {ps js ks ls : List Int} {H : Hp} {n : Nat} {v w : Value} (hg : GroveI H n v np nj nk ps js ks) (hw : ListR H n w nl ls) :
    Ret (C25_0 (cal (l + 5)) KK v w H n) n H (.int .i64 (placedN np nj nk nl ps js ks ls)) := by
  have hg0 := hg
  obtain ⟨x, y, z, rfl, h1, h2, h3⟩ := hg.eq
  unfold C25_0 B25_0
  rw [boxK_eq]
  simp only [cellsV, ptr]
  have hk : Keep n H (H.set n (some (.cells [x, y, z] 26 false none))) := (Keep.refl n H).set (Nat.le_refl _) _
  have hb : CellsAt (H.set n (some (.cells [x, y, z] 26 false none))) n 0 [x, y, z] := CellsAt.new
  generalize H.set n (some (.cells [x, y, z] 26 false none)) = H1 at hk hb ⊢
  have ld : ∀ H2, CellsAt H2 n 0 [x, y, z] → loadV P H2 26 ⟨n, 0, none⟩ = some (.agg ⟨[x, y, z]⟩) := fun H2 h => load26 h h1.hole.1 h2.hole.1 h3.hole.1
  have hg1 : GroveI H1 (n + 1) (.agg ⟨[x, y, z]⟩) np nj nk ps js ks := hg0.keep hk (by omega)
  obtain ⟨H2, n2, e1, e2, e3⟩ := lawfault_call (ρ := Value × Hp × Nat) (l + 1) hg1
  have kk : Keep n H H2 := hk.trans e3 (by omega)
  rw [addrV_eq, bindO_some, ld H1 hb, bindO_some, e1, binK_some bin_neq]
  unfold placedN
  by_cases he : faultN np nj nk ps js ks = 0
  · have d0 : decide (faultN np nj nk ps js ks = 0) = true := decide_eq_true he
    have good := good_of he
    obtain ⟨r, H3, n3, f1, f2, f3, f4⟩ := isLayout_call (ρ := Value × Hp × Nat) l good (hg1.keep e3 e2) (hw.keep kk (show n ≤ n2 by omega))
    rw [d0, Bool.not_true, ifK_f, bindO_some, ld H2 (hb.keep e3 (by omega)), bindO_some, f2, if_neg (fun h => h he)]
    cases r with
    | true =>
      rw [not_t, bindO_some, ifK_f, if_pos (f1.1 rfl)]
      exact ⟨H3, n3, rfl, by omega, kk.trans f4 (by omega)⟩
    | false =>
      rw [not_f, bindO_some, ifK_t, if_neg (fun h => absurd (f1.2 h) (by simp))]
      exact ⟨H3, n3, rfl, by omega, kk.trans f4 (by omega)⟩
  · have d0 : decide (faultN np nj nk ps js ks = 0) = false := decide_eq_false he
    rw [d0, Bool.not_false, ifK_t, if_pos he]
    exact ⟨H2, n2, rfl, by omega, kk⟩
theorem call25 (l : Nat) (a b : Value) (H : Hp) (n : Nat) : (cal (l + 1)).call 25 [a, b] H n = C25_0 (cal l) KK a b H n := by kernel_rfl
theorem placedN_call (l : Nat) {np nj nk nl : Nat} {ps js ks ls : List Int} {H : Hp} {n : Nat} {v w : Value} (hg : GroveI H n v np nj nk ps js ks) (hw : ListR H n w nl ls) :
    ∃ H' n', (∀ k : Value → Hp → Nat → Option ρ, callFK P (cal (l + 6)) 25 [v, w] H n k = k (.int .i64 (placedN np nj nk nl ps js ks ls)) H' n') ∧ n ≤ n' ∧ Keep n H H' := by
  obtain ⟨r, H', n', rfl, e1, e2, e3⟩ := callFK_spec (ρ := ρ) (P := P) (cal := cal (l + 6)) (f := 25) (args := [v, w]) (H := H) (n := n)
    (Pre := fun H n => GroveI H n v np nj nk ps js ks ∧ ListR H n w nl ls) (Q := fun r => r = .int .i64 (placedN np nj nk nl ps js ks ls))
    (fun H n h => ⟨_, by rw [call25]; exact placed_spec l h.1 h.2, rfl⟩) (fun r e _ => by subst e; rfl) ⟨hg, hw⟩ (fun hp => by
        simp only [pureL, Bool.and_eq_true] at hp
        exact ⟨hg.nil hp.1, hw.nil hp.2.1⟩)
  exact ⟨H', n', e1, e2, e3⟩
end Go.Proofs.Ytgojjellogiglaa.spec
end
section
namespace Go.Ev
open Go
variable {P : Program} {t : TypeId} {x y : Operand} {a b : Int} {ρ : Type}
end Go.Ev
end
section
namespace Go.Proofs.Ytgojjellogiglaa.spec
open Go Go.Ev Go.Proofs.Ytgojjellogiglaa.nestFits Go.Proofs.Ytgojjellogiglaa.G
set_option maxRecDepth 100000
variable {ρ : Type}
theorem list_at (c : Cal) (k : Nat) {H : Hp} {n len : Nat} {v : Value} {xs : List Int} (h : ListR H n v len xs) (h0 : len ≠ 0) (hlen : len ≤ 1000) :
    ∃ H' n', C23_0 c k v H n = some (.slice (some ⟨n + 1, 0, none⟩) len capV, H', n') ∧ n + 1 < n' ∧ Keep n H H' ∧ H'.get (n + 1) = some (.cells (ints xs) 3 false (some 1)) := by
  unfold C23_0 B23_0 rowK
  rw [row44_0, bindO_some]
  unfold newK
  dsimp only
  have hk : Keep n H (H.set n (some (.cells [] 3 false none))) := (Keep.refl n H).set (Nat.le_refl _) _
  have hg : (H.set n (some (.cells [] 3 false none))).get n = some (.cells [] 3 false none) := by rw [Tr.get_set, if_pos rfl]
  have h1 := h.keep hk (show n ≤ n + 1 by omega)
  generalize H.set n (some (.cells [] 3 false none)) = H1 at hk hg h1 ⊢
  have hold : loadN H1 ⟨n, 0, none⟩ (0 * 1) = some [] := loadN_all (L := []) (cells_at hg) rfl rfl
  have hbig : bigOk (0 + len) 1 8 = true := by unfold bigOk; simp; omega
  have hb1 : Nat.beq (cellsV (.int .i64 0)).length 1 = true := rfl
  have c0 : Nat.blt 0 capV = true := by decide +kernel
  have ha : appendV P (bare H1 (n + 1)) 44 44 (.slice (some ⟨n, 0, none⟩) 0 0) v = some (.slice (some ⟨n + 1, 0, none⟩) len capV, bare (H1.set (n + 1) (some (.cells (ints xs) 3 false (some 1)))) (n + 1 + 1)) := by
    unfold appendV
    have hs : srcCells (bare H1 (n + 1)).H 1 v = some (ints xs, len) := h1.src
    have hold' : loadN (bare H1 (n + 1)).H ⟨n, 0, none⟩ (0 * 1) = some [] := hold
    simp only [sl44, sz3, by3, zero3, hs, hb1, hold', hbig]
    unfold appendTo
    have c1 : Nat.ble len 0 = false := by
      cases len with
      | zero => exact absurd rfl h0
      | succ m => rfl
    simp only [c0, c1, growV, bare, pushB, List.nil_append, Nat.zero_add]
  unfold stK
  dsimp only
  rw [ha, bindO_some]
  dsimp only [bare]
  exact ⟨_, _, rfl, by omega, hk.set (by omega) _, by rw [Tr.get_set, if_pos rfl]⟩
theorem store3 (H : Hp) (b o : Nat) (a : Int) : storeP P 3 (.pointer (some ⟨b, o, none⟩)) (.int .i64 a) H = storeN H ⟨b, o, none⟩ [.int .i64 a] := by kernel_rfl
end Go.Proofs.Ytgojjellogiglaa.spec
end
section
namespace Go.Proofs.Ytgojjellogiglaa.spec
open Go Go.Ev Go.Proofs.Ytgojjellogiglaa.nestFits Go.Proofs.Ytgojjellogiglaa.G
set_option maxRecDepth 100000
variable {ρ : Type}
theorem min70 (a b : Int) (H : Hp) (n : Nat) (k : Value → Hp → Nat → Option ρ) :
    builtinK P .min [3, 3] (Go.Call.mk (Go.Callee.builtin Go.Builtin.min) #[(Go.Operand.tmp 33), (Go.Operand.tmp 34)] #[3, 3]) 3 [.int .i64 a, .int .i64 b] H n k = k (.int .i64 (min a b)) H n := by
  have h : min a b = if b < a then b else a := by omega
  rw [h]
  rfl
theorem build55v (a b : Int) : buildP P 55 [(0, .int .i64 a), (1, .int .i64 b)] = some (.agg ⟨[.int .i64 a, .int .i64 b]⟩) := by kernel_rfl
theorem res70 (H : Hp) (b : Nat) : resV P (Tr.set Tr.nil 8 (some (.pointer (some ⟨b, 0, none⟩)))) H results70 = (match loadV P H 55 ⟨b, 0, none⟩ with
  | some v => some [v]
  | none => none) := by kernel_rfl
theorem end70 {H : Hp} {n b : Nat} {u w : Int} {c : List Value} (hg : H.get b = some (.cells c 55 false none)) (hc : c.length = 2) :
    (bindO (storeP P 55 (.pointer (some ⟨b, 0, none⟩)) (.agg ⟨[.int .i64 u, .int .i64 w]⟩) H) fun H' => bindO (resV P (Tr.set Tr.nil 8 (some (.pointer (some ⟨b, 0, none⟩)))) H' results70) fun vs => some (oneV vs, H', n)) =
      some (.agg ⟨[.int .i64 u, .int .i64 w]⟩, H.set b (some (.cells [.int .i64 u, .int .i64 w] 55 false none)), n) := by
  have hst := storeN_whole (vs := [.int .i64 u, .int .i64 w]) hg (by rw [hc]; rfl) rfl
  have hld : loadV P (H.set b (some (.cells [.int .i64 u, .int .i64 w] 55 false none))) 55 ⟨b, 0, none⟩ = some (.agg ⟨[.int .i64 u, .int .i64 w]⟩) :=
    loadV_agg (o := 0) (k := 0) (CellsAt.new (n := b)) agg55 sz55 (by simp) rfl
  rw [store55, hst, bindO_some, res70, hld]
  rfl
theorem cells_of {H : Hp} {b : Nat} {vs : List Value} {e : TypeId} {ro : Bool} {vec : Option Nat} (h : H.get b = some (.cells vs e ro vec)) : CellsAt H b 0 vs :=
  ⟨_, vs, h, rfl, fun k v h => by simpa using h⟩
structure PartAt (H0 H : Hp) (base n g : Nat) (x y z : Value) (lo hi r1 r2 : Int) : Prop where
  keep : Keep base H0 H
  below : base + 3 ≤ g
  top : g < n
  box : H.get base = some (.cells [x, y, z] 26 false none)
  res : H.get (base + 1) = some (.cells [.int .i64 0, .int .i64 0] 55 false none)
  out : H.get (base + 2) = some (.cells [.int .i64 lo, .int .i64 hi] 55 false none)
  row : H.get g = some (.cells [.int .i64 r1, .int .i64 r2] 55 false none)
theorem PartAt.go {H0 H H' : Hp} {base n n' g : Nat} {x y z : Value} {lo hi r1 r2 : Int} (h : PartAt H0 H base n g x y z lo hi r1 r2) (hk : Keep n H H') (hn : n ≤ n') : PartAt H0 H' base n' g x y z lo hi r1 r2 := by
  have := h.below
  have := h.top
  exact ⟨h.keep.trans hk (by omega), h.below, by omega, (hk _ (by omega)).trans h.box, (hk _ (by omega)).trans h.res, (hk _ (by omega)).trans h.out, (hk _ (by omega)).trans h.row⟩
theorem PartAt.put {H0 H : Hp} {base n g : Nat} {x y z : Value} {lo hi r1 r2 : Int} (h : PartAt H0 H base n g x y z lo hi r1 r2) (u w : Int) : PartAt H0 (H.set (base + 2) (some (.cells [.int .i64 u, .int .i64 w] 55 false none))) base n g x y z u w r1 r2 := by
  have := h.below
  refine ⟨h.keep.set (by omega) _, h.below, h.top, ?_, ?_, ?_, ?_⟩
  · rw [Tr.get_set, if_neg (by omega)]; exact h.box
  · rw [Tr.get_set, if_neg (by omega)]; exact h.res
  · rw [Tr.get_set, if_pos rfl]
  · rw [Tr.get_set, if_neg (by omega)]; exact h.row
def PartTo (A B a lo hi lo' hi' : Int) : Prop := (max a A ≤ B ∧ lo' = min lo (max a A) ∧ hi' = B) ∨ (B < max a A ∧ lo' = lo ∧ hi' = hi)
theorem part_loop (l k : Nat) {np nj nk : Nat} {ps js ks : List Int} (hnj : nj ≤ KK) (hnp : np ≤ 100) (kind : Nat) (hk : kind < nk) (at_ pad : Int) (hs : Small ks nk) {H0 : Hp} {base g : Nat} {x y z : Value} {r1 r2 A B : Int} (hr : r2 ≤ 1000) (hB : B ≤ r2)
    (hg : GroveI H0 base (.agg ⟨[x, y, z]⟩) np nj nk ps js ks) (hAB : ∀ a, 0 ≤ a → a ≤ r2 → r1 ≤ a → (someB js ks nj np kind at_ pad a ↔ A ≤ a ∧ a ≤ B)) :
    ∀ (m : Nat) (a lo hi : Int) (H : Hp) (n : Nat), PartAt H0 H base n g x y z lo hi r1 r2 → 0 ≤ a → r1 ≤ a → a ≤ r2 + 1 → r2 + 1 - a ≤ m →
    ∃ lo' hi', PartTo A B a lo hi lo' hi' ∧ Ret (S70_1 (cal (l + 3)) k m (.int .i64 kind) (.int .i64 at_) (.int .i64 pad) (.pointer (some ⟨base, 0, none⟩)) (.pointer (some ⟨base + 1, 0, none⟩)) (.pointer (some ⟨base + 2, 0, none⟩)) (.pointer (some ⟨g, 0, none⟩)) (.int .i64 a) H n) base H0 (.agg ⟨[.int .i64 lo', .int .i64 hi']⟩) := by
  have body : ∀ (b1 : Value → Value → Value → Value → Value → Value → Value → Value → Hp → Nat → Res) (m : Nat) (a lo hi : Int) (H : Hp) (n : Nat), PartAt H0 H base n g x y z lo hi r1 r2 → 0 ≤ a → r1 ≤ a → a ≤ r2 + 1 →
      (∀ H' n' lo2 hi2, PartAt H0 H' base n' g x y z lo2 hi2 r1 r2 → a ≤ r2 → ∃ lo' hi', PartTo A B (a + 1) lo2 hi2 lo' hi' ∧
        Ret (b1 (.int .i64 kind) (.int .i64 at_) (.int .i64 pad) (.pointer (some ⟨base, 0, none⟩)) (.pointer (some ⟨base + 1, 0, none⟩)) (.pointer (some ⟨base + 2, 0, none⟩)) (.pointer (some ⟨g, 0, none⟩)) (.int .i64 (a + 1)) H' n') base H0 (.agg ⟨[.int .i64 lo', .int .i64 hi']⟩)) →
      ∃ lo' hi', PartTo A B a lo hi lo' hi' ∧ Ret (C70_1 (cal (l + 3)) k m b1 (.int .i64 kind) (.int .i64 at_) (.int .i64 pad) (.pointer (some ⟨base, 0, none⟩)) (.pointer (some ⟨base + 1, 0, none⟩)) (.pointer (some ⟨base + 2, 0, none⟩)) (.pointer (some ⟨g, 0, none⟩)) (.int .i64 a) H n) base H0 (.agg ⟨[.int .i64 lo', .int .i64 hi']⟩) := by
    intro b1 m a lo hi H n st ha har ha2 ih
    have hbel := st.below
    have htop := st.top
    have lr : loadV P H 3 ⟨g, 0 + 1, none⟩ = some (.int .i64 r2) := loadV_int (cells_of st.row) agg3 rfl
    obtain ⟨x', y', z', hxyz, h1, h2, h3⟩ := hg.eq
    cases hxyz
    unfold C70_1 B70_1
    rw [fa55_1, bindO_some, addrV_eq, bindO_some, lr, bindO_some, binK_some bin_leq, ifK_d]
    by_cases hle : a ≤ r2
    · have hI : I64 (a + 1) := by unfold I64; omega
      rw [if_pos hle, addrV_eq, bindO_some, load26 (cells_of st.box) h1.hole.1 h2.hole.1 h3.hole.1, bindO_some]
      obtain ⟨r, H1, n1, hrr, e, e2, e3⟩ := some_call (ρ := Value × Hp × Nat) l hnj hnp kind hk at_ pad a (by omega) hs (hg.keep st.keep (show base ≤ n by omega))
      have s1 := st.go e3 e2
      rw [e]
      have hq := hAB a ha hle har
      cases r with
      | true =>
        have hin := hq.1 (hrr.1 rfl)
        obtain ⟨lo', hi', p1, p2⟩ := ih _ n1 (min lo a) a (s1.put (min lo a) a) hle
        have l0 : loadV P H1 3 ⟨base + 2, 0 + 0, none⟩ = some (.int .i64 lo) := loadV_int (cells_of s1.out) agg3 rfl
        rw [ifK_t, fa55_0, bindO_some, addrV_eq, bindO_some, l0, bindO_some, min70, build55v, bindO_some, store55, storeN_whole (c := [.int .i64 lo, .int .i64 hi]) (vs := [.int .i64 (min lo a), .int .i64 a]) (e := 55) (vec := none) s1.out rfl rfl, bindO_some]
        unfold C70_2 B70_2
        rw [binK_some (bin_add hI)]
        refine ⟨lo', hi', ?_, p2⟩
        unfold PartTo at p1 ⊢
        omega
      | false =>
        have hout : ¬ (A ≤ a ∧ a ≤ B) := fun h => absurd (hrr.2 (hq.2 h)) (by simp)
        obtain ⟨lo', hi', p1, p2⟩ := ih H1 n1 lo hi s1 hle
        rw [ifK_f]
        unfold C70_2 B70_2
        rw [binK_some (bin_add hI)]
        refine ⟨lo', hi', ?_, p2⟩
        unfold PartTo at p1 ⊢
        omega
    · have lo9 : loadV P H 55 ⟨base + 2, 0, none⟩ = some (.agg ⟨[.int .i64 lo, .int .i64 hi]⟩) := loadV_agg (o := 0) (k := 0) (cells_of st.out) agg55 sz55 (by simp) rfl
      rw [if_neg hle, addrV_eq, bindO_some, lo9, bindO_some, end70 st.res rfl]
      refine ⟨lo, hi, ?_, _, _, rfl, by omega, st.keep.set (by omega) _⟩
      unfold PartTo
      omega
  intro m
  induction m with
  | zero =>
    intro a lo hi H n h1 h2 h3 h4 h5
    exact body _ 0 a lo hi H n h1 h2 h3 h4 (fun _ _ _ _ _ h => by omega)
  | succ m ih =>
    intro a lo hi H n h1 h2 h3 h4 h5
    exact body _ (m + 1) a lo hi H n h1 h2 h3 h4 (fun H' n' lo2 hi2 q1 q2 => ih (a + 1) lo2 hi2 H' n' q1 (by omega) (by omega) (by omega) (by omega))
theorem part_spec (l : Nat) {np nj nk : Nat} {ps js ks : List Int} (hnj : nj ≤ KK) (hnp : np ≤ 100) (kind : Nat) (hk : kind < nk) (at_ pad : Int) (hs : Small ks nk) {A B : Int}
    (hAB : ∀ a, 0 ≤ a → a ≤ (reach js ks nj kind at_ pad).2 → (reach js ks nj kind at_ pad).1 ≤ a → (someB js ks nj np kind at_ pad a ↔ A ≤ a ∧ a ≤ B)) (hA : (reach js ks nj kind at_ pad).1 ≤ A) (hle : A ≤ B) (hB : B ≤ (reach js ks nj kind at_ pad).2)
    {H : Hp} {n : Nat} {v : Value} (hg : GroveI H n v np nj nk ps js ks) :
    Ret (C70_0 (cal (l + 3)) KK v (.int .i64 kind) (.int .i64 at_) (.int .i64 pad) H n) n H (.agg ⟨[.int .i64 A, .int .i64 B]⟩) := by
  have hg0 := hg
  obtain ⟨x, y, z, rfl, h1, h2, h3⟩ := hg.eq
  obtain ⟨r1, r2, r3⟩ := reach_small (js := js) (nj := nj) hs hk at_ pad
  unfold C70_0 B70_0
  generalize hS : S70_1 (cal (l + 3)) KK KK = S
  rw [boxK_eq, allocK_eq zero55, build55v, bindO_some, allocK_eq zero55, ptr, ptr, ptr, store55]
  simp only [cellsV]
  rw [storeN_whole (c := [.int .i64 0, .int .i64 0]) (vs := [.int .i64 2000, .int .i64 (-1)]) (e := 55) (vec := none) (by rw [Tr.get_set, if_pos rfl]) rfl rfl, bindO_some]
  generalize hH1 : (((H.set n (some (.cells [x, y, z] 26 false none))).set (n + 1) (some (.cells [.int .i64 0, .int .i64 0] 55 false none))).set (n + 1 + 1) (some (.cells [.int .i64 0, .int .i64 0] 55 false none))).set (n + 1 + 1) (some (.cells [.int .i64 2000, .int .i64 (-1)] 55 false none)) = H1
  have k1 : Keep n H H1 := fun b hb => by rw [← hH1, Tr.get_set, if_neg (by omega), Tr.get_set, if_neg (by omega), Tr.get_set, if_neg (by omega), Tr.get_set, if_neg (by omega)]
  have p0 : H1.get n = some (.cells [x, y, z] 26 false none) := by rw [← hH1, Tr.get_set, if_neg (by omega), Tr.get_set, if_neg (by omega), Tr.get_set, if_neg (by omega), Tr.get_set, if_pos rfl]
  have p1 : H1.get (n + 1) = some (.cells [.int .i64 0, .int .i64 0] 55 false none) := by rw [← hH1, Tr.get_set, if_neg (by omega), Tr.get_set, if_neg (by omega), Tr.get_set, if_pos rfl]
  have p2 : H1.get (n + 2) = some (.cells [.int .i64 2000, .int .i64 (-1)] 55 false none) := by rw [← hH1, Tr.get_set, if_pos rfl]
  clear hH1
  rw [addrV_eq, bindO_some, load26 (cells_of p0) h1.hole.1 h2.hole.1 h3.hole.1, bindO_some]
  obtain ⟨H2, n2, e, e2, e3⟩ := reach_call (ρ := Value × Hp × Nat) (l + 1) (hg0.keep k1 (show n ≤ n + 1 + 1 + 1 by omega)) hnj kind hk at_ pad
  rw [e, box55]
  have hk55 := keep55 (H := H2) (n := n2) (a := some (.cells [.int .i64 0, .int .i64 0] 55 false none)) (b := some (.cells [.int .i64 (reach js ks nj kind at_ pad).1, .int .i64 (reach js ks nj kind at_ pad).2] 55 false none))
  have hnew : ((H2.set n2 (some (.cells [.int .i64 0, .int .i64 0] 55 false none))).set n2 (some (.cells [.int .i64 (reach js ks nj kind at_ pad).1, .int .i64 (reach js ks nj kind at_ pad).2] 55 false none))).get n2 = some (.cells [.int .i64 (reach js ks nj kind at_ pad).1, .int .i64 (reach js ks nj kind at_ pad).2] 55 false none) := by rw [Tr.get_set, if_pos rfl]
  generalize (H2.set n2 (some (.cells [.int .i64 0, .int .i64 0] 55 false none))).set n2 (some (.cells [.int .i64 (reach js ks nj kind at_ pad).1, .int .i64 (reach js ks nj kind at_ pad).2] 55 false none)) = H3 at hk55 hnew ⊢
  have k13 : Keep (n + 1 + 1 + 1) H1 H3 := e3.trans hk55 e2
  have st : PartAt H H3 n (n2 + 1) n2 x y z 2000 (-1) (reach js ks nj kind at_ pad).1 (reach js ks nj kind at_ pad).2 :=
    ⟨k1.trans k13 (by omega), by omega, by omega, (k13 _ (by omega)).trans p0, (k13 _ (by omega)).trans p1, (k13 _ (by omega)).trans p2, hnew⟩
  have l0 : loadV P H3 3 ⟨n2, 0 + 0, none⟩ = some (.int .i64 (reach js ks nj kind at_ pad).1) := loadV_int (cells_of hnew) agg3 rfl
  rw [fa55_0, bindO_some, addrV_eq, bindO_some, l0, bindO_some, ← hS]
  obtain ⟨lo', hi', q1, q2⟩ := part_loop l KK hnj hnp kind hk at_ pad hs r3 hB hg0 hAB KK (reach js ks nj kind at_ pad).1 2000 (-1) H3 (n2 + 1) st r1 (Int.le_refl _) (by omega) (by unfold KK; omega)
  unfold PartTo at q1
  rw [show A = lo' by omega, show B = hi' by omega]
  exact q2
end Go.Proofs.Ytgojjellogiglaa.spec
end
section
namespace Go.Proofs.Ytgojjellogiglaa.spec
open Go Go.Ev Go.Proofs.Ytgojjellogiglaa.nestFits Go.Proofs.Ytgojjellogiglaa.G
set_option maxRecDepth 100000
variable {ρ : Type}
theorem part_ext {np nj nk p q kd : Nat} {ps js ks : List Int} (good : Good np nj nk ps js ks) (hjs : js.length = nj * 2) (hp : p < np) (hq : q < np) (hkd : kd < nk) (hfit : fitsB js ks nj np kd p) :
    (reach js ks nj kd p q).1 ≤ ext (ks.getD (kd * 5) 0) (shP js ks nj np p kd) 0 q ∧ ext (ks.getD (kd * 5) 0) (shP js ks nj np p kd) 0 q ≤ ext (ks.getD (kd * 5) 0) (shP js ks nj np p kd) 1 q ∧ ext (ks.getD (kd * 5) 0) (shP js ks nj np p kd) 1 q ≤ (reach js ks nj kd p q).2 ∧
    ∀ a, 0 ≤ a → a ≤ (reach js ks nj kd p q).2 → (reach js ks nj kd p q).1 ≤ a → (someB js ks nj np kd p q a ↔ ext (ks.getD (kd * 5) 0) (shP js ks nj np p kd) 0 q ≤ a ∧ a ≤ ext (ks.getD (kd * 5) 0) (shP js ks nj np p kd) 1 q) := by
  have hi := good.inner hjs
  have np8 := good.np8
  obtain ⟨g1, g2⟩ := share_reach (ks := ks) (kd := kd) hi np8 hp q
  have t0 : total (shP js ks nj np p kd) 0 = sumTo (fun q => (reach js ks nj kd p q).1) 8 := sumTo_same (fun q _ => (share_reach hi np8 hp q).1)
  have t1 : total (shP js ks nj np p kd) 1 = sumTo (fun q => (reach js ks nj kd p q).2) 8 := sumTo_same (fun q _ => (share_reach hi np8 hp q).2)
  have e0 : sumTo (fun q => (reach js ks nj kd p q).1) 8 = sumTo (fun q => (reach js ks nj kd p q).1) np := sumTo_zero np8 fun k h1 _ => by rw [reach_far hi hp h1]
  have e1 : sumTo (fun q => (reach js ks nj kd p q).2) 8 = sumTo (fun q => (reach js ks nj kd p q).2) np := sumTo_zero np8 fun k h1 _ => by rw [reach_far hi hp h1]
  have l0 := lows_sum js ks nj kd p q np
  have l1 := highs_sum js ks nj kd p q np
  rw [if_pos hq] at l0 l1
  obtain ⟨f0, f1⟩ := (fitsB_iff8 good.small hkd hp hi np8).1 hfit
  obtain ⟨r0, r1, _⟩ := reach_small (js := js) (nj := nj) good.small hkd p q
  obtain ⟨s0, s1, _⟩ := lows_small (js := js) (nj := nj) good.small hkd p q np
  have x0 : ext (ks.getD (kd * 5) 0) (shP js ks nj np p kd) 0 q = max (reach js ks nj kd p q).1 (ks.getD (kd * 5) 0 - highs js ks nj kd p q np) := by
    show max ((shP js ks nj np p kd).getD (q * 2) 0) (ks.getD (kd * 5) 0 - (total (shP js ks nj np p kd) 1 - (shP js ks nj np p kd).getD (q * 2 + 1) 0)) = _
    rw [g1, g2, t1, e1, l1]
    congr 1
    omega
  have x1 : ext (ks.getD (kd * 5) 0) (shP js ks nj np p kd) 1 q = min (reach js ks nj kd p q).2 (ks.getD (kd * 5) 0 - lows js ks nj kd p q np) := by
    show min ((shP js ks nj np p kd).getD (q * 2 + 1) 0) (ks.getD (kd * 5) 0 - (total (shP js ks nj np p kd) 0 - (shP js ks nj np p kd).getD (q * 2) 0)) = _
    rw [g1, g2, t0, e0, l0]
    congr 1
    omega
  rw [x0, x1]
  rw [e0, l0] at f0
  rw [e1, l1] at f1
  refine ⟨by omega, by omega, by omega, fun a h0 h1 h2 => ?_⟩
  unfold someB
  omega
theorem call70 (l : Nat) (a b c d : Value) (H : Hp) (n : Nat) : (cal (l + 1)).call 70 [a, b, c, d] H n = C70_0 (cal l) KK a b c d H n := by kernel_rfl
theorem part_call (l : Nat) {np nj nk p q kd : Nat} {ps js ks : List Int} (good : Good np nj nk ps js ks) (hjs : js.length = nj * 2) (hp : p < np) (hq : q < np) (hkd : kd < nk) (hfit : fitsB js ks nj np kd p)
    {H : Hp} {n : Nat} {v : Value} (hg : GroveI H n v np nj nk ps js ks) :
    ∃ H' n', (∀ k : Value → Hp → Nat → Option ρ, callFK P (cal (l + 4)) 70 [v, .int .i64 kd, .int .i64 p, .int .i64 q] H n k =
      k (.agg ⟨[.int .i64 (ext (ks.getD (kd * 5) 0) (shP js ks nj np p kd) 0 q), .int .i64 (ext (ks.getD (kd * 5) 0) (shP js ks nj np p kd) 1 q)]⟩) H' n') ∧ n ≤ n' ∧ Keep n H H' := by
  obtain ⟨x0, x1, x2, x3⟩ := part_ext good hjs hp hq hkd hfit
  have np8 := good.np8
  have nj16 := good.nj16
  obtain ⟨r, H', n', rfl, e1, e2, e3⟩ := callFK_spec (ρ := ρ) (P := P) (cal := cal (l + 4)) (f := 70) (args := [v, .int .i64 kd, .int .i64 p, .int .i64 q]) (H := H) (n := n)
    (Pre := fun H n => GroveI H n v np nj nk ps js ks) (Q := fun r => r = .agg ⟨[.int .i64 (ext (ks.getD (kd * 5) 0) (shP js ks nj np p kd) 0 q), .int .i64 (ext (ks.getD (kd * 5) 0) (shP js ks nj np p kd) 1 q)]⟩)
    (fun H n h => ⟨_, by rw [call70]; exact part_spec l (show nj ≤ KK by unfold KK; omega) (show np ≤ 100 by omega) kd hkd p q good.small x3 x0 x1 x2 h, rfl⟩) (fun r e _ => by subst e; rfl) hg (fun hp => hg.nil (by simp only [pureL, Bool.and_eq_true] at hp; exact hp.1))
  exact ⟨H', n', e1, e2, e3⟩
theorem effK_a {H : Hp} {n id : Nat} {c : List Value} {e : TypeId} {op : Hp → Nat → (Value → Hp → Nat → Option ρ) → Option ρ} {k : Value → Hp → Nat → Option ρ} :
    effK P [.a id c e] H n op k = op (H.set id none) n (fun v H2 n2 => k v (H2.set id (H.get id)) n2) := rfl
theorem res27 (H : Hp) (b : Nat) : resV P (Tr.set Tr.nil 6 (some (.pointer (some ⟨b, 0, none⟩)))) H results27 = (match loadV P H 55 ⟨b, 0, none⟩ with
  | some v => some [v]
  | none => none) := by kernel_rfl
theorem end27 {H : Hp} {n b : Nat} {u w : Int} {c : List Value} (hg : H.get b = some (.cells c 55 false none)) (hc : c.length = 2) :
    (bindO (storeP P 55 (.pointer (some ⟨b, 0, none⟩)) (.agg ⟨[.int .i64 u, .int .i64 w]⟩) H) fun H' => bindO (resV P (Tr.set Tr.nil 6 (some (.pointer (some ⟨b, 0, none⟩)))) H' results27) fun vs => some (oneV vs, H', n)) =
      some (.agg ⟨[.int .i64 u, .int .i64 w]⟩, H.set b (some (.cells [.int .i64 u, .int .i64 w] 55 false none)), n) := by
  have hst := storeN_whole (vs := [.int .i64 u, .int .i64 w]) hg (by rw [hc]; rfl) rfl
  have hld : loadV P (H.set b (some (.cells [.int .i64 u, .int .i64 w] 55 false none))) 55 ⟨b, 0, none⟩ = some (.agg ⟨[.int .i64 u, .int .i64 w]⟩) :=
    loadV_agg (o := 0) (k := 0) (CellsAt.new (n := b)) agg55 sz55 (by simp) rfl
  rw [store55, hst, bindO_some, res27, hld]
  rfl
structure SumAt (H0 H : Hp) (base n : Nat) (x y z : Value) (lo hi : Int) : Prop where
  keep : Keep base H0 H
  top : base + 3 ≤ n
  box : H.get base = some (.cells [x, y, z] 26 false none)
  res : H.get (base + 1) = some (.cells [.int .i64 0, .int .i64 0] 55 false none)
  out : H.get (base + 2) = some (.cells [.int .i64 lo, .int .i64 hi] 55 false none)
theorem SumAt.go {H0 H H' : Hp} {base n n' : Nat} {x y z : Value} {lo hi : Int} (h : SumAt H0 H base n x y z lo hi) (hk : Keep n H H') (hn : n ≤ n') : SumAt H0 H' base n' x y z lo hi := by
  have := h.top
  exact ⟨h.keep.trans hk (by omega), by omega, (hk _ (by omega)).trans h.box, (hk _ (by omega)).trans h.res, (hk _ (by omega)).trans h.out⟩
theorem SumAt.put {H0 H : Hp} {base n : Nat} {x y z : Value} {lo hi : Int} (h : SumAt H0 H base n x y z lo hi) (u w : Int) : SumAt H0 (H.set (base + 2) (some (.cells [.int .i64 u, .int .i64 w] 55 false none))) base n x y z u w := by
  refine ⟨h.keep.set (by omega) _, h.top, ?_, ?_, ?_⟩
  · rw [Tr.get_set, if_neg (by omega)]; exact h.box
  · rw [Tr.get_set, if_neg (by omega)]; exact h.res
  · rw [Tr.get_set, if_pos rfl]
theorem bsum_next (js ks L : List Int) (nj np i e q : Nat) : bsum js ks L nj np (i + 1) e q = bsum js ks L nj np i e q + if L.getD i 0 = -1 then 0 else ext (ks.getD ((L.getD i 0).toNat * 5) 0) (shP js ks nj np i (L.getD i 0).toNat) e q := rfl
theorem bsum_laid {js ks ls : List Int} {nj np e q : Nat} (hl : ls.length = np) {i : Nat} (hi : i ≤ np) : bsum js ks ls nj np i e q = bsum js ks (laidL ls np) nj np i e q :=
  sumTo_same fun k hk => by rw [laidL_in hl (by omega)]
theorem rbounds_loop (l k : Nat) {np nj nk q : Nat} {ps js ks ls : List Int} (good : Good np nj nk ps js ks) (hjs : js.length = nj * 2) (hok : laidOk js ks ls nj np nk) (hq : q < np) (hls : ls.length = np) {H0 : Hp} {base : Nat} {x y z w : Value}
    (hg : GroveI H0 base (.agg ⟨[x, y, z]⟩) np nj nk ps js ks) (hw : ListR H0 base w np ls) :
    ∀ (m i : Nat) (H : Hp) (n : Nat), SumAt H0 H base n x y z (bsum js ks ls nj np i 0 q) (bsum js ks ls nj np i 1 q) → i ≤ np → np - i ≤ m →
    Ret (S27_1 (cal (l + 4)) k m w (.int .i64 q) (.pointer (some ⟨base, 0, none⟩)) (.pointer (some ⟨base + 1, 0, none⟩)) (.pointer (some ⟨base + 2, 0, none⟩)) (.int .i64 i) H n) base H0 (.agg ⟨[.int .i64 (bsum js ks ls nj np np 0 q), .int .i64 (bsum js ks ls nj np np 1 q)]⟩) := by
  have np8 := good.np8
  have body : ∀ (b1 : Value → Value → Value → Value → Value → Value → Hp → Nat → Res) (m i : Nat) (H : Hp) (n : Nat), SumAt H0 H base n x y z (bsum js ks ls nj np i 0 q) (bsum js ks ls nj np i 1 q) → i ≤ np →
      (∀ H' n', SumAt H0 H' base n' x y z (bsum js ks ls nj np (i + 1) 0 q) (bsum js ks ls nj np (i + 1) 1 q) → i < np →
        Ret (b1 w (.int .i64 q) (.pointer (some ⟨base, 0, none⟩)) (.pointer (some ⟨base + 1, 0, none⟩)) (.pointer (some ⟨base + 2, 0, none⟩)) (.int .i64 ((i + 1 : Nat) : Int)) H' n') base H0 (.agg ⟨[.int .i64 (bsum js ks ls nj np np 0 q), .int .i64 (bsum js ks ls nj np np 1 q)]⟩)) →
      Ret (C27_1 (cal (l + 4)) k m b1 w (.int .i64 q) (.pointer (some ⟨base, 0, none⟩)) (.pointer (some ⟨base + 1, 0, none⟩)) (.pointer (some ⟨base + 2, 0, none⟩)) (.int .i64 i) H n) base H0 (.agg ⟨[.int .i64 (bsum js ks ls nj np np 0 q), .int .i64 (bsum js ks ls nj np np 1 q)]⟩) := by
    intro b1 m i H n st hi ih
    have htop := st.top
    obtain ⟨x', y', z', hxyz, h1, h2, h3⟩ := hg.eq
    cases hxyz
    have hwH := hw.keep st.keep (show base ≤ n by omega)
    unfold C27_1 B27_1
    rw [hwH.len_eq, bindO_some, binK_some bin_lss, ifK_d]
    by_cases hlt : i < np
    · have hI : I64 ((i : Int) + 1) := by unfold I64; omega
      have hcast : ((i : Int) + 1) = ((i + 1 : Nat) : Int) := by omega
      obtain ⟨rb, o, hix, hrb, hld⟩ := hwH.at_ hlt
      rw [if_pos (by omega), hix, bindO_some, addrV_eq, bindO_some, hld, bindO_some, binK_some bin_geq, ifK_d]
      by_cases hge : 0 ≤ ls.getD i 0
      · rcases hok i hlt with hm | ⟨_, p2, p3⟩
        · omega
        obtain ⟨kd, hkd⟩ : ∃ kd : Nat, ls.getD i 0 = kd := ⟨(ls.getD i 0).toNat, by omega⟩
        rw [hkd] at p2 p3
        have hkn : kd < nk := by omega
        rw [Int.toNat_natCast] at p3
        have hfit := (fits_agree good hjs hlt hkn).1 p3
        rw [if_pos (by omega), addrV_eq, bindO_some, load26 (cells_of st.box) h1.hole.1 h2.hole.1 h3.hole.1, bindO_some]
        simp only [bindO_some, addrV_eq, hld, hkd, zero55, newK, effK_a]
        have kA : Keep n H ((H.set n (some (.cells (cellsV (.agg #[.int .i64 0, .int .i64 0])) 55 false none))).set n none) := ((Keep.refl n H).set (Nat.le_refl _) _).set (Nat.le_refl _) _
        obtain ⟨H2, n2, e, e2, e3⟩ := part_call (ρ := Value × Hp × Nat) l good hjs hlt hq hkn hfit (hg.keep (st.keep.trans kA (by omega)) (show base ≤ n + 1 by omega))
        rw [e]
        have hget : (H2.set n ((H.set n (some (.cells (cellsV (.agg #[.int .i64 0, .int .i64 0])) 55 false none))).get n)).get n = some (.cells [.int .i64 0, .int .i64 0] 55 false none) := by
          rw [Tr.get_set, if_pos rfl, Tr.get_set, if_pos rfl]; rfl
        have kB : Keep n H (H2.set n ((H.set n (some (.cells (cellsV (.agg #[.int .i64 0, .int .i64 0])) 55 false none))).get n)) := (kA.trans e3 (by omega)).set (Nat.le_refl _) _
        generalize (H2.set n ((H.set n (some (.cells (cellsV (.agg #[.int .i64 0, .int .i64 0])) 55 false none))).get n)) = H3 at hget kB ⊢
        have n0 := bsum_next js ks ls nj np i 0 q
        have n1 := bsum_next js ks ls nj np i 1 q
        rw [hkd, Int.toNat_natCast, if_neg (by omega)] at n0 n1
        have kin : KindsIn (laidL ls np) np nk := laid_kinds hls hok
        have m0 := bsum_mild (js := js) (nj := nj) (q := q) (i := i + 1) (e := 0) good.kinds np8 kin (by omega) (by omega)
        have m1 := bsum_mild (js := js) (nj := nj) (q := q) (i := i + 1) (e := 1) good.kinds np8 kin (by omega) (by omega)
        rw [← bsum_laid hls (by omega), n0] at m0
        rw [← bsum_laid hls (by omega), n1] at m1
        generalize ext (ks.getD (kd * 5) 0) (shP js ks nj np i kd) 0 q = E0 at n0 m0 ⊢
        generalize ext (ks.getD (kd * 5) 0) (shP js ks nj np i kd) 1 q = E1 at n1 m1 ⊢
        have i0 : I64 (bsum js ks ls nj np i 0 q + E0) := by unfold I64; omega
        have i1 : I64 (bsum js ks ls nj np i 1 q + E1) := by unfold I64; omega
        rw [ptr, store55, storeN_whole (c := [.int .i64 0, .int .i64 0]) (vs := [.int .i64 E0, .int .i64 E1]) (e := 55) (vec := none) hget rfl rfl, bindO_some]
        have hnew : (H3.set n (some (.cells [.int .i64 E0, .int .i64 E1] 55 false none))).get n = some (.cells [.int .i64 E0, .int .i64 E1] 55 false none) := by rw [Tr.get_set, if_pos rfl]
        have st4 : SumAt H0 (H3.set n (some (.cells [.int .i64 E0, .int .i64 E1] 55 false none))) base n2 x y z (bsum js ks ls nj np i 0 q) (bsum js ks ls nj np i 1 q) := st.go (kB.set (Nat.le_refl _) _) (by omega)
        generalize H3.set n (some (.cells [.int .i64 E0, .int .i64 E1] 55 false none)) = H4 at hnew st4 ⊢
        have a0 : loadV P H4 3 ⟨base + 2, 0 + 0, none⟩ = some (.int .i64 (bsum js ks ls nj np i 0 q)) := loadV_int (cells_of st4.out) agg3 rfl
        have a1 : loadV P H4 3 ⟨base + 2, 0 + 1, none⟩ = some (.int .i64 (bsum js ks ls nj np i 1 q)) := loadV_int (cells_of st4.out) agg3 rfl
        have c0 : loadV P H4 3 ⟨n, 0 + 0, none⟩ = some (.int .i64 E0) := loadV_int (cells_of hnew) agg3 rfl
        have c1 : loadV P H4 3 ⟨n, 0 + 1, none⟩ = some (.int .i64 E1) := loadV_int (cells_of hnew) agg3 rfl
        rw [fa55_0, bindO_some, addrV_eq, bindO_some, a0, bindO_some, fa55_0, bindO_some, addrV_eq, bindO_some, c0, bindO_some, binK_some (bin_add i0), fa55_1, bindO_some, addrV_eq, bindO_some, a1, bindO_some, fa55_1, bindO_some, addrV_eq, bindO_some, c1, bindO_some, binK_some (bin_add i1),
          build55v, bindO_some, store55, storeN_whole (c := [.int .i64 (bsum js ks ls nj np i 0 q), .int .i64 (bsum js ks ls nj np i 1 q)]) (vs := [.int .i64 (bsum js ks ls nj np i 0 q + E0), .int .i64 (bsum js ks ls nj np i 1 q + E1)]) (e := 55) (vec := none) st4.out rfl rfl, bindO_some, ← n0, ← n1]
        unfold C27_2 B27_2
        rw [binK_some (bin_add hI), hcast]
        exact ih _ n2 (st4.put _ _) hlt
      · rcases hok i hlt with hm | ⟨p1, _, _⟩
        · have n0 := bsum_next js ks ls nj np i 0 q
          have n1 := bsum_next js ks ls nj np i 1 q
          rw [if_pos hm, Int.add_zero] at n0 n1
          rw [if_neg (by omega)]
          unfold C27_2 B27_2
          rw [binK_some (bin_add hI), hcast]
          exact ih H n (by rw [n0, n1]; exact st) hlt
        · omega
    · have e : i = np := by omega
      subst e
      have lo9 : loadV P H 55 ⟨base + 2, 0, none⟩ = some (.agg ⟨[.int .i64 (bsum js ks ls nj i i 0 q), .int .i64 (bsum js ks ls nj i i 1 q)]⟩) := loadV_agg (o := 0) (k := 0) (cells_of st.out) agg55 sz55 (by simp) rfl
      rw [if_neg (by omega), addrV_eq, bindO_some, lo9, bindO_some, end27 st.res rfl]
      exact ⟨_, _, rfl, by omega, st.keep.set (by omega) _⟩
  intro m
  induction m with
  | zero =>
    intro i H n h1 h2 h3
    exact body _ 0 i H n h1 h2 (fun _ _ _ h => by omega)
  | succ m ih =>
    intro i H n h1 h2 h3
    exact body _ (m + 1) i H n h1 h2 (fun H' n' q1 q2 => ih (i + 1) H' n' q1 (by omega) (by omega))
theorem rbounds_spec (l : Nat) {np nj nk q : Nat} {ps js ks ls : List Int} (good : Good np nj nk ps js ks) (hok : laidOk js ks ls nj np nk) (hq : q < np) {H : Hp} {n : Nat} {v w : Value} (hg : GroveI H n v np nj nk ps js ks) (hw : ListR H n w np ls) :
    Ret (C27_0 (cal (l + 4)) KK v w (.int .i64 q) H n) n H (.agg ⟨[.int .i64 (bsum js ks (laidL ls np) nj np 8 0 q), .int .i64 (bsum js ks (laidL ls np) nj np 8 1 q)]⟩) := by
  have hg0 := hg
  have np8 := good.np8
  have hls := hw.1
  obtain ⟨x, y, z, rfl, h1, h2, h3⟩ := hg.eq
  have fin : ∀ e, bsum js ks (laidL ls np) nj np 8 e q = bsum js ks ls nj np np e q := fun e => by
    rw [bsum_laid hls (Nat.le_refl _)]
    refine sumTo_zero np8 fun k k1 k2 => ?_
    have kin : KindsIn (laidL ls np) np nk := laid_kinds hls hok
    rcases kin k (by omega) with h | h
    · rw [if_pos h]
    · omega
  unfold C27_0 B27_0
  generalize hS : S27_1 (cal (l + 4)) KK KK = S
  rw [boxK_eq, allocK_eq zero55, allocK_eq zero55, ptr, ptr, ptr]
  simp only [cellsV]
  generalize hH1 : ((H.set n (some (.cells [x, y, z] 26 false none))).set (n + 1) (some (.cells [.int .i64 0, .int .i64 0] 55 false none))).set (n + 1 + 1) (some (.cells [.int .i64 0, .int .i64 0] 55 false none)) = H1
  have st : SumAt H H1 n (n + 1 + 1 + 1) x y z (bsum js ks ls nj np 0 0 q) (bsum js ks ls nj np 0 1 q) := by
    refine ⟨fun b hb => ?_, by omega, ?_, ?_, ?_⟩
    · rw [← hH1, Tr.get_set, if_neg (by omega), Tr.get_set, if_neg (by omega), Tr.get_set, if_neg (by omega)]
    · rw [← hH1, Tr.get_set, if_neg (by omega), Tr.get_set, if_neg (by omega), Tr.get_set, if_pos rfl]
    · rw [← hH1, Tr.get_set, if_neg (by omega), Tr.get_set, if_pos rfl]
    · rw [← hH1, Tr.get_set, if_pos rfl]; rfl
  rw [← hS, fin 0, fin 1]
  exact rbounds_loop l KK good h2.1 hok hq hls hg0 hw KK 0 H1 _ st (by omega) (by unfold KK; omega)
theorem call27 (l : Nat) (a b c : Value) (H : Hp) (n : Nat) : (cal (l + 1)).call 27 [a, b, c] H n = C27_0 (cal l) KK a b c H n := by kernel_rfl
theorem rbounds_call (l : Nat) {np nj nk q : Nat} {ps js ks ls : List Int} (good : Good np nj nk ps js ks) (hok : laidOk js ks ls nj np nk) (hq : q < np) {H : Hp} {n : Nat} {v w : Value} (hg : GroveI H n v np nj nk ps js ks) (hw : ListR H n w np ls) :
    ∃ H' n', (∀ k : Value → Hp → Nat → Option ρ, callFK P (cal (l + 5)) 27 [v, w, .int .i64 q] H n k = k (.agg ⟨[.int .i64 (bsum js ks (laidL ls np) nj np 8 0 q), .int .i64 (bsum js ks (laidL ls np) nj np 8 1 q)]⟩) H' n') ∧ n ≤ n' ∧ Keep n H H' := by
  obtain ⟨r, H', n', rfl, e1, e2, e3⟩ := callFK_spec (ρ := ρ) (P := P) (cal := cal (l + 5)) (f := 27) (args := [v, w, .int .i64 q]) (H := H) (n := n)
    (Pre := fun H n => GroveI H n v np nj nk ps js ks ∧ ListR H n w np ls) (Q := fun r => r = .agg ⟨[.int .i64 (bsum js ks (laidL ls np) nj np 8 0 q), .int .i64 (bsum js ks (laidL ls np) nj np 8 1 q)]⟩)
    (fun H n h => ⟨_, by rw [call27]; exact rbounds_spec l good hok hq h.1 h.2, rfl⟩) (fun r e _ => by subst e; rfl) ⟨hg, hw⟩ (fun hp => by
        simp only [pureL, Bool.and_eq_true] at hp
        exact ⟨hg.nil hp.1, hw.nil hp.2.1⟩)
  exact ⟨H', n', e1, e2, e3⟩
end Go.Proofs.Ytgojjellogiglaa.spec
end
section
namespace Go.Proofs.Ytgojjellogiglaa.spec
open Go Go.Ev Go.Proofs.Ytgojjellogiglaa.nestFits Go.Proofs.Ytgojjellogiglaa.G
set_option maxRecDepth 100000
variable {ρ : Type}
noncomputable def leftN (S : List Int) (l0 : Int) : Nat → Int
  | 0 => l0
  | i + 1 => leftN S l0 i - min (leftN S l0 i) (S.getD (i * 2 + 1) 0 - S.getD (i * 2) 0)
noncomputable def numN (S : List Int) (l0 : Int) (i : Nat) : Int := S.getD (i * 2) 0 + min (leftN S l0 i) (S.getD (i * 2 + 1) 0 - S.getD (i * 2) 0)
theorem left_pos {S : List Int} {l0 : Int} (h0 : 0 ≤ l0) : ∀ i, 0 ≤ leftN S l0 i
  | 0 => h0
  | i + 1 => by
    have := left_pos (S := S) h0 i
    simp only [leftN]
    omega
theorem left_max {S : List Int} {l0 : Int} (h0 : 0 ≤ l0) : ∀ i, (∀ k, k < i → S.getD (k * 2) 0 ≤ S.getD (k * 2 + 1) 0) → leftN S l0 i = max 0 (l0 - (sumTo (fun p => S.getD (p * 2 + 1) 0) i - sumTo (fun p => S.getD (p * 2) 0) i))
  | 0, _ => by simp only [leftN, sumTo]; omega
  | i + 1, h => by
    have ih := left_max (S := S) h0 i (fun k hk => h k (by omega))
    have hi := h i (by omega)
    simp only [leftN, sumTo]
    rw [ih]
    omega
theorem num_in {S : List Int} {l0 : Int} (h0 : 0 ≤ l0) {i : Nat} (h : S.getD (i * 2) 0 ≤ S.getD (i * 2 + 1) 0) : S.getD (i * 2) 0 ≤ numN S l0 i ∧ numN S l0 i ≤ S.getD (i * 2 + 1) 0 := by
  have := left_pos (S := S) h0 i
  unfold numN
  omega
theorem num_sum {S : List Int} {l0 : Int} : ∀ i, sumTo (numN S l0) i = sumTo (fun p => S.getD (p * 2) 0) i + (l0 - leftN S l0 i)
  | 0 => by simp only [sumTo, leftN]; omega
  | i + 1 => by
    have ih := num_sum (S := S) (l0 := l0) i
    simp only [sumTo, leftN]
    rw [ih]
    unfold numN
    omega
def fixS (S : List Int) (p : Nat) (a : Int) : List Int := (S.set (p * 2) a).set (p * 2 + 1) a
theorem fixS_len (S : List Int) (p : Nat) (a : Int) : (fixS S p a).length = S.length := by unfold fixS; simp
theorem fixS_same {S : List Int} {p : Nat} {a : Int} (h : p * 2 + 2 ≤ S.length) : (fixS S p a).getD (p * 2) 0 = a ∧ (fixS S p a).getD (p * 2 + 1) 0 = a := by
  unfold fixS
  constructor
  · rw [List.getD_eq_getElem?_getD, List.getElem?_set, if_neg (by omega), List.getElem?_set, if_pos rfl, if_pos (by omega)]; rfl
  · rw [List.getD_eq_getElem?_getD, List.getElem?_set, if_pos rfl, if_pos (by simp; omega)]; rfl
theorem fixS_ne {S : List Int} {p q : Nat} {a : Int} (h : q ≠ p) : (fixS S p a).getD (q * 2) 0 = S.getD (q * 2) 0 ∧ (fixS S p a).getD (q * 2 + 1) 0 = S.getD (q * 2 + 1) 0 := by
  unfold fixS
  constructor
  · rw [List.getD_eq_getElem?_getD, List.getElem?_set, if_neg (by omega), List.getElem?_set, if_neg (by omega), ← List.getD_eq_getElem?_getD]
  · rw [List.getD_eq_getElem?_getD, List.getElem?_set, if_neg (by omega), List.getElem?_set, if_neg (by omega), ← List.getD_eq_getElem?_getD]
theorem sumTo_fix {f g : Nat → Int} {p : Nat} (h : ∀ k, k ≠ p → g k = f k) : ∀ i, sumTo g i = sumTo f i + if p < i then g p - f p else 0
  | 0 => by simp [sumTo]
  | i + 1 => by
    have ih := sumTo_fix h i
    simp only [sumTo]
    rw [ih]
    by_cases c : i = p
    · subst c
      rw [if_neg (by omega), if_pos (by omega)]
      omega
    · rw [h i c]
      by_cases d : p < i
      · rw [if_pos d, if_pos (by omega)]; omega
      · rw [if_neg d, if_neg (by omega)]; omega
theorem total_fix {S : List Int} {p : Nat} {a : Int} (hS : S.length = 16) (hp : p < 8) : total (fixS S p a) 0 = total S 0 - S.getD (p * 2) 0 + a ∧ total (fixS S p a) 1 = total S 1 - S.getD (p * 2 + 1) 0 + a := by
  obtain ⟨e0, e1⟩ := fixS_same (S := S) (p := p) (a := a) (by omega)
  unfold total
  constructor
  · have := sumTo_fix (f := fun q => S.getD (q * 2 + 0) 0) (g := fun q => (fixS S p a).getD (q * 2 + 0) 0) (p := p) (fun k hk => (fixS_ne hk).1) 8
    rw [if_pos hp] at this
    simp only [Nat.add_zero] at this ⊢
    omega
  · have := sumTo_fix (f := fun q => S.getD (q * 2 + 1) 0) (g := fun q => (fixS S p a).getD (q * 2 + 1) 0) (p := p) (fun k hk => (fixS_ne hk).2) 8
    rw [if_pos hp] at this
    omega
noncomputable def spreadN (y : Int) (S : List Int) (p : Nat) (a : Int) (i : Nat) : Int := numN (fixS S p a) (y - total (fixS S p a) 0) i
theorem spreadN_ok {y : Int} {S : List Int} {p : Nat} {a : Int} (hS : S.length = 16) (hp : p < 8) (hle : ∀ k, S.getD (k * 2) 0 ≤ S.getD (k * 2 + 1) 0) (h0 : ext y S 0 p ≤ a) (h1 : a ≤ ext y S 1 p) :
    (∀ i, S.getD (i * 2) 0 ≤ spreadN y S p a i ∧ spreadN y S p a i ≤ S.getD (i * 2 + 1) 0) ∧ spreadN y S p a p = a ∧ sumTo (spreadN y S p a) 8 = y ∧ 0 ≤ y - total (fixS S p a) 0 := by
  obtain ⟨t0, t1⟩ := total_fix (S := S) (p := p) (a := a) hS hp
  have x0 : max (S.getD (p * 2) 0) (y - (total S 1 - S.getD (p * 2 + 1) 0)) ≤ a := h0
  have x1 : a ≤ min (S.getD (p * 2 + 1) 0) (y - (total S 0 - S.getD (p * 2) 0)) := h1
  have hl : 0 ≤ y - total (fixS S p a) 0 := by omega
  obtain ⟨f0, f1⟩ := fixS_same (S := S) (p := p) (a := a) (by omega)
  have hle' : ∀ k, (fixS S p a).getD (k * 2) 0 ≤ (fixS S p a).getD (k * 2 + 1) 0 := fun k => by
    by_cases c : k = p
    · subst c; omega
    · obtain ⟨g0, g1⟩ := fixS_ne (S := S) (a := a) c
      have := hle k
      omega
  have hn : spreadN y S p a p = a := by
    have := num_in (S := fixS S p a) hl (hle' p)
    rw [f0, f1] at this
    exact Int.le_antisymm this.2 this.1
  refine ⟨fun i => ?_, hn, ?_, hl⟩
  · by_cases c : i = p
    · subst c; rw [hn]; omega
    · obtain ⟨g0, g1⟩ := fixS_ne (S := S) (a := a) c
      have := num_in (S := fixS S p a) hl (hle' i)
      rw [g0, g1] at this
      exact this
  · have h8 := left_max (S := fixS S p a) hl 8 (fun k _ => hle' k)
    have hs := num_sum (S := fixS S p a) (l0 := y - total (fixS S p a) 0) 8
    have e0 : sumTo (fun p_1 => (fixS S p a).getD (p_1 * 2) 0) 8 = total (fixS S p a) 0 := rfl
    have e1 : sumTo (fun p_1 => (fixS S p a).getD (p_1 * 2 + 1) 0) 8 = total (fixS S p a) 1 := rfl
    rw [e0, e1] at h8
    rw [e0] at hs
    have : sumTo (spreadN y S p a) 8 = sumTo (numN (fixS S p a) (y - total (fixS S p a) 0)) 8 := rfl
    rw [this, hs, h8]
    omega
noncomputable def spreadL (y : Int) (S : List Int) (p : Nat) (a : Int) : List Int := (List.range 8).map (spreadN y S p a)
theorem spreadL_len (y : Int) (S : List Int) (p : Nat) (a : Int) : (spreadL y S p a).length = 8 := by unfold spreadL; simp
theorem spreadL_get {y : Int} {S : List Int} {p : Nat} {a : Int} {i : Nat} (hi : i < 8) : (spreadL y S p a).getD i 0 = spreadN y S p a i := by
  unfold spreadL
  rw [List.getD_eq_getElem?_getD, List.getElem?_map, List.getElem?_range hi]
  rfl
end Go.Proofs.Ytgojjellogiglaa.spec
end
section
namespace Go.Proofs.Ytgojjellogiglaa.spec
open Go Go.Ev Go.Proofs.Ytgojjellogiglaa.nestFits Go.Proofs.Ytgojjellogiglaa.G
set_option maxRecDepth 100000
variable {ρ : Type}
end Go.Proofs.Ytgojjellogiglaa.spec
end
section
namespace Go.Proofs.Ytgojjellogiglaa.spec
open Go Go.Ev Go.Proofs.Ytgojjellogiglaa.nestFits Go.Proofs.Ytgojjellogiglaa.G
set_option maxRecDepth 100000
variable {ρ : Type}
end Go.Proofs.Ytgojjellogiglaa.spec
end
section
namespace Go.Proofs.Ytgojjellogiglaa.spec
open Go Go.Ev Go.Proofs.Ytgojjellogiglaa.nestFits Go.Proofs.Ytgojjellogiglaa.G
set_option maxRecDepth 100000
variable {ρ : Type}
theorem agg44 : isAggT P 44 = some false := by kernel_rfl
theorem sz44 : szT P 44 = some 1 := by kernel_rfl
end Go.Proofs.Ytgojjellogiglaa.spec
end
section
namespace Go.Proofs.Ytgojjellogiglaa.spec
open Go Go.Ev Go.Proofs.Ytgojjellogiglaa.nestFits Go.Proofs.Ytgojjellogiglaa.G
set_option maxRecDepth 100000
variable {ρ : Type}
theorem und120 : P.underlying 120 = some (.array 8 3) := by kernel_rfl
theorem agg120 : isAggT P 120 = some true := by kernel_rfl
theorem sz120 : szT P 120 = some 8 := by kernel_rfl
theorem zero120 : zeroT P 120 = some (.agg ⟨ints (List.replicate 8 0)⟩) := by kernel_rfl
theorem res75 (H : Hp) (b : Nat) : resV P (Tr.set Tr.nil 6 (some (.pointer (some ⟨b, 0, none⟩)))) H results75 = (match loadV P H 120 ⟨b, 0, none⟩ with
  | none => none
  | some v => some [v]) := by kernel_rfl
theorem at120 (b : Nat) {i : Nat} (hi : i < 8) : indexAddrV P 120 (.pointer (some ⟨b, 0, none⟩)) (.int .i64 i) = some (.pointer (some ⟨b, 0 + i * 1, none⟩)) := by
  unfold indexAddrV
  have : idxIn (.int .i64 (i : Int)) 8 = some i := by
    show idxIn (.int .i64 (.ofNat i)) 8 = some i
    simp [idxIn, hi]
  simp only [und120, this, sz3]
  rfl
theorem call105b (l : Nat) (a b : Value) (H : Hp) (n : Nat) : (cal (l + 1)).call 105 [a, b] H n = C105_0 (cal l) KK a b H n := by kernel_rfl
theorem least1_call (l : Nat) (a x : Int) {H : Hp} {n b : Nat} (hx : CellsAt H b 0 [.int .i64 x]) (k : Value → Hp → Nat → Option ρ) :
    callFK P (cal (l + 1)) 105 [.int .i64 a, .slice (some ⟨b, 0, none⟩) 1 1] H n k = k (.int .i64 (min a x)) H n := by
  unfold callFK
  have : (flatF P 105 && pureL [.int .i64 a, .slice (some ⟨b, 0, none⟩) 1 1]) = false := by rw [Bool.and_eq_false_iff]; exact .inr rfl
  rw [this, call105b, least_spec _ a x hx]
  rfl
theorem nest_fix {y a : Int} {S B : List Int} {p : Nat} (hS : S.length = 16) (hp : p < 8) : ((nestL y S B).set (1 + p * 2) a).set (1 + p * 2 + 1) a = nestL y (fixS S p a) B := by
  unfold nestL fixS
  rw [show 1 + p * 2 = p * 2 + 1 by omega, List.set_cons_succ, List.set_cons_succ, List.set_append_left _ _ (by omega), List.set_append_left _ _ (by simp; omega)]
def NumsTo (S : List Int) (l0 : Int) (Z : List Int) (i : Nat) : Prop := Z.length = 8 ∧ ∀ j, j < i → Z.getD j 0 = numN S l0 j
theorem spread_loop (l k : Nat) {S : List Int} {l0 : Int} (hS : S.length = 16) (hb : Bounded S) (hl : 0 ≤ l0) (hl2 : l0 ≤ 1000) (hle : ∀ k, S.getD (k * 2) 0 ≤ S.getD (k * 2 + 1) 0) (b6 b7 : Nat) (hne : b6 ≠ b7) : ∀ (m i : Nat) (Z : List Int) (H : Hp) (n : Nat), b6 < n → b7 < n →
    H.get b7 = some (.cells (ints Z) 120 false none) → (∃ w, H.get b6 = some (.cells w 120 false none) ∧ w.length = 8) → NumsTo S l0 Z i → i ≤ 8 → 8 - i ≤ m →
    ∃ Z' H' n', S75_1 (cal (l + 1)) k m (.pointer (some ⟨b6, 0, none⟩)) (.pointer (some ⟨b7, 0, none⟩)) (.int .i64 (leftN S l0 i)) (.agg ⟨ints S⟩) (.int .i64 i) H n = some (.agg ⟨ints Z'⟩, H', n') ∧ NumsTo S l0 Z' 8 := by
  have body : ∀ (b1 : Value → Value → Value → Value → Value → Hp → Nat → Res) (m i : Nat) (Z : List Int) (H : Hp) (n : Nat), b6 < n → b7 < n →
      H.get b7 = some (.cells (ints Z) 120 false none) → (∃ w, H.get b6 = some (.cells w 120 false none) ∧ w.length = 8) → NumsTo S l0 Z i → i ≤ 8 →
      (∀ (Z : List Int) (H : Hp) (n : Nat), b6 < n → b7 < n → H.get b7 = some (.cells (ints Z) 120 false none) → (∃ w, H.get b6 = some (.cells w 120 false none) ∧ w.length = 8) → NumsTo S l0 Z (i + 1) → i < 8 →
        ∃ Z' H' n', b1 (.pointer (some ⟨b6, 0, none⟩)) (.pointer (some ⟨b7, 0, none⟩)) (.int .i64 (leftN S l0 (i + 1))) (.agg ⟨ints S⟩) (.int .i64 ((i + 1 : Nat) : Int)) H n = some (.agg ⟨ints Z'⟩, H', n') ∧ NumsTo S l0 Z' 8) →
      ∃ Z' H' n', C75_1 (cal (l + 1)) k m b1 (.pointer (some ⟨b6, 0, none⟩)) (.pointer (some ⟨b7, 0, none⟩)) (.int .i64 (leftN S l0 i)) (.agg ⟨ints S⟩) (.int .i64 i) H n = some (.agg ⟨ints Z'⟩, H', n') ∧ NumsTo S l0 Z' 8 := by
    intro b1 m i Z H n hb6 hb7 hg7 hg6 hZ hi ih
    have lZ : (ints Z).length = 8 := by rw [ints_length, hZ.1]
    unfold C75_1 B75_1
    rw [binK_some bin_lss, ifK_d]
    by_cases hlt : i < 8
    · have hI : I64 ((i : Int) + 1) := by unfold I64; omega
      have hcast : ((i : Int) + 1) = ((i + 1 : Nat) : Int) := by omega
      obtain ⟨r0, r1⟩ := hb (i * 2)
      obtain ⟨r2, r3⟩ := hb (i * 2 + 1)
      have r4 := hle i
      have q0 := left_pos (S := S) hl i
      have q1 := left_max (S := S) hl i (fun k _ => hle k)
      have q2 := sumTo_le (f := fun p => S.getD (p * 2) 0) (g := fun p => S.getD (p * 2 + 1) 0) (i := i) (fun k _ => hle k)
      have q3 : leftN S l0 i ≤ 1000 := by rw [q1]; omega
      have hIw : I64 (S.getD (i * 2 + 1) 0 - S.getD (i * 2) 0) := by unfold I64; omega
      have hIa : I64 (S.getD (i * 2) 0 + min (leftN S l0 i) (S.getD (i * 2 + 1) 0 - S.getD (i * 2) 0)) := by unfold I64; omega
      have hIl : I64 (leftN S l0 i - min (leftN S l0 i) (S.getD (i * 2 + 1) 0 - S.getD (i * 2) 0)) := by unfold I64; omega
      rw [if_pos (by omega), index_row hS hlt, bindO_some, two_at (by omega), allocK_eq zero53]
      simp only [cellsV, ptr]
      have hst := storeN_all (H := H.set n (some (.cells [.int .i64 0, .int .i64 0] 53 false none))) (b := n) (c := [.int .i64 0, .int .i64 0]) (vs := [.int .i64 (S.getD (i * 2) 0), .int .i64 (S.getD (i * 2 + 1) 0)]) (e := 53) (vec := none) (by rw [Tr.get_set, if_pos rfl]) rfl rfl
      rw [store53, hst, bindO_some]
      have hc : CellsAt ((H.set n (some (.cells [.int .i64 0, .int .i64 0] 53 false none))).set n (some (.cells [.int .i64 (S.getD (i * 2) 0), .int .i64 (S.getD (i * 2 + 1) 0)] 53 false none))) n 0 [.int .i64 (S.getD (i * 2) 0), .int .i64 (S.getD (i * 2 + 1) 0)] := CellsAt.new
      have ho : ∀ b, b < n → ((H.set n (some (.cells [.int .i64 0, .int .i64 0] 53 false none))).set n (some (.cells [.int .i64 (S.getD (i * 2) 0), .int .i64 (S.getD (i * 2 + 1) 0)] 53 false none))).get b = H.get b := fun b hb => by rw [Tr.get_set, if_neg (by omega), Tr.get_set, if_neg (by omega)]
      generalize (H.set n (some (.cells [.int .i64 0, .int .i64 0] 53 false none))).set n (some (.cells [.int .i64 (S.getD (i * 2) 0), .int .i64 (S.getD (i * 2 + 1) 0)] 53 false none)) = H1 at hc ho ⊢
      have l0' : loadV P H1 3 ⟨n, 0 + 0, none⟩ = some (.int .i64 (S.getD (i * 2) 0)) := loadV_int hc agg3 rfl
      have l1' : loadV P H1 3 ⟨n, 0 + 1, none⟩ = some (.int .i64 (S.getD (i * 2 + 1) 0)) := loadV_int hc agg3 rfl
      rw [fa53_1, bindO_some, addrV_eq, bindO_some, l1', bindO_some, fa53_0, bindO_some, addrV_eq, bindO_some, l0', bindO_some, binK_some (bin_sub hIw)]
      unfold rowK
      rw [row44, bindO_some]
      unfold newK
      have hrow : CellsAt (H1.set (n + 1) (some (.cells [.int .i64 (S.getD (i * 2 + 1) 0 - S.getD (i * 2) 0)] 3 false none))) (n + 1) 0 [.int .i64 (S.getD (i * 2 + 1) 0 - S.getD (i * 2) 0)] := CellsAt.new
      have hk2 : Keep (n + 1) H1 (H1.set (n + 1) (some (.cells [.int .i64 (S.getD (i * 2 + 1) 0 - S.getD (i * 2) 0)] 3 false none))) := (Keep.refl _ _).set (Nat.le_refl _) _
      dsimp only
      generalize H1.set (n + 1) (some (.cells [.int .i64 (S.getD (i * 2 + 1) 0 - S.getD (i * 2) 0)] 3 false none)) = H2 at hrow hk2 ⊢
      have hc2 := hc.keep hk2 (show n < n + 1 by omega)
      have l2' : loadV P H2 3 ⟨n, 0 + 0, none⟩ = some (.int .i64 (S.getD (i * 2) 0)) := loadV_int hc2 agg3 rfl
      have g7 : H2.get b7 = some (.cells (ints Z) 120 false none) := by rw [hk2 b7 (by omega), ho b7 hb7]; exact hg7
      have g6 : ∃ w, H2.get b6 = some (.cells w 120 false none) ∧ w.length = 8 := by
        obtain ⟨w, w1, w2⟩ := hg6
        exact ⟨w, by rw [hk2 b6 (by omega), ho b6 hb6]; exact w1, w2⟩
      have hs7 := store_one (a := S.getD (i * 2) 0 + min (leftN S l0 i) (S.getD (i * 2 + 1) 0 - S.getD (i * 2) 0)) (o := i) g7 (by rw [hZ.1]; exact hlt)
      rw [least1_call l _ _ hrow]
      rw [bindO_some, addrV_eq, bindO_some, l2', bindO_some, binK_some (bin_add hIa), at120 _ hlt, bindO_some, store3, show 0 + i * 1 = i by omega, hs7, bindO_some, binK_some (bin_sub hIl), binK_some (bin_add hI), hcast]
      refine ih _ _ _ (by omega) (by omega) (by rw [Tr.get_set, if_pos rfl]) ?_ ⟨by simp [hZ.1], fun j hj => ?_⟩ hlt
      · obtain ⟨w, w1, w2⟩ := g6
        exact ⟨w, by rw [Tr.get_set, if_neg hne]; exact w1, w2⟩
      · rw [List.getD_eq_getElem?_getD, List.getElem?_set]
        by_cases c : i = j
        · subst c
          rw [if_pos rfl, if_pos (by rw [hZ.1]; exact hlt)]
          rfl
        · rw [if_neg c, ← List.getD_eq_getElem?_getD]
          exact hZ.2 j (by omega)
    · have hi' : i = 8 := by omega
      subst hi'
      obtain ⟨w, w1, w2⟩ := hg6
      rw [if_neg (by omega), addrV_eq, bindO_some, load_all hg7 agg120 sz120 lZ, bindO_some, storeP_agg sz120 lZ, storeN_all w1 (by rw [lZ, w2]) (ints_leaf _), bindO_some, res75, load_all (t := 120) (s := 8) (L := ints Z) (e := 120) (vec := none) (by rw [Tr.get_set, if_pos rfl]) agg120 sz120 lZ]
      exact ⟨Z, _, _, rfl, hZ⟩
  intro m
  induction m with
  | zero =>
    intro i Z H n h1 h2 h3 h4 h5 h6 h7
    exact body _ 0 i Z H n h1 h2 h3 h4 h5 h6 (fun _ _ _ _ _ _ _ _ h => by omega)
  | succ m ih =>
    intro i Z H n h1 h2 h3 h4 h5 h6 h7
    exact body _ (m + 1) i Z H n h1 h2 h3 h4 h5 h6 (fun Z H n q1 q2 q3 q4 q5 q6 => ih (i + 1) Z H n q1 q2 q3 q4 q5 (by omega) (by omega))
theorem fixS_bounded {S : List Int} {p : Nat} {a : Int} (hb : Bounded S) (hS : S.length = 16) (hp : p < 8) (ha : 0 ≤ a ∧ a ≤ 1000) : Bounded (fixS S p a) := by
  obtain ⟨e0, e1⟩ := fixS_same (S := S) (p := p) (a := a) (by omega)
  intro k
  by_cases c : k / 2 = p
  · rcases Nat.mod_two_eq_zero_or_one k with z | z
    · rw [show k = p * 2 by omega, e0]; exact ha
    · rw [show k = p * 2 + 1 by omega, e1]; exact ha
  · obtain ⟨g0, g1⟩ := fixS_ne (S := S) (a := a) c
    rcases Nat.mod_two_eq_zero_or_one k with z | z
    · rw [show k / 2 * 2 = k by omega] at g0; rw [g0]; exact hb k
    · rw [show k / 2 * 2 + 1 = k by omega] at g1; rw [g1]; exact hb k
theorem spreadWith_spec (l : Nat) {y a : Int} {S B : List Int} {p : Nat} (hS : S.length = 16) (hB : B.length = 16) (hb : Bounded S) (hy : 0 ≤ y ∧ y ≤ 1000) (hp : p < 8) (hle : ∀ k, S.getD (k * 2) 0 ≤ S.getD (k * 2 + 1) 0) (h0 : ext y S 0 p ≤ a) (h1 : a ≤ ext y S 1 p) :
    ∃ H' n', C75_0 (cal (l + 2)) KK (.agg ⟨ints (nestL y S B)⟩) (.int .i64 p) (.int .i64 a) .nil 0 = some (.agg ⟨ints (spreadL y S p a)⟩, H', n') := by
  obtain ⟨s1, s2, s3, s4⟩ := spreadN_ok hS hp hle h0 h1
  have ha : 0 ≤ a ∧ a ≤ 1000 := by
    obtain ⟨x0, x1⟩ := s1 p
    rw [s2] at x0 x1
    have := hb (p * 2)
    have := hb (p * 2 + 1)
    omega
  have hbf := fixS_bounded (a := a) hb hS hp ha
  have lf : (fixS S p a).length = 16 := by rw [fixS_len, hS]
  have tr := total_range hbf 0
  obtain ⟨f0, f1⟩ := fixS_same (S := S) (p := p) (a := a) (by omega)
  have hlef : ∀ k, (fixS S p a).getD (k * 2) 0 ≤ (fixS S p a).getD (k * 2 + 1) 0 := fun k => by
    by_cases c : k = p
    · subst c; omega
    · obtain ⟨g0, g1⟩ := fixS_ne (S := S) (a := a) c
      have := hle k
      omega
  have b53 : buildP P 53 [(0, .int .i64 a), (1, .int .i64 a)] = some (.agg ⟨[.int .i64 a, .int .i64 a]⟩) := by kernel_rfl
  have lens : (ints (nestL y (fixS S p a) B)).length = 33 := by rw [ints_length, nest_cells lf hB]
  have ln : (nestL y S B).length = 33 := nest_cells hS hB
  have hI : I64 (y - total (fixS S p a) 0) := by unfold I64; omega
  unfold C75_0 B75_0
  generalize hSS : S75_1 (cal (l + 2)) KK KK = SS
  rw [boxK_eq, allocK_eq zero120, b53, bindO_some]
  simp only [cellsV, ptr]
  have c0 : (((Tr.nil : Hp).set 0 (some (.cells (ints (nestL y S B)) 113 false none))).set (0 + 1) (some (.cells (ints (List.replicate 8 0)) 120 false none))).get 0 = some (.cells (ints (nestL y S B)) 113 false none) := by rw [Tr.get_set, if_neg (by omega), Tr.get_set, if_pos rfl]
  have c1 : (((Tr.nil : Hp).set 0 (some (.cells (ints (nestL y S B)) 113 false none))).set (0 + 1) (some (.cells (ints (List.replicate 8 0)) 120 false none))).get 1 = some (.cells (ints (List.replicate 8 0)) 120 false none) := by rw [Tr.get_set, if_pos rfl]
  generalize ((Tr.nil : Hp).set 0 (some (.cells (ints (nestL y S B)) 113 false none))).set (0 + 1) (some (.cells (ints (List.replicate 8 0)) 120 false none)) = H1 at c0 c1 ⊢
  rw [fa113_1, bindO_some, at111 0 (0 + 1) hp, bindO_some, store53, show 0 + 1 + p * 2 = 1 + p * 2 by omega, store_two c0 (by omega), nest_fix hS hp, bindO_some, allocK_eq zero120]
  simp only [cellsV, ptr]
  have d0 : ((H1.set 0 (some (.cells (ints (nestL y (fixS S p a) B)) 113 false none))).set (0 + 1 + 1) (some (.cells (ints (List.replicate 8 0)) 120 false none))).get 0 = some (.cells (ints (nestL y (fixS S p a) B)) 113 false none) := by rw [Tr.get_set, if_neg (by omega), Tr.get_set, if_pos rfl]
  have d1 : ((H1.set 0 (some (.cells (ints (nestL y (fixS S p a) B)) 113 false none))).set (0 + 1 + 1) (some (.cells (ints (List.replicate 8 0)) 120 false none))).get 1 = some (.cells (ints (List.replicate 8 0)) 120 false none) := by rw [Tr.get_set, if_neg (by omega), Tr.get_set, if_neg (by omega)]; exact c1
  have d2 : ((H1.set 0 (some (.cells (ints (nestL y (fixS S p a) B)) 113 false none))).set (0 + 1 + 1) (some (.cells (ints (List.replicate 8 0)) 120 false none))).get 2 = some (.cells (ints (List.replicate 8 0)) 120 false none) := by rw [Tr.get_set, if_pos rfl]
  generalize (H1.set 0 (some (.cells (ints (nestL y (fixS S p a) B)) 113 false none))).set (0 + 1 + 1) (some (.cells (ints (List.replicate 8 0)) 120 false none)) = H2 at d0 d1 d2 ⊢
  have ly : loadV P H2 3 ⟨0, 0 + 0, none⟩ = some (.int .i64 y) := loadV_int (cells_at d0) agg3 (by simp [ints, nestL])
  obtain ⟨H3, t2, e2⟩ := effK_still (P := P) (ρ := Value × Hp × Nat) (ex := [.l 3 ⟨0, 0 + 0, none⟩]) (H := H2) (n := 0 + 1 + 1 + 1) (v := .int .i64 (total (fixS S p a) 0))
    (op := fun H n k => callFK P (cal (l + 2)) 98 [.agg ⟨ints (nestL y (fixS S p a) B)⟩, .func (.func 72) #[] #[]] H n fun v H n => k v H n)
    ⟨fun q hq => .inl (by
      simp only [List.mem_cons, List.not_mem_nil, or_false] at hq
      subst hq
      exact ⟨_, _, rfl, .inl ⟨_, _, _, _, d0⟩⟩), fun t a id c e h1 h2 => by simp at h2⟩ (fun H k => sum_call l (e := 0) (by omega) lf hB hbf H _ _)
  have g0 := (t2 0).trans d0
  have lsh : loadV P H3 111 ⟨0, 0 + 1, none⟩ = some (.agg ⟨ints (fixS S p a)⟩) := by
    have := loadV_agg (P := P) (k := 1) (cells_at g0) agg111 sz111 (by rw [lens]; omega) (ints_noHole _)
    rw [nest_shares lf] at this
    exact this
  rw [fa113_0, bindO_some, addrV_eq, bindO_some, ly, bindO_some, bindO_some, load_all d0 agg113 sz113 lens, bindO_some, e2, binK_some (bin_sub hI), bindO_some, addrV_eq, bindO_some, lsh, bindO_some, ← hSS]
  obtain ⟨Z, H', n', e, hZ⟩ := spread_loop (l + 1) KK lf hbf s4 (by omega) hlef 1 2 (by omega) KK 0 (List.replicate 8 0) H3 3 (by omega) (by omega) ((t2 2).trans d2) ⟨_, (t2 1).trans d1, rfl⟩ ⟨rfl, fun j hj => by omega⟩ (by omega) (by unfold KK; omega)
  have : Z = spreadL y S p a := by
    apply List.ext_getElem?
    intro q
    by_cases hq : q < 8
    · rw [getD_some (by rw [hZ.1]; exact hq), getD_some (by rw [spreadL_len]; exact hq), hZ.2 q hq, spreadL_get hq]
      rfl
    · rw [List.getElem?_eq_none (by rw [hZ.1]; omega), List.getElem?_eq_none (by rw [spreadL_len]; omega)]
  subst this
  exact ⟨H', n', e⟩
theorem flat75 : flatF P 75 = true := by kernel_rfl
theorem call75 (l : Nat) (a b c : Value) (H : Hp) (n : Nat) : (cal (l + 1)).call 75 [a, b, c] H n = C75_0 (cal l) KK a b c H n :=
  (show (cal (l + 1)).call 75 [a, b, c] H n = quick ent75 (cal l) [a, b, c] H n by kernel_rfl).trans (quick_eq ..)
theorem spreadWith_call (l : Nat) {y a : Int} {S B : List Int} {p : Nat} (hS : S.length = 16) (hB : B.length = 16) (hb : Bounded S) (hy : 0 ≤ y ∧ y ≤ 1000) (hp : p < 8) (hle : ∀ k, S.getD (k * 2) 0 ≤ S.getD (k * 2 + 1) 0) (h0 : ext y S 0 p ≤ a) (h1 : a ≤ ext y S 1 p) (H : Hp) (n : Nat) (k : Value → Hp → Nat → Option ρ) :
    callFK P (cal (l + 3)) 75 [.agg ⟨ints (nestL y S B)⟩, .int .i64 p, .int .i64 a] H n k = k (.agg ⟨ints (spreadL y S p a)⟩) H n := by
  obtain ⟨H', n', h⟩ := spreadWith_spec l (B := B) hS hB hb hy hp hle h0 h1
  refine callFK_pure flat75 ?_ ((call75 ..).trans h) ?_
  · simp only [pureL, pureV, pureA, pure_ints, Bool.and_self]
  · simp only [pureV, pureA, pure_ints]
end Go.Proofs.Ytgojjellogiglaa.spec
end
section
namespace Go.Proofs.Ytgojjellogiglaa.spec
open Go Go.Ev Go.Proofs.Ytgojjellogiglaa.nestFits Go.Proofs.Ytgojjellogiglaa.G
set_option maxRecDepth 100000
variable {ρ : Type}
noncomputable def code31 : Code := codeOf 31
noncomputable def results31 : List ResultVar := resOf 31
noncomputable def tail31 : Code := cR (cR (cR (cR (cR (cR (cR code31))))))
noncomputable def asg31 : Code := asgOf (cL (cR (cL tail31)))
noncomputable def bod31 : Code := bodOf (cL (cR (cL tail31)))
noncomputable def K31 (c : Cal) (k : Nat) : KC (Value × Hp × Nat) := codeE P c (codeF P c k) none 31 (cR tail31) .leaf (doneK P results31) X0 (doneK P results31)
noncomputable def T31 (v0 v1 v2 v3 v4 v6 v19 v21 v22 v23 v24 v10 v11 v26 v28 v29 v30 v31 v32 v33 v34 v13 v36 v37 v38 v39 v40 v41 v42 v14 v43 v44 v45 : Value) : Tm := (((((((((((((((((((((((((((((((((((((((((Tr.nil : Tm).set 0 (some (v0))).set 1 (some (v1))).set 2 (some (v2))).set 3 (some (v3))).set 4 (some (v4))).set 6 (some (v6))).set 8 (some (.slice none 0 0))).set 9 (some (.int .i64 0))).set 19 (some (v19))).set 20 (some (v1))).set 21 (some (v21))).set 18 (some (v21))).set 22 (some (v22))).set 23 (some (v23))).set 24 (some (v24))).set 10 (some (v10))).set 11 (some (v11))).set 12 (some (v24))).set 25 (some (v24))).set 26 (some (v26))).set 28 (some (v28))).set 29 (some (v29))).set 30 (some (v30))).set 31 (some (v31))).set 32 (some (v32))).set 33 (some (v33))).set 34 (some (v34))).set 13 (some (v13))).set 35 (some (v3))).set 36 (some (v36))).set 37 (some (v37))).set 38 (some (v38))).set 39 (some (v39))).set 40 (some (v40))).set 41 (some (v41))).set 42 (some (v42))).set 14 (some (v14))).set 43 (some (v43))).set 44 (some (v44))).set 45 (some (v45)))
noncomputable def R31 (c : Cal) (k : Nat) (v0 v1 v2 v3 v4 v6 v19 v21 v22 v23 v24 v10 v11 v26 v28 v29 v30 v31 v32 v33 v34 v13 : Value) (H : Hp) (n : Nat) : Res :=
  bindO (addrV v10) fun a => bindO (loadV P H 105 a) fun v36 => bindO (nilV v36) fun v37 => bindO (fieldAddrV P 117 v37 0) fun v38 => bindO (fieldAddrV P 35 v38 0) fun v39 => bindO (addrV v39) fun a => bindO (loadV P H 31 a) fun v40 => bindO (lenV P 31 v40) fun v41 =>
  stK (makeSliceP P 59 v41 v41 (bare H n)) fun v42 H n => allocK P 59 H n fun v14 H n => bindO (storeP P 59 v14 v42 H) fun H =>
  bindO (addrV v10) fun a => bindO (loadV P H 105 a) fun v43 => bindO (addrV v11) fun a => bindO (loadV P H 121 a) fun v44 => callFK P c 74 [v43, v44] H n fun v45 H n =>
  rangeK P c none 31 v45 #[46, 47] asg31 bod31 (K31 c k) (upX 0 (K31 c k) X0) (doneK P results31) (T31 v0 v1 v2 v3 v4 v6 v19 v21 v22 v23 v24 v10 v11 v26 v28 v29 v30 v31 v32 v33 v34 v13 v36 v37 v38 v39 v40 v41 v42 v14 v43 v44 v45) H n []
theorem pre31 (c : Cal) (k : Nat) (v0 v1 v2 v3 : Value) (H : Hp) (n : Nat) : bodyE P c A (k + 1) 31 [v0, v1, v2, v3] H n =
    (boxK 35 v0 H n fun v4 H n => boxK 3 v2 H n fun v6 H n => bindO (addrV v4) fun a => bindO (loadV P H 35 a) fun v19 => callFK P c 65 [v19, v1] H n fun v21 H n =>
      bindO (tupV v21 0) fun v22 => bindO (tupV v21 1) fun v23 => bindO (tupV v21 2) fun v24 => allocK P 105 H n fun v10 H n => allocK P 121 H n fun v11 H n =>
      bindO (storeP P 105 v10 v22 H) fun H => bindO (storeP P 121 v11 v23 H) fun H => binK P .neq 29 (.tmp 25) (.const (.int .i64 0)) v24 (.int .i64 0) fun v26 =>
      ifK v26 (some (.tuple ⟨[.slice none 0 0, v24]⟩, H, n)) (bindO (addrV v10) fun a => bindO (loadV P H 105 a) fun v28 => bindO (nilV v28) fun v29 => bindO (fieldAddrV P 117 v29 0) fun v30 => bindO (addrV v30) fun a => bindO (loadV P H 35 a) fun v31 =>
      bindO (addrV v6) fun a => bindO (loadV P H 3 a) fun v32 => callFK P c 71 [v31, v32] H n fun v33 H n => bindO (pureSem P v33 (Op.unary .not v33)) fun v34 =>
      ifK v34 (some (.tuple ⟨[.slice none 0 0, .int .i64 2]⟩, H, n)) (allocK P 129 H n fun v13 H n => bindO (storeP P 129 v13 (.func (.func 72) #[] #[]) H) fun H =>
      ifK v3 (bindO (storeP P 129 v13 (.func (.func 73) #[] #[]) H) fun H => R31 c k v0 v1 v2 v3 v4 v6 v19 v21 v22 v23 v24 v10 v11 v26 v28 v29 v30 v31 v32 v33 v34 v13 H n) (R31 c k v0 v1 v2 v3 v4 v6 v19 v21 v22 v23 v24 v10 v11 v26 v28 v29 v30 v31 v32 v33 v34 v13 H n)))) := by
  rw [body_eq (fn := Go.Proofs.Try.f31) (c := code31) (rs := results31) (by kernel_rfl) (by kernel_rfl) (by kernel_rfl) (by kernel_rfl)]
  kernel_rfl
theorem post31 (c : Cal) (k : Nat) (v0 v1 v2 v3 v4 v6 v19 v21 v22 v23 v24 v10 v11 v26 v28 v29 v30 v31 v32 v33 v34 v13 v36 v37 v38 v39 v40 v41 v42 v14 v43 v44 v45 : Value) (H : Hp) (n : Nat) (D : List Nat) : K31 c k (T31 v0 v1 v2 v3 v4 v6 v19 v21 v22 v23 v24 v10 v11 v26 v28 v29 v30 v31 v32 v33 v34 v13 v36 v37 v38 v39 v40 v41 v42 v14 v43 v44 v45) H n D =
    (bindO (addrV v14) fun a => bindO (loadV P H 59 a) fun v68 => getK (takeD H D) fun H => bindO (resV P (((Tr.nil : Tm).set 9 (some (.int .i64 0))).set 8 (some v68)) H results31) fun vs => some (oneV vs, H, n)) := by
  kernel_rfl
theorem call31 (l : Nat) (a b c d : Value) (H : Hp) (n : Nat) : (cal (l + 1)).call 31 [a, b, c, d] H n = bodyE P (cal l) A (KK + 1) 31 [a, b, c, d] H n := by kernel_rfl
theorem asg31_eq (l lp : Nat) (v0 v1 v2 v3 v4 v6 v19 v21 v22 v23 v24 v10 v11 v26 v28 v29 v30 v31 v32 v33 v34 v13 v36 v37 v38 v39 v40 v41 v42 v14 v43 v44 v45 p q : Value) (H : Hp) (n : Nat) :
    (cal (l + 1)).body lp 31 asg31 { T := ((T31 v0 v1 v2 v3 v4 v6 v19 v21 v22 v23 v24 v10 v11 v26 v28 v29 v30 v31 v32 v33 v34 v13 v36 v37 v38 v39 v40 v41 v42 v14 v43 v44 v45).set 46 (some p)).set 47 (some q), H, n, D := [] } =
      (allocK P 113 H n fun v16 H n => bindO (storeP P 113 v16 q H) fun H => some (.norm, { T := ((((T31 v0 v1 v2 v3 v4 v6 v19 v21 v22 v23 v24 v10 v11 v26 v28 v29 v30 v31 v32 v33 v34 v13 v36 v37 v38 v39 v40 v41 v42 v14 v43 v44 v45).set 46 (some p)).set 47 (some q)).set 15 (some p)).set 16 (some v16), H, n, D := [] })) := by kernel_rfl
theorem bod31_eq (l lp : Nat) (v0 v1 v2 v3 v4 v6 v19 v21 v22 v23 v24 v10 v11 v26 v28 v29 v30 v31 v32 v33 v34 v13 v36 v37 v38 v39 v40 v41 v42 v14 v43 v44 v45 p q v16 : Value) (H : Hp) (m : Nat) :
    (cal (l + 1)).body lp 31 bod31 { T := (((((T31 v0 v1 v2 v3 v4 v6 v19 v21 v22 v23 v24 v10 v11 v26 v28 v29 v30 v31 v32 v33 v34 v13 v36 v37 v38 v39 v40 v41 v42 v14 v43 v44 v45).set 46 (some (p))).set 47 (some (q))).set 15 (some (p))).set 16 (some (v16))), H, n := m, D := [] } =
      (bindO (addrV v16) fun a16 => bindO (loadV P H 113 a16) fun v48 => bindO (addrV v6) fun a6 => bindO (loadV P H 3 a6) fun v49 => bindO (addrV v13) fun a => bindO (loadV P H 129 a) fun v50 => bindO (addrV v6) fun a => bindO (loadV P H 3 a) fun v51 =>
        bindO (fieldAddrV P 113 v16 2) fun v52 => bindO (indexAddrV P 111 v52 v51) fun v53 => bindO (addrV v53) fun a => bindO (loadV P H 53 a) fun v54 => bindO (zeroT P 120) fun z => newK (cellsV z) 120 H m fun H n =>
        effK P [.a m (cellsV z) 120, .l 3 a6, .l 113 a16] H n (fun H n k => callVK P (cal l) v50 [v54] H n fun u H n => k u H n) fun v55 H n =>
        effK P [.a m (cellsV z) 120] H n (fun H n k => callFK P (cal l) 75 [v48, v49, v55] H n fun u H n => k u H n) fun v56 H n => bindO (storeP P 120 (ptr m) v56 H) fun H =>
        bindO (addrV v14) fun a14 => bindO (loadV P H 59 a14) fun v57 => bindO (addrV v10) fun a => bindO (loadV P H 105 a) fun v59 => bindO (nilV v59) fun v60 => bindO (fieldAddrV P 117 v60 0) fun v61 => bindO (fieldAddrV P 35 v61 0) fun v62 => bindO (addrV v62) fun a => bindO (loadV P H 31 a) fun v63 => bindO (lenV P 31 v63) fun v64 =>
        bindO (sliceV P 120 (ptr m) none (some v64)) fun v65 => effK P [.l 59 a14] H n (fun H n k => callFK P (cal l) 76 [v65] H n fun u H n => k u H n) fun v66 H n =>
        bindO (indexAddrV P 59 v57 p) fun v67 => bindO (storeP P 44 v67 v66 H) fun H =>
        some (.norm, { T := ((((((((((((((((((((((((((T31 v0 v1 v2 v3 v4 v6 v19 v21 v22 v23 v24 v10 v11 v26 v28 v29 v30 v31 v32 v33 v34 v13 v36 v37 v38 v39 v40 v41 v42 v14 v43 v44 v45).set 46 (some (p))).set 47 (some (q))).set 15 (some (p))).set 16 (some (v16))).set 48 (some (v48))).set 49 (some (v49))).set 50 (some (v50))).set 51 (some (v51))).set 52 (some (v52))).set 53 (some (v53))).set 54 (some (v54))).set 55 (some (v55))).set 56 (some (v56))).set 17 (some (ptr m))).set 57 (some (v57))).set 58 (some (p))).set 59 (some (v59))).set 60 (some (v60))).set 61 (some (v61))).set 62 (some (v62))).set 63 (some (v63))).set 64 (some (v64))).set 65 (some (v65))).set 66 (some (v66))).set 67 (some (v67))), H, n, D := [] })) := by kernel_rfl
theorem res31 (v : Value) (H : Hp) : resV P (((Tr.nil : Tm).set 9 (some (.int .i64 0))).set 8 (some v)) H results31 = some [v, .int .i64 0] := by kernel_rfl
theorem ntm31 : ntm P 31 = 69 := by kernel_rfl
theorem range31 (c : Cal) (a b : Value) (K : KC (Value × Hp × Nat)) (X : XC (Value × Hp × Nat)) (Kr : KC (Value × Hp × Nat)) (T : Tm) (H : Hp) (n : Nat) :
    rangeK P c none 31 (.func (.func 104) ⟨[]⟩ ⟨[a, b]⟩) #[46, 47] asg31 bod31 K X Kr T H n [] =
      callFK P c 104 [.func (.yield (n + 1)) #[] #[], a, b] ((H.set n (some .deferred)).set (n + 1) (some (.loop .ready none 31 T (ntm P 31) #[46, 47] asg31 bod31 n))) (n + 2) fun _ H n' => fin K X Kr (rangeOut (n + 1) { T := T, H, n := n', D := [n] }) := rfl
end Go.Proofs.Ytgojjellogiglaa.spec
end
section
namespace Go.Proofs.Ytgojjellogiglaa.spec
open Go Go.Ev Go.Proofs.Ytgojjellogiglaa.nestFits Go.Proofs.Ytgojjellogiglaa.G
set_option maxRecDepth 100000
variable {ρ : Type}
def RowAt (H : Hp) (base n : Nat) (v : Value) (xs : List Int) : Prop := (v = .slice none 0 0 ∧ xs = []) ∨ ∃ b cap, v = .slice (some ⟨b, 0, none⟩) xs.length cap ∧ base ≤ b ∧ b < n ∧ H.get b = some (.cells (ints xs) 3 false (some 1))
theorem RowAt.same {H H' : Hp} {base n m : Nat} {v : Value} {xs : List Int} (h : RowAt H base n v xs) (hm : n ≤ m) (hk : ∀ b, base ≤ b → b < n → H'.get b = H.get b) : RowAt H' base m v xs := by
  rcases h with h | ⟨b, cap, e, h1, h2, h3⟩
  · exact .inl h
  · exact .inr ⟨b, cap, e, h1, by omega, by rw [hk b h1 h2]; exact h3⟩
theorem RowAt.list {H : Hp} {base n : Nat} {v : Value} {xs : List Int} (h : RowAt H base n v xs) (hx : ∀ x ∈ xs, I64 x) : ListR H n v xs.length xs := by
  refine ⟨rfl, hx, ?_⟩
  rcases h with ⟨h1, h2⟩ | ⟨b, cap, e, h1, h2, h3⟩
  · exact .inl ⟨h1, by rw [h2]; rfl⟩
  · exact .inr ⟨b, 0, cap, e, h2, cells_at h3⟩
theorem RowAt.leaf {H : Hp} {base n : Nat} {v : Value} {xs : List Int} (h : RowAt H base n v xs) : leafV v = true := by
  rcases h with ⟨rfl, _⟩ | ⟨b, cap, rfl, _⟩ <;> rfl
theorem eq44 (p q : Operand) (b o l c : Nat) : binV P .eql 44 p q (.slice (some ⟨b, o, none⟩) l c) (.slice none 0 0) = some (.bool false) := by kernel_rfl
theorem flat76 : flatF P 76 = false := by kernel_rfl
theorem call76 (l : Nat) (a : Value) (H : Hp) (n : Nat) : (cal (l + 1)).call 76 [a] H n = C76_0 (cal l) KK a H n := by kernel_rfl
theorem clone76_at (l : Nat) {H : Hp} {n len : Nat} {v : Value} {xs : List Int} (h : ListR H n v len xs) (h0 : len ≠ 0) (hlen : len ≤ 1000) :
    ∃ H' n', (∀ k : Value → Hp → Nat → Option ρ, callFK P (cal (l + 1)) 76 [v] H n k = k (.slice (some ⟨n + 1, 0, none⟩) len capV) H' n') ∧ n + 1 < n' ∧ Keep n H H' ∧ H'.get (n + 1) = some (.cells (ints xs) 3 false (some 1)) := by
  obtain ⟨H', n', e, h1, h2, h3⟩ := list_at (cal l) KK h h0 hlen
  have e' : C76_0 (cal l) KK v H n = C23_0 (cal l) KK v H n := by
    rcases h.2.2 with ⟨_, z⟩ | ⟨b, o, cap, rfl, _⟩
    · exact absurd z h0
    · unfold C76_0 B76_0 C23_0 B23_0
      rw [binK_some (eq44 ..), ifK_f]
  refine ⟨H', n', fun k => ?_, h1, h2, h3⟩
  unfold callFK
  rw [flat76, call76, e', e]
  rfl
theorem slice120 (b : Nat) {np : Nat} (h : np ≤ 8) : sliceV P 120 (.pointer (some ⟨b, 0, none⟩)) none (some (.int .i64 np)) = some (.slice (some ⟨b, 0, none⟩) np 8) := by
  show sliceV P 120 (.pointer (some ⟨b, 0, none⟩)) none (some (.int .i64 (.ofNat np))) = _
  unfold sliceV
  simp [und120, sz3, boundsV, hiV, loV, bndIn, h, capV, addA]
theorem und59 : P.underlying 59 = some (.slice 44) := by kernel_rfl
theorem agg59 : isAggT P 59 = some false := by kernel_rfl
theorem sz59 : szT P 59 = some 1 := by kernel_rfl
theorem at59 (b k c : Nat) {i : Nat} (hi : i < k) : indexAddrV P 59 (.slice (some ⟨b, 0, none⟩) k c) (.int .i64 i) = some (.pointer (some ⟨b, 0 + i * 1, none⟩)) := by
  unfold indexAddrV
  simp only [und59, idx_lt hi, sz44]
  rfl
theorem nest_bound {y : Int} {S B : List Int} (hS : S.length = 16) {i : Nat} : ((ints (nestL y S B)).drop (17 + i * 2)).take 2 = ((ints B).drop (i * 2)).take 2 := by
  rw [ints_cut, ints_cut]
  congr 1
  unfold nestL
  rw [show 17 + i * 2 = (16 + i * 2) + 1 by omega, List.drop_succ_cons, List.drop_append, hS, List.drop_eq_nil_of_le (by omega), List.nil_append, show 16 + i * 2 - 16 = i * 2 by omega]
theorem ints_take_list {H : Hp} {b n k : Nat} {xs : List Int} {e : TypeId} {vec : Option Nat} (h : H.get b = some (.cells (ints xs) e false vec)) (hb : b < n) (hk : k ≤ xs.length) (hx : ∀ x ∈ xs, I64 x) {cap : Nat} : ListR H n (.slice (some ⟨b, 0, none⟩) k cap) k (xs.take k) := by
  refine ⟨by simp; omega, fun x hx' => hx x (List.mem_of_mem_take hx'), .inr ⟨b, 0, cap, rfl, hb, _, ints xs, h, rfl, fun q v hv => ?_⟩⟩
  have : (ints (xs.take k))[q]? = if q < k then (ints xs)[q]? else none := by
    unfold ints
    rw [List.map_take, List.getElem?_take]
  rw [this] at hv
  split at hv
  · rw [Nat.zero_add]; exact hv
  · cases hv
def IsT31 (T : Tm) (b6 b10 b13 b14 : Nat) : Prop := ∃ v0 v1 v2 v3 v4 v19 v21 v22 v23 v24 v11 v26 v28 v29 v30 v31 v32 v33 v34 v36 v37 v38 v39 v40 v41 v42 v43 v44 v45 : Value, T = T31 v0 v1 v2 v3 v4 (.pointer (some ⟨b6, 0, none⟩)) v19 v21 v22 v23 v24 (.pointer (some ⟨b10, 0, none⟩)) v11 v26 v28 v29 v30 v31 v32 v33 v34 (.pointer (some ⟨b13, 0, none⟩)) v36 v37 v38 v39 v40 v41 v42 (.pointer (some ⟨b14, 0, none⟩)) v43 v44 v45
theorem yield31 (l : Nat) {T : Tm} {H : Hp} {n lb g b6 b10 b13 b14 bs d base np nj p pad e : Nat} {f rw_ : Nat → Value} {x y z : Value} {js S B : List Int} {yy : Int} (hT : IsT31 T b6 b10 b13 b14)
    (hl : H.get lb = some (.loop .ready none 31 T (ntm P 31) #[46, 47] asg31 bod31 d))
    (h6 : H.get b6 = some (.cells [.int .i64 pad] 3 false none)) (h10 : H.get b10 = some (.cells [.pointer (some ⟨g, 0, none⟩)] 105 false none)) (h13 : H.get b13 = some (.cells [endF e] 129 false none)) (h14 : H.get b14 = some (.cells [.slice (some ⟨bs, 0, none⟩) np np] 59 false none))
    (hsp : CellsF H bs np 44 rw_) (hf : CellsF H g 859 117 f) (hs : SiteF f x y z js nj) (hx : lenV P 31 x = some (.int .i64 np)) (hnp : np ≤ 8) (hp : p < np) (hpad : pad < np) (he : e < 2)
    (hS : S.length = 16) (hSb : Bounded S) (hy : 0 ≤ yy ∧ yy ≤ 1000) (hle : ∀ k, S.getD (k * 2) 0 ≤ S.getD (k * 2 + 1) 0) (hB : BoundsTo yy S B 8) (hee : ext yy S 0 pad ≤ ext yy S 1 pad)
    (bn : base ≤ n) (hlb : lb < base) (hg : g < base) (hb6 : b6 < base) (hb10 : b10 < base) (hb13 : b13 < base) (hb14 : b14 < base) (hbs : bs < base) (e6 : b6 ≠ lb) (e10 : b10 ≠ lb) (e13 : b13 ≠ lb) (e14 : b14 ≠ lb) (ebs : bs ≠ lb) (eg : g ≠ lb) :
    ∃ u H' n', (∀ k : Value → Hp → Nat → Option ρ, callVK P (cal (l + 5)) (.func (.yield lb) #[] #[]) [.int .i64 p, .agg ⟨ints (nestL yy S B)⟩] H n k = k (.bool true) H' n') ∧ n ≤ n' ∧ H'.get lb = H.get lb ∧ CellsF H' bs np 44 (putF rw_ p [u]) ∧
      RowAt H' base n' u ((spreadL yy S pad (ext yy S e pad)).take np) ∧ ∀ b, b < n → b ≠ lb → b ≠ bs → H'.get b = H.get b := by
  have lens : (ints (nestL yy S B)).length = 33 := by rw [ints_length, nest_cells hS hB.1]
  have hpar : paramsT T (ntm P 31) (#[46, 47] : Array Tmp).toList [.int .i64 p, .agg ⟨ints (nestL yy S B)⟩] = some ((T.set 46 (some (.int .i64 p))).set 47 (some (.agg ⟨ints (nestL yy S B)⟩))) := by
    rw [ntm31]; rfl
  obtain ⟨H1, k1, k2, k3⟩ := spill (P := P) (ρ := Ex × St) (H := H) (n := n) (L := ints (nestL yy S B)) zero113 (by show (ints (nestL 0 zeros zeros)).length = 33; rw [ints_length, nest_cells zeros_len zeros_len]) sz113 lens (ints_leaf _)
  have hasg : (cal (l + 5)).body lb 31 asg31 { T := (T.set 46 (some (.int .i64 p))).set 47 (some (.agg ⟨ints (nestL yy S B)⟩)), H, n, D := [] } = some (.norm, { T := (((T.set 46 (some (.int .i64 p))).set 47 (some (.agg ⟨ints (nestL yy S B)⟩))).set 15 (some (.int .i64 p))).set 16 (some (.pointer (some ⟨n, 0, none⟩))), H := H1, n := n + 1, D := [] }) := by
    obtain ⟨v0, v1, v2, v3, v4, v19, v21, v22, v23, v24, v11, v26, v28, v29, v30, v31, v32, v33, v34, v36, v37, v38, v39, v40, v41, v42, v43, v44, v45, rfl⟩ := hT
    rw [asg31_eq, k3]
  have hl1 := (k1 lb (by omega)).trans hl
  have hrdy : isReady H1 lb = true := by unfold isReady; rw [hl1]
  have hpen : pendingOf H1 lb = none := by unfold pendingOf; rw [hl1]
  have hbusy : setLoop H1 lb .busy none = some (H1.set lb (some (.loop .busy none 31 T (ntm P 31) #[46, 47] asg31 bod31 d))) := by unfold setLoop; rw [hl1]
  have ho : ∀ b, b ≠ lb → (H1.set lb (some (.loop .busy none 31 T (ntm P 31) #[46, 47] asg31 bod31 d))).get b = H1.get b := fun b hb => by rw [Tr.get_set, if_neg hb]
  have gl : (H1.set lb (some (.loop .busy none 31 T (ntm P 31) #[46, 47] asg31 bod31 d))).get lb = some (.loop .busy none 31 T (ntm P 31) #[46, 47] asg31 bod31 d) := by rw [Tr.get_set, if_pos rfl]
  generalize H1.set lb (some (.loop .busy none 31 T (ntm P 31) #[46, 47] asg31 bod31 d)) = H2 at hbusy ho gl
  have low : ∀ b, b < n → b ≠ lb → H2.get b = H.get b := fun b hb hne => (ho b hne).trans (k1 b hb)
  have gn : H2.get n = some (.cells (ints (nestL yy S B)) 113 false none) := (ho n (by omega)).trans k2
  have g6 := (low b6 (by omega) e6).trans h6
  have g10 := (low b10 (by omega) e10).trans h10
  have g13 := (low b13 (by omega) e13).trans h13
  have g14 := (low b14 (by omega) e14).trans h14
  have ln : loadV P H2 113 ⟨n, 0, none⟩ = some (.agg ⟨ints (nestL yy S B)⟩) := load_all gn agg113 sz113 lens
  have l6 : loadV P H2 3 ⟨b6, 0, none⟩ = some (.int .i64 pad) := loadV_int (o := 0) (k := 0) (cells_at g6) agg3 rfl
  have l13 : loadV P H2 129 ⟨b13, 0, none⟩ = some (endF e) := loadV_scalar (o := 0) (k := 0) (cells_at g13) agg129 rfl (endF_leaf _).2.1 (endF_leaf _).2.2.1
  have lb53 : loadV P H2 53 ⟨n, 0 + 17 + pad * 2, none⟩ = some (.agg ⟨((ints B).drop (pad * 2)).take 2⟩) := by
    have := loadV_agg (P := P) (k := 17 + pad * 2) (cells_at gn) agg53 sz53 (by rw [lens]; omega) (ints_noHole _)
    rw [nest_bound hS, ← Nat.add_assoc] at this
    exact this
  have z8 : (ints (List.replicate 8 0)).length = 8 := rfl
  have m1 : (H2.set (n + 1) (some (.cells (ints (List.replicate 8 0)) 120 false none))).get (n + 1) = some (.cells (ints (List.replicate 8 0)) 120 false none) := by rw [Tr.get_set, if_pos rfl]
  have m2 : ∀ b, b < n + 1 → (H2.set (n + 1) (some (.cells (ints (List.replicate 8 0)) 120 false none))).get b = H2.get b := fun b hb => by rw [Tr.get_set, if_neg (by omega)]
  generalize hH3 : H2.set (n + 1) (some (.cells (ints (List.replicate 8 0)) 120 false none)) = H3 at m1 m2
  obtain ⟨H4, s4, c4⟩ := effK_still (P := P) (ρ := Ex × St) (ex := [.a (n + 1) (ints (List.replicate 8 0)) 120, .l 3 ⟨b6, 0, none⟩, .l 113 ⟨n, 0, none⟩]) (H := H3) (n := n + 1 + 1) (v := .int .i64 (B.getD (pad * 2 + e) 0))
    (op := fun H n k => callVK P (cal (l + 4)) (endF e) [.agg ⟨((ints B).drop (pad * 2)).take 2⟩] H n fun v H n => k v H n)
    ⟨fun q hq => by
      simp only [List.mem_cons, List.not_mem_nil, or_false] at hq
      rcases hq with rfl | rfl | rfl
      · exact .inr ⟨_, _, _, rfl⟩
      · exact .inl ⟨_, _, rfl, .inl ⟨_, _, _, _, (m2 b6 (by omega)).trans g6⟩⟩
      · exact .inl ⟨_, _, rfl, .inl ⟨_, _, _, _, (m2 n (by omega)).trans gn⟩⟩, fun t a id c e h1 h2 => by
      simp only [List.mem_cons, List.not_mem_nil, or_false, Extra.a.injEq, reduceCtorEq, Extra.l.injEq, false_or] at h1 h2
      obtain ⟨rfl, _⟩ := h2
      rcases h1 with ⟨_, rfl⟩ | ⟨_, rfl⟩
      · show b6 ≠ n + 1; omega
      · show n ≠ n + 1; omega⟩ (fun H k => end_call (l + 3) he B (pad * 2) (by rw [hB.1]; omega) H _ _)
  have hnum : B.getD (pad * 2 + e) 0 = ext yy S e pad := by
    obtain ⟨q0, q1⟩ := hB.2 pad (by omega)
    match e, he with
    | 0, _ => exact q0
    | 1, _ => exact q1
  have hlo : ext yy S 0 pad ≤ ext yy S e pad ∧ ext yy S e pad ≤ ext yy S 1 pad := by
    match e, he with
    | 0, _ => exact ⟨Int.le_refl _, hee⟩
    | 1, _ => exact ⟨hee, Int.le_refl _⟩
  obtain ⟨H5, s5, c5⟩ := effK_still (P := P) (ρ := Ex × St) (ex := [.a (n + 1) (ints (List.replicate 8 0)) 120]) (H := H4) (n := n + 1 + 1) (v := .agg ⟨ints (spreadL yy S pad (ext yy S e pad))⟩)
    (op := fun H n k => callFK P (cal (l + 4)) 75 [.agg ⟨ints (nestL yy S B)⟩, .int .i64 pad, .int .i64 (ext yy S e pad)] H n fun v H n => k v H n)
    ⟨fun q hq => by
      simp only [List.mem_cons, List.not_mem_nil, or_false] at hq
      subst hq
      exact .inr ⟨_, _, _, rfl⟩, fun t a id c e h1 h2 => by simp at h1⟩
    (fun H k => spreadWith_call (l + 1) hS hB.1 hSb hy (by omega) hle hlo.1 hlo.2 H _ _)
  generalize hN : spreadL yy S pad (ext yy S e pad) = N at c5 ⊢
  have lN : N.length = 8 := by rw [← hN]; exact spreadL_len ..
  have lNi : (ints N).length = 8 := by rw [ints_length, lN]
  have hNs : ∀ w ∈ N, I64 w := by
    intro w hw
    obtain ⟨q, hq, rfl⟩ := List.mem_iff_getElem.1 hw
    have : N[q] = N.getD q 0 := by rw [List.getD_eq_getElem?_getD, List.getElem?_eq_getElem hq]; rfl
    rw [this, ← hN, spreadL_get (by omega)]
    obtain ⟨r0, r1⟩ := (spreadN_ok hS (show pad < 8 by omega) hle hlo.1 hlo.2).1 q
    have := hSb (q * 2)
    have := hSb (q * 2 + 1)
    unfold I64; omega
  have g5 : H5.get (n + 1) = some (.cells (ints (List.replicate 8 0)) 120 false none) := by rw [s5, s4]; exact m1
  have hst := storeN_all (vs := ints N) g5 (by rw [lNi, z8]) (ints_leaf _)
  have o6 : ∀ b, b < n + 1 → (H5.set (n + 1) (some (.cells (ints N) 120 false none))).get b = H2.get b := fun b hb => by rw [Tr.get_set, if_neg (by omega), s5, s4, m2 b hb]
  have j6 : (H5.set (n + 1) (some (.cells (ints N) 120 false none))).get (n + 1) = some (.cells (ints N) 120 false none) := by rw [Tr.get_set, if_pos rfl]
  generalize H5.set (n + 1) (some (.cells (ints N) 120 false none)) = H6 at hst o6 j6
  have l14 : loadV P H6 59 ⟨b14, 0, none⟩ = some (.slice (some ⟨bs, 0, none⟩) np np) := loadV_scalar (o := 0) (k := 0) (cells_at ((o6 b14 (by omega)).trans g14)) agg59 rfl rfl rfl
  have l10 : loadV P H6 105 ⟨b10, 0, none⟩ = some (.pointer (some ⟨g, 0, none⟩)) := loadV_scalar (o := 0) (k := 0) (cells_at ((o6 b10 (by omega)).trans g10)) agg105 rfl rfl rfl
  have hf6 : CellsF H6 g 859 117 f := by
    obtain ⟨c, a1, a2, a3⟩ := hf
    exact ⟨c, by rw [o6 g (by omega), low g (by omega) eg]; exact a1, a2, a3⟩
  have lx : loadV P H6 31 ⟨g, 0 + 0 + 0, none⟩ = some x := by
    have := hf6.load (P := P) (k := 0) agg31 (by omega)
    rw [hs.x] at this; exact this
  have hld : ∀ b, ldOf [.l 59 ⟨b14, 0, none⟩] b → b = b14 := by
    rintro b ⟨t, a, h1, h2⟩
    simp only [List.mem_cons, List.not_mem_nil, or_false] at h1
    cases h1
    exact h2.symm
  have hclone : ∀ Hm, (∀ b, ¬ ldOf [.l 59 ⟨b14, 0, none⟩] b → Hm.get b = H6.get b) → ∃ H' n', (∀ k : Value → Hp → Nat → Option (Ex × St), callFK P (cal (l + 4)) 76 [.slice (some ⟨n + 1, 0, none⟩) np 8] Hm (n + 1 + 1) k = k (.slice (some ⟨n + 1 + 1 + 1, 0, none⟩) np capV) H' n') ∧ n + 1 + 1 + 1 < n' ∧ Keep (n + 1 + 1) Hm H' ∧ H'.get (n + 1 + 1 + 1) = some (.cells (ints (N.take np)) 3 false (some 1)) := by
    intro Hm hm
    have hwm : ListR Hm (n + 1 + 1) (.slice (some ⟨n + 1, 0, none⟩) np 8) np (N.take np) := ints_take_list ((hm (n + 1) (fun h => by have := hld _ h; omega)).trans j6) (by omega) (by omega) hNs
    exact clone76_at (l + 3) hwm (by omega) (by omega)
  obtain ⟨H7, H7', n7, c7, ⟨r1, r2, r3⟩, r4, r5⟩ := effK_gen (P := P) (ρ := Ex × St) (ex := [.l 59 ⟨b14, 0, none⟩]) (H := H6) (n := n + 1 + 1) (v := .slice (some ⟨n + 1 + 1 + 1, 0, none⟩) np capV)
    (op := fun H m k => callFK P (cal (l + 4)) 76 [.slice (some ⟨n + 1, 0, none⟩) np 8] H m fun u H n => k u H n)
    (R := fun H' n' => n + 1 + 1 + 1 < n' ∧ (∀ b, b < n + 1 + 1 → ¬ ldOf [.l 59 ⟨b14, 0, none⟩] b → H'.get b = H6.get b) ∧ H'.get (n + 1 + 1 + 1) = some (.cells (ints (N.take np)) 3 false (some 1)))
    (fun q hq => by
      simp only [List.mem_cons, List.not_mem_nil, or_false] at hq
      subst hq
      exact ⟨_, _, rfl, .inl ⟨_, _, _, _, (o6 b14 (by omega)).trans g14⟩⟩)
    (fun Hm hm => by
      obtain ⟨H', n', q1, q2, q3, q4⟩ := hclone Hm hm
      exact ⟨H', n', fun k => q1 _, fun b hb => q3 b (by have := hld b hb; omega), q2, fun b hb hnb => by rw [q3 b hb, hm b hnb], q4⟩)
  have o7 : ∀ b, b < n + 1 + 1 → H7.get b = H6.get b := fun b hb => by
    by_cases c : ldOf [.l 59 ⟨b14, 0, none⟩] b
    · exact r4 b c
    · rw [r5 b c, r2 b hb c]
  have j7 : H7.get (n + 1 + 1 + 1) = some (.cells (ints (N.take np)) 3 false (some 1)) := by rw [r5 _ (fun h => by have := hld _ h; omega)]; exact r3
  have hsp7 : CellsF H7 bs np 44 rw_ := by
    obtain ⟨c, a1, a2, a3⟩ := hsp
    exact ⟨c, by rw [o7 bs (by omega), o6 bs (by omega), low bs (by omega) ebs]; exact a1, a2, a3⟩
  obtain ⟨H8, t1, t2, t3⟩ := hsp7.storeN (o := p) (vs := [.slice (some ⟨n + 1 + 1 + 1, 0, none⟩) np capV]) (by simp; omega) rfl
  have hbody : ∃ T', (cal (l + 5)).body lb 31 bod31 { T := (((T.set 46 (some (.int .i64 p))).set 47 (some (.agg ⟨ints (nestL yy S B)⟩))).set 15 (some (.int .i64 p))).set 16 (some (.pointer (some ⟨n, 0, none⟩))), H := H2, n := n + 1, D := [] } = some (.norm, { T := T', H := H8, n := n7, D := [] }) := by
    obtain ⟨v0, v1, v2, v3, v4, v19, v21, v22, v23, v24, v11, v26, v28, v29, v30, v31, v32, v33, v34, v36, v37, v38, v39, v40, v41, v42, v43, v44, v45, rfl⟩ := hT
    have hnk : ∀ k : Hp → Nat → Option (Ex × St), newK (cellsV (.agg ⟨ints (List.replicate 8 0)⟩)) 120 H2 (n + 1) k = k H3 (n + 1 + 1) := fun k => by rw [← hH3]; rfl
    have hcv : cellsV (.agg ⟨ints (List.replicate 8 0)⟩) = ints (List.replicate 8 0) := rfl
    rw [bod31_eq (l + 4), addrV_eq, bindO_some, ln, bindO_some, addrV_eq, bindO_some, l6, bindO_some, addrV_eq, bindO_some, l13, bindO_some, bindO_some, l6, bindO_some, fa113_2, bindO_some, at111 n (0 + 17) (by omega), bindO_some, addrV_eq, bindO_some, lb53, bindO_some, zero120, bindO_some, hnk, hcv, c4, hnum, c5]
    simp only [ptr]
    rw [storeP_agg sz120 lNi, hst, bindO_some, addrV_eq, bindO_some, l14, bindO_some, addrV_eq, bindO_some, l10, bindO_some, nil_ptr, bindO_some, fa117_0, bindO_some, fa35_0, bindO_some, addrV_eq, bindO_some, lx, bindO_some, hx, bindO_some, slice120 _ hnp, bindO_some, c7, at59 _ _ _ hp, bindO_some,
      storeP_leaf sz44 rfl, show 0 + p * 1 = p by omega, t1, bindO_some]
    exact ⟨_, rfl⟩
  obtain ⟨T', hbody⟩ := hbody
  have g8l : H8.get lb = some (.loop .busy none 31 T (ntm P 31) #[46, 47] asg31 bod31 d) := by rw [t3 lb (Ne.symm ebs), o7 lb (by omega), o6 lb (by omega)]; exact gl
  have hend : setLoop H8 lb .ready none = some (H8.set lb (some (.loop .ready none 31 T (ntm P 31) #[46, 47] asg31 bod31 d))) := by unfold setLoop; rw [g8l]
  refine ⟨.slice (some ⟨n + 1 + 1 + 1, 0, none⟩) np capV, H8.set lb (some (.loop .ready none 31 T (ntm P 31) #[46, 47] asg31 bod31 d)), n7, fun k => ?_, by omega, by rw [Tr.get_set, if_pos rfl, hl], t2.other ebs, .inr ⟨n + 1 + 1 + 1, capV, by simp [lN]; omega, by omega, r1, ?_⟩, fun b hb h1 h2 => ?_⟩
  · show stK (yieldF (fun | some l' => (cal (l + 5)).body l' | none => fun _ _ _ => none) P lb [.int .i64 p, .agg ⟨ints (nestL yy S B)⟩] (bare H n)) k = _
    have hy : yieldF (fun | some l' => (cal (l + 5)).body l' | none => fun _ _ _ => none) P lb [.int .i64 p, .agg ⟨ints (nestL yy S B)⟩] (bare H n) = some (.bool true, { bare H n with H := H8.set lb (some (.loop .ready none 31 T (ntm P 31) #[46, 47] asg31 bod31 d)), n := n7 }) := by
      unfold yieldF
      have hb : Nat.beq (ntm P 31) (ntm P 31) = true := Nat.beq_refl _
      have hx : exCode .norm = some none := rfl
      simp only [bare, hl, hb, hpar, hasg, hrdy, hpen, hbusy, hbody, hx, Option.isNone_none, if_true, hend]
    rw [hy]
    rfl
  · rw [Tr.get_set, if_neg (by omega), t3 _ (by omega)]
    exact j7
  · rw [Tr.get_set, if_neg h1, t3 b h2, o7 b (by omega), o6 b (by omega), low b hb h1]
end Go.Proofs.Ytgojjellogiglaa.spec
end
section
namespace Go.Proofs.Ytgojjellogiglaa.spec
open Go Go.Ev Go.Proofs.Ytgojjellogiglaa.nestFits Go.Proofs.Ytgojjellogiglaa.G
set_option maxRecDepth 100000
variable {ρ : Type}
theorem zero105 : zeroT P 105 = some (.pointer none) := by kernel_rfl
theorem sz105 : szT P 105 = some 1 := by kernel_rfl
theorem zero44 : zeroT P 44 = some (.slice none 0 0) := by kernel_rfl
theorem zero129 : zeroT P 129 = some .nilFunc := by kernel_rfl
theorem sz129 : szT P 129 = some 1 := by kernel_rfl
theorem zero59 : zeroT P 59 = some (.slice none 0 0) := by kernel_rfl
theorem sl59 : sliceElem P 59 = some 44 := by kernel_rfl
theorem by44 : bytesT P 44 = some 24 := by kernel_rfl
theorem make59 (H : Hp) (n : Nat) {np : Nat} (h : np ≤ 1000) : makeSliceP P 59 (.int .i64 np) (.int .i64 np) (bare H n) = some (.slice (some ⟨n, 0, none⟩) np np, bare (H.set n (some (.cells (List.replicate np (.slice none 0 0)) 44 false none))) (n + 1)) := by
  show makeSliceP P 59 (.int .i64 (.ofNat np)) (.int .i64 (.ofNat np)) (bare H n) = _
  unfold makeSliceP
  have hb : bigOk np 1 24 = true := by unfold bigOk; simp; omega
  simp only [sl59, sz44, by44, zero44]
  rw [if_pos ⟨Nat.le_refl _, hb, rfl⟩]
  have : repl np (cellsV (.slice none 0 0)) = List.replicate np (.slice none 0 0) := repl_one _ _
  rw [this]
  rfl
theorem cells_two (H2 : Hp) (n2 : Nat) (q : Option Addr) (L : List Int) (hL : L.length = 8) : ∃ H3, Keep n2 H2 H3 ∧ H3.get n2 = some (.cells [.pointer q] 105 false none) ∧ H3.get (n2 + 1) = some (.cells (ints L) 121 false none) ∧
    ∀ k : Value → Value → Hp → Nat → Res, (allocK P 105 H2 n2 fun v6 H n => allocK P 121 H n fun v7 H n => bindO (storeP P 105 v6 (.pointer q) H) fun H => bindO (storeP P 121 v7 (.agg ⟨ints L⟩) H) fun H => k v6 v7 H n) = k (.pointer (some ⟨n2, 0, none⟩)) (.pointer (some ⟨n2 + 1, 0, none⟩)) H3 (n2 + 1 + 1) := by
  have lens : (ints L).length = 8 := by rw [ints_length, hL]
  have e1 : ((H2.set n2 (some (.cells [.pointer none] 105 false none))).set (n2 + 1) (some (.cells (ints (List.replicate 8 0)) 121 false none))).get n2 = some (.cells [.pointer none] 105 false none) := by rw [Tr.get_set, if_neg (by omega), Tr.get_set, if_pos rfl]
  have e2 : ((H2.set n2 (some (.cells [.pointer none] 105 false none))).set (n2 + 1) (some (.cells (ints (List.replicate 8 0)) 121 false none))).get (n2 + 1) = some (.cells (ints (List.replicate 8 0)) 121 false none) := by rw [Tr.get_set, if_pos rfl]
  have e3 : Keep n2 H2 ((H2.set n2 (some (.cells [.pointer none] 105 false none))).set (n2 + 1) (some (.cells (ints (List.replicate 8 0)) 121 false none))) := ((Keep.refl n2 H2).set (Nat.le_refl _) _).set (by omega) _
  have ha : ∀ k : Value → Value → Hp → Nat → Res, (allocK P 105 H2 n2 fun v6 H n => allocK P 121 H n fun v7 H n => k v6 v7 H n) = k (.pointer (some ⟨n2, 0, none⟩)) (.pointer (some ⟨n2 + 1, 0, none⟩)) ((H2.set n2 (some (.cells [.pointer none] 105 false none))).set (n2 + 1) (some (.cells (ints (List.replicate 8 0)) 121 false none))) (n2 + 1 + 1) := by
    intro k
    rw [allocK_eq zero105, allocK_eq zero121]
    rfl
  generalize (H2.set n2 (some (.cells [.pointer none] 105 false none))).set (n2 + 1) (some (.cells (ints (List.replicate 8 0)) 121 false none)) = H3 at e1 e2 e3 ha
  have s1 := storeN_all (vs := [.pointer q]) e1 rfl rfl
  have f2 : (H3.set n2 (some (.cells [.pointer q] 105 false none))).get (n2 + 1) = some (.cells (ints (List.replicate 8 0)) 121 false none) := by rw [Tr.get_set, if_neg (by omega)]; exact e2
  have s2 := storeN_all (vs := ints L) f2 (by rw [lens]; rfl) (ints_leaf _)
  refine ⟨_, (e3.set (Nat.le_refl _) (some (.cells [.pointer q] 105 false none))).set (show n2 ≤ n2 + 1 by omega) (some (.cells (ints L) 121 false none)), by rw [Tr.get_set, if_neg (by omega), Tr.get_set, if_pos rfl], by rw [Tr.get_set, if_pos rfl], fun k => ?_⟩
  rw [ha, storeP_leaf sz105 rfl, s1, bindO_some, storeP_agg sz121 lens, s2, bindO_some]
theorem cell_one {t : TypeId} {z v : Value} (hz : zeroT P t = some z) (hcz : cellsV z = [z]) (hs : szT P t = some 1) (hv : leafV v = true) (H : Hp) (n : Nat) : ∃ H', Keep n H H' ∧ H'.get n = some (.cells [v] t false none) ∧
    ∀ k : Value → Hp → Nat → Option ρ, (allocK P t H n fun u H n => bindO (storeP P t u v H) fun H => k u H n) = k (.pointer (some ⟨n, 0, none⟩)) H' (n + 1) := by
  have e1 : (H.set n (some (.cells [z] t false none))).get n = some (.cells [z] t false none) := by rw [Tr.get_set, if_pos rfl]
  have e2 : Keep n H (H.set n (some (.cells [z] t false none))) := (Keep.refl n H).set (Nat.le_refl _) _
  have s1 := storeN_all (vs := [v]) e1 rfl (by simp [hv])
  refine ⟨_, e2.set (Nat.le_refl _) (some (.cells [v] t false none)), by rw [Tr.get_set, if_pos rfl], fun k => ?_⟩
  rw [allocK_eq hz, hcz]
  simp only [ptr]
  rw [storeP_leaf hs hv, s1, bindO_some]
noncomputable def spreadR (js ks L : List Int) (nj np pad e p : Nat) : List Int := if L.getD p 0 = -1 then [] else (spreadL (ks.getD ((L.getD p 0).toNat * 5) 0) (shP js ks nj np p (L.getD p 0).toNat) pad (ext (ks.getD ((L.getD p 0).toNat * 5) 0) (shP js ks nj np p (L.getD p 0).toNat) e pad)).take np
structure NestsOk (js ks L : List Int) (nj np nk pad : Nat) : Prop where
  kinds : KindsIn L np nk
  ok : KindsOk ks nk
  le : ∀ p kd, p < np → kd < nk → ∀ k, (shP js ks nj np p kd).getD (k * 2) 0 ≤ (shP js ks nj np p kd).getD (k * 2 + 1) 0
  ends : ∀ p (kd : Nat), p < np → L.getD p 0 = kd → ext (ks.getD (kd * 5) 0) (shP js ks nj np p kd) 0 pad ≤ ext (ks.getD (kd * 5) 0) (shP js ks nj np p kd) 1 pad
theorem worst_range (l : Nat) {TT : Value → Tm} {H : Hp} {n g b6 b10 b13 b14 bs np nj nk pad e n0 : Nat} {f : Nat → Value} {x y z : Value} {js ks L : List Int} (hT0 : ∀ v, IsT31 (TT v) b6 b10 b13 b14)
    (h6 : H.get b6 = some (.cells [.int .i64 pad] 3 false none)) (h10 : H.get b10 = some (.cells [.pointer (some ⟨g, 0, none⟩)] 105 false none)) (h13 : H.get b13 = some (.cells [endF e] 129 false none)) (h14 : H.get b14 = some (.cells [.slice (some ⟨bs, 0, none⟩) np np] 59 false none))
    (hsp : CellsF H bs np 44 fun _ => .slice none 0 0) (hf : CellsF H g 859 117 f) (hs : SiteF f x y z js nj) (hn : ∀ p kd, p < np → kd < nk → NestAt f js ks nj np p kd) (hx : lenV P 31 x = some (.int .i64 np)) (hnp : np ≤ 8) (hnk : nk ≤ 3) (hpad : pad < np) (he : e < 2) (hL : L.length = 8) (hok : NestsOk js ks L nj np nk pad)
    (hg : g < n) (hb6 : b6 < n) (hb10 : b10 < n) (hb13 : b13 < n) (hb14 : b14 < n) (hbs : bs < n) (hn0 : n0 ≤ bs) (egs : g ≠ bs) (e6s : b6 ≠ bs) (e10s : b10 ≠ bs) (e13s : b13 ≠ bs) (e14s : b14 ≠ bs) (hnn : n0 ≤ n) :
    ∃ H' n' rw_, (callFK P (cal (l + 7)) 74 [.pointer (some ⟨g, 0, none⟩), .agg ⟨ints L⟩] H n fun v45 H n => rangeK P (cal (l + 7)) none 31 v45 #[46, 47] asg31 bod31 (K31 (cal (l + 7)) KK) (upX 0 (K31 (cal (l + 7)) KK) X0) (doneK P results31) (TT v45) H n []) = some (.tuple ⟨[.slice (some ⟨bs, 0, none⟩) np np, .int .i64 0]⟩, H', n') ∧ n ≤ n' ∧ Keep n0 H H' ∧
      CellsF H' bs np 44 rw_ ∧ ∀ p, p < np → RowAt H' n n' (rw_ p) (spreadR js ks L nj np pad e p) := by
  have lens : (ints L).length = 8 := by rw [ints_length, hL]
  rw [placed_call (l + 6), range31]
  generalize hH5 : (H.set n (some (.cells [.pointer (some ⟨g, 0, none⟩)] 105 false none))).set (n + 1) (some (.cells (ints L) 121 false none)) = H5
  have q1 : ∀ b, b < n → H5.get b = H.get b := fun b hb => by rw [← hH5, Tr.get_set, if_neg (by omega), Tr.get_set, if_neg (by omega)]
  have q3 : H5.get n = some (.cells [.pointer (some ⟨g, 0, none⟩)] 105 false none) := by rw [← hH5, Tr.get_set, if_neg (by omega), Tr.get_set, if_pos rfl]
  have q4 : H5.get (n + 1) = some (.cells (ints L) 121 false none) := by rw [← hH5, Tr.get_set, if_pos rfl]
  clear hH5
  have hc104 : ∀ (a b c : Value) (H : Hp) (n : Nat) (k : Value → Hp → Nat → Res), pureV b = false → callFK P (cal (l + 7)) 104 [a, b, c] H n k = bindO (C104_0 (cal (l + 6)) KK a b c H n) fun r => k r.1 r.2.1 r.2.2 := by
    intro a b c H n k hb
    unfold callFK
    have : (flatF P 104 && pureL [a, b, c]) = false := by simp [pureL, hb]
    rw [this, call104]
  rw [hc104 _ _ _ _ _ _ rfl]
  have hT := hT0 (.func (.func 104) ⟨[]⟩ ⟨[.pointer (some ⟨n + 1, 0, none⟩), .pointer (some ⟨n, 0, none⟩)]⟩)
  generalize TT (.func (.func 104) ⟨[]⟩ ⟨[.pointer (some ⟨n + 1, 0, none⟩), .pointer (some ⟨n, 0, none⟩)]⟩) = T at hT
  generalize hH6 : (H5.set (n + 2) (some .deferred)).set (n + 2 + 1) (some (.loop .ready none 31 T (ntm P 31) #[46, 47] asg31 bod31 (n + 2))) = H6
  have r1 : ∀ b, b < n + 2 → H6.get b = H5.get b := fun b hb => by rw [← hH6, Tr.get_set, if_neg (by omega), Tr.get_set, if_neg (by omega)]
  have r2 : H6.get (n + 2) = some .deferred := by rw [← hH6, Tr.get_set, if_neg (by omega), Tr.get_set, if_pos rfl]
  have r3 : H6.get (n + 2 + 1) = some (.loop .ready none 31 T (ntm P 31) #[46, 47] asg31 bod31 (n + 2)) := by rw [← hH6, Tr.get_set, if_pos rfl]
  clear hH6
  have low : ∀ b, b < n → H6.get b = H.get b := fun b hb => by rw [r1 _ (by omega), q1 _ hb]
  have l104 : loadV P H6 121 ⟨n + 1, 0, none⟩ = some (.agg ⟨ints L⟩) := load_all (by rw [r1 _ (by omega)]; exact q4) agg121 sz121 lens
  have hf6 : CellsF H6 g 859 117 f := by
    obtain ⟨c, a1, a2, a3⟩ := hf
    exact ⟨c, (low g hg).trans a1, a2, a3⟩
  have hsp6 : CellsF H6 bs np 44 fun _ => .slice none 0 0 := by
    obtain ⟨c, a1, a2, a3⟩ := hsp
    exact ⟨c, (low bs hbs).trans a1, a2, a3⟩
  obtain ⟨H7, n7, i0, i1, i2, rw_, i3, i4, i5, i6⟩ := iter104_loop (cal (l + 6)) KK (.func (.yield (n + 2 + 1)) #[] #[]) n g np nj nk js ks L hL hok.kinds hnp hnk
    (fun i Hc nc => n + 2 + 2 ≤ nc ∧ Hc.get (n + 2 + 1) = some (.loop .ready none 31 T (ntm P 31) #[46, 47] asg31 bod31 (n + 2)) ∧ ∃ rw_ : Nat → Value, CellsF Hc bs np 44 rw_ ∧ (∀ p, p < np → p < i → RowAt Hc (n + 2 + 2) nc (rw_ p) (spreadR js ks L nj np pad e p)) ∧ (∀ p, p < np → i ≤ p → rw_ p = .slice none 0 0) ∧ ∀ b, b < n + 2 + 2 → b ≠ n + 2 + 1 → b ≠ bs → Hc.get b = H6.get b)
    (fun i Hc nc ⟨_, _, rw_, _, _, _, h⟩ => by
      refine ⟨loadV_scalar (o := 0) (k := 0) (cells_at (by rw [h _ (by omega) (by omega) (by omega), r1 _ (by omega)]; exact q3)) agg105 rfl rfl rfl, fun p kd hp hkd => ?_⟩
      have cg : CellsF Hc g 859 117 f := by
        obtain ⟨c, a1, a2, a3⟩ := hf6
        exact ⟨c, by rw [h _ (by omega) (by omega) egs]; exact a1, a2, a3⟩
      exact nest_load cg (hn p kd hp hkd) (by omega) (by omega))
    (fun i Hc nc kd B ⟨j1, j2, rw_, j3, j4, j5, j6⟩ hip hkd hLi hB => by
      obtain ⟨y1, _, _⟩ := hok.ok kd hkd
      have hsb := shP_bounded (js := js) (nj := nj) hok.ok hkd hnp hip
      obtain ⟨u, H', n', z1, z2, z3, z4, z5, z6⟩ := yield31 (ρ := Value × Hp × Nat) (l + 1) (n := nc) (base := n + 2 + 2) (p := i) (e := e) (f := f) hT j2 (by rw [j6 _ (by omega) (by omega) e6s, low _ hb6]; exact h6) (by rw [j6 _ (by omega) (by omega) e10s, low _ hb10]; exact h10) (by rw [j6 _ (by omega) (by omega) e13s, low _ hb13]; exact h13) (by rw [j6 _ (by omega) (by omega) e14s, low _ hb14]; exact h14) j3
        (by
          obtain ⟨c, a1, a2, a3⟩ := hf6
          exact ⟨c, by rw [j6 _ (by omega) (by omega) egs]; exact a1, a2, a3⟩) hs hx hnp hip hpad he (shP_len ..) hsb y1 (hok.le i kd hip hkd) hB (hok.ends i kd hip hLi) j1 (by omega) (by omega) (by omega) (by omega) (by omega) (by omega) (by omega) (by omega) (by omega) (by omega) (by omega) (by omega) (by omega)
      refine ⟨H', n', z1, by omega, by rw [z3, j2], putF rw_ i [u], z4, fun p hp hpi => ?_, fun p hp hpi => ?_, fun b hb h1 h2 => (z6 b (by omega) h1 h2).trans (j6 b hb h1 h2)⟩
      · rw [putF_one]
        by_cases c : p = i
        · subst c
          rw [if_pos rfl]
          unfold spreadR
          rw [if_neg (by omega), hLi, Int.toNat_natCast]
          exact z5
        · rw [if_neg c]
          exact (j4 p hp (by omega)).same z2 fun b h1 h2 => z6 b h2 (by omega) (by omega)
      · rw [putF_one, if_neg (by omega)]
        exact j5 p hp (by omega))
    (fun i Hc nc ⟨j1, j2, rw_, j3, j4, j5, j6⟩ hLi => ⟨j1, j2, rw_, j3, fun p hp hpi => by
      by_cases c : p = i
      · subst c
        refine .inl ⟨j5 p hp (Nat.le_refl _), ?_⟩
        unfold spreadR
        rw [if_pos hLi]
      · exact j4 p hp (by omega), fun p hp hpi => j5 p hp (by omega), j6⟩)
    KK 0 H6 (n + 2 + 2) ⟨Nat.le_refl _, r3, _, hsp6, fun p hp h => absurd h (by omega), fun p hp h => rfl, fun _ _ _ _ => rfl⟩ (by omega) (by unfold KK; omega)
  have e3' : C104_0 (cal (l + 6)) KK (.func (.yield (n + 2 + 1)) #[] #[]) (.pointer (some ⟨n + 1, 0, none⟩)) (.pointer (some ⟨n, 0, none⟩)) H6 (n + 2 + 2) = some (.tuple ⟨[]⟩, H7, n7) := by
    unfold C104_0 B104_0
    rw [addrV_eq, bindO_some, l104, bindO_some]
    exact i0
  rw [e3', bindO_some]
  have hout : rangeOut (n + 2 + 1) { T := T, H := H7, n := n7, D := [n + 2] } = some (.norm, { T := T, H := H7.set (n + 2 + 1) (some (.loop .exhausted none 31 T (ntm P 31) #[46, 47] asg31 bod31 (n + 2))), n := n7, D := [n + 2] }) := by
    unfold rangeOut
    simp only [i2]
  rw [hout]
  show ∃ H' n' rw_, K31 (cal (l + 7)) KK T (H7.set (n + 2 + 1) (some (.loop .exhausted none 31 T (ntm P 31) #[46, 47] asg31 bod31 (n + 2)))) n7 [n + 2] = some (.tuple ⟨[.slice (some ⟨bs, 0, none⟩) np np, .int .i64 0]⟩, H', n') ∧ n ≤ n' ∧ Keep n0 H H' ∧ CellsF H' bs np 44 rw_ ∧ ∀ p, p < np → RowAt H' n n' (rw_ p) (spreadR js ks L nj np pad e p)
  generalize hH8 : H7.set (n + 2 + 1) (some (.loop .exhausted none 31 T (ntm P 31) #[46, 47] asg31 bod31 (n + 2))) = H8
  have o8 : ∀ b, b ≠ n + 2 + 1 → H8.get b = H7.get b := fun b hb => by rw [← hH8, Tr.get_set, if_neg hb]
  clear hH8 hout
  have l9 : loadV P H8 59 ⟨b14, 0, none⟩ = some (.slice (some ⟨bs, 0, none⟩) np np) := loadV_scalar (o := 0) (k := 0) (cells_at (by rw [o8 _ (by omega), i6 _ (by omega) (by omega) e14s, low _ hb14]; exact h14)) agg59 rfl rfl rfl
  have ht : takeD H8 [n + 2] = some (H8.set (n + 2) none) := by
    have : H8.get (n + 2) = some .deferred := by rw [o8 _ (by omega), i6 _ (by omega) (by omega) (by omega)]; exact r2
    unfold takeD
    simp only [this]
    rfl
  have k31 : K31 (cal (l + 7)) KK T H8 n7 [n + 2] = some (.tuple ⟨[.slice (some ⟨bs, 0, none⟩) np np, .int .i64 0]⟩, H8.set (n + 2) none, n7) := by
    obtain ⟨v0, v1, v2, v3, v4, v19, v21, v22, v23, v24, v11, v26, v28, v29, v30, v31, v32, v33, v34, v36, v37, v38, v39, v40, v41, v42, v43, v44, v45, rfl⟩ := hT
    rw [post31, addrV_eq, bindO_some, l9, bindO_some, ht]
    show (bindO (resV P (((Tr.nil : Tm).set 9 (some (.int .i64 0))).set 8 (some (.slice (some ⟨bs, 0, none⟩) np np))) (H8.set (n + 2) none) results31) fun vs => some (oneV vs, H8.set (n + 2) none, n7)) = _
    rw [res31]
    rfl
  refine ⟨H8.set (n + 2) none, n7, rw_, k31, by omega, fun b hb => ?_, ?_, fun p hp => ?_⟩
  · rw [Tr.get_set, if_neg (by omega), o8 _ (by omega), i6 _ (by omega) (by omega) (by omega), low _ (by omega)]
  · obtain ⟨c, a1, a2, a3⟩ := i3
    exact ⟨c, by rw [Tr.get_set, if_neg (by omega), o8 _ (by omega)]; exact a1, a2, a3⟩
  · have := i4 p hp (by omega)
    rcases this with z | ⟨b, cap, z1, z2, z3, z4⟩
    · exact .inl z
    · exact .inr ⟨b, cap, z1, by omega, z3, by rw [Tr.get_set, if_neg (by omega), o8 _ (by omega)]; exact z4⟩
end Go.Proofs.Ytgojjellogiglaa.spec
end
section
namespace Go.Proofs.Ytgojjellogiglaa.spec
open Go Go.Ev Go.Proofs.Ytgojjellogiglaa.nestFits Go.Proofs.Ytgojjellogiglaa.G
set_option maxRecDepth 100000
variable {ρ : Type}
theorem r31_spec (l : Nat) {H : Hp} {n g b6 b10 b11 b13 np nj nk pad e n0 : Nat} {f : Nat → Value} {x y z v0 v1 v2 v3 v4 v19 v21 v22 v23 v24 v26 v28 v29 v30 v31 v32 v33 v34 : Value} {js ks L : List Int}
    (h6 : H.get b6 = some (.cells [.int .i64 pad] 3 false none)) (h10 : H.get b10 = some (.cells [.pointer (some ⟨g, 0, none⟩)] 105 false none)) (h11 : H.get b11 = some (.cells (ints L) 121 false none)) (h13 : H.get b13 = some (.cells [endF e] 129 false none))
    (hf : CellsF H g 859 117 f) (hs : SiteF f x y z js nj) (hn : ∀ p kd, p < np → kd < nk → NestAt f js ks nj np p kd) (hx : lenV P 31 x = some (.int .i64 np)) (hnp : np ≤ 8) (hnk : nk ≤ 3) (hpad : pad < np) (he : e < 2) (hL : L.length = 8) (hok : NestsOk js ks L nj np nk pad)
    (hg : g < n) (hb6 : b6 < n) (hb10 : b10 < n) (hb11 : b11 < n) (hb13 : b13 < n) (hn0 : n0 ≤ n) :
    ∃ bs H' n' rw_, R31 (cal (l + 7)) KK v0 v1 v2 v3 v4 (.pointer (some ⟨b6, 0, none⟩)) v19 v21 v22 v23 v24 (.pointer (some ⟨b10, 0, none⟩)) (.pointer (some ⟨b11, 0, none⟩)) v26 v28 v29 v30 v31 v32 v33 v34 (.pointer (some ⟨b13, 0, none⟩)) H n = some (.tuple ⟨[.slice (some ⟨bs, 0, none⟩) np np, .int .i64 0]⟩, H', n') ∧ n ≤ n' ∧ Keep n0 H H' ∧ bs < n' ∧ CellsF H' bs np 44 rw_ ∧ ∀ p, p < np → RowAt H' n n' (rw_ p) (spreadR js ks L nj np pad e p) := by
  have lens : (ints L).length = 8 := by rw [ints_length, hL]
  have l10 : loadV P H 105 ⟨b10, 0, none⟩ = some (.pointer (some ⟨g, 0, none⟩)) := loadV_scalar (o := 0) (k := 0) (cells_at h10) agg105 rfl rfl rfl
  have lx : loadV P H 31 ⟨g, 0 + 0 + 0, none⟩ = some x := by
    have := hf.load (P := P) (k := 0) agg31 (by omega)
    rw [hs.x] at this; exact this
  unfold R31
  rw [addrV_eq, bindO_some, l10, bindO_some, nil_ptr, bindO_some, fa117_0, bindO_some, fa35_0, bindO_some, addrV_eq, bindO_some, lx, bindO_some, hx, bindO_some]
  unfold stK
  rw [make59 H n (by omega), bindO_some]
  dsimp only [bare]
  have hsp : CellsF (H.set n (some (.cells (List.replicate np (.slice none 0 0)) 44 false none))) n np 44 fun _ => .slice none 0 0 := CellsF.new (by simp) _ fun k hk => by rw [List.getElem?_replicate, if_pos hk]
  have k1 : Keep n H (H.set n (some (.cells (List.replicate np (.slice none 0 0)) 44 false none))) := (Keep.refl n H).set (Nat.le_refl _) _
  generalize H.set n (some (.cells (List.replicate np (.slice none 0 0)) 44 false none)) = H1 at hsp k1 ⊢
  obtain ⟨H2, c1, c2, c3⟩ := cell_one (ρ := Value × Hp × Nat) (v := .slice (some ⟨n, 0, none⟩) np np) zero59 rfl sz59 rfl H1 (n + 1)
  have kk : Keep n H H2 := k1.trans c1 (by omega)
  have j10 := (kk b10 hb10).trans h10
  have j11 := (kk b11 hb11).trans h11
  have l10' : loadV P H2 105 ⟨b10, 0, none⟩ = some (.pointer (some ⟨g, 0, none⟩)) := loadV_scalar (o := 0) (k := 0) (cells_at j10) agg105 rfl rfl rfl
  rw [c3, bindO_some, l10', bindO_some, addrV_eq, bindO_some, load_all j11 agg121 sz121 lens, bindO_some]
  obtain ⟨H', n', rw_, d1, d2, d3, d4, d5⟩ := worst_range l (TT := fun v45 => T31 v0 v1 v2 v3 v4 (.pointer (some ⟨b6, 0, none⟩)) v19 v21 v22 v23 v24 (.pointer (some ⟨b10, 0, none⟩)) (.pointer (some ⟨b11, 0, none⟩)) v26 v28 v29 v30 v31 v32 v33 v34 (.pointer (some ⟨b13, 0, none⟩)) (.pointer (some ⟨g, 0, none⟩)) (.pointer (some ⟨g, 0, none⟩)) (.pointer (some ⟨g, 0 + 0, none⟩)) (.pointer (some ⟨g, 0 + 0 + 0, none⟩)) x (.int .i64 np) (.slice (some ⟨n, 0, none⟩) np np) (.pointer (some ⟨n + 1, 0, none⟩)) (.pointer (some ⟨g, 0, none⟩)) (.agg ⟨ints L⟩) v45)
    (H := H2) (n := n + 1 + 1) (g := g) (b6 := b6) (b10 := b10) (b13 := b13) (b14 := n + 1) (bs := n) (pad := pad) (e := e) (n0 := n0) (f := f) (x := x) (y := y) (z := z) (fun v => ⟨_, _, _, _, _, _, _, _, _, _, _, _, _, _, _, _, _, _, _, _, _, _, _, _, _, _, _, _, _, rfl⟩)
    ((kk b6 hb6).trans h6) j10 ((kk b13 hb13).trans h13) c2 (hsp.keep c1 (by omega)) (hf.keep kk hg) hs hn hx hnp hnk hpad he hL hok (by omega) (by omega) (by omega) (by omega) (by omega) (by omega) hn0 (by omega) (by omega) (by omega) (by omega) (by omega) (by omega)
  refine ⟨n, H', n', rw_, d1, by omega, fun b hb => by rw [d3 b hb, kk b (by omega)], by omega, d4, fun p hp => ?_⟩
  rcases d5 p hp with q | ⟨b, cap, q1, q2, q3, q4⟩
  · exact .inl q
  · exact .inr ⟨b, cap, q1, by omega, q3, q4⟩
theorem not_of (b : Bool) : pureSem P (.bool b) (Op.unary .not (.bool b)) = some (.bool (!b)) := by cases b <;> kernel_rfl
theorem Worst_spec (l : Nat) {np nj nk nl : Nat} {ps js ks ls : List Int} {H : Hp} {n : Nat} {v w : Value} (hg : GroveP H n v np nj nk ps js ks) (hw : ListR H n w nl ls) (hnp : np ≤ 1000) (hnj : nj ≤ 1000) (hnk : nk ≤ 1000) (hjs : js.length = nj * 2) (pad : Int) (hi : Bool) :
    (placedN np nj nk nl ps js ks ls ≠ 0 → Ret ((cal (l + 8)).call 31 [v, w, .int .i64 pad, .bool hi] H n) n H (.tuple ⟨[.slice none 0 0, .int .i64 (placedN np nj nk nl ps js ks ls)]⟩)) ∧
    (placedN np nj nk nl ps js ks ls = 0 → ¬ (0 ≤ pad ∧ pad < np) → Ret ((cal (l + 8)).call 31 [v, w, .int .i64 pad, .bool hi] H n) n H (.tuple ⟨[.slice none 0 0, .int .i64 2]⟩)) ∧
    (placedN np nj nk nl ps js ks ls = 0 → ∀ pd : Nat, pad = pd → pd < np → ∃ bs base H' n' rw_, (cal (l + 8)).call 31 [v, w, .int .i64 pad, .bool hi] H n = some (.tuple ⟨[.slice (some ⟨bs, 0, none⟩) np np, .int .i64 0]⟩, H', n') ∧ n ≤ n' ∧ Keep n H H' ∧ bs < n' ∧ CellsF H' bs np 44 rw_ ∧
      ∀ p, p < np → RowAt H' base n' (rw_ p) (spreadR js ks (laidL ls np) nj np pd (if hi = true then 1 else 0) p)) := by
  have hg0 := hg
  obtain ⟨x, y, z, rfl, h1, h2, h3⟩ := hg
  rw [call31, pre31, boxK_eq, boxK_eq]
  simp only [cellsV, ptr]
  have hk : Keep n H ((H.set n (some (.cells [x, y, z] 35 false none))).set (n + 1) (some (.cells [.int .i64 pad] 3 false none))) := ((Keep.refl n H).set (Nat.le_refl _) _).set (by omega) _
  have hb : CellsAt ((H.set n (some (.cells [x, y, z] 35 false none))).set (n + 1) (some (.cells [.int .i64 pad] 3 false none))) n 0 [x, y, z] := CellsAt.new.set (by omega)
  have h6 : ((H.set n (some (.cells [x, y, z] 35 false none))).set (n + 1) (some (.cells [.int .i64 pad] 3 false none))).get (n + 1) = some (.cells [.int .i64 pad] 3 false none) := by rw [Tr.get_set, if_pos rfl]
  generalize (H.set n (some (.cells [x, y, z] 35 false none))).set (n + 1) (some (.cells [.int .i64 pad] 3 false none)) = H1 at hk hb h6 ⊢
  have lg : loadV P H1 35 ⟨n, 0, none⟩ = some (.agg ⟨[x, y, z]⟩) := loadV_agg (o := 0) (k := 0) hb agg35 sz35 (by simp) (by simp [h1.hole.1, h2.hole.1, h3.hole.1])
  obtain ⟨o1, o2⟩ := openLaid_spec l (hg0.keep hk (show n ≤ n + 1 + 1 by omega)) (hw.keep hk (show n ≤ n + 1 + 1 by omega)) hnp hnj hnk
  rw [addrV_eq, bindO_some, lg, bindO_some, openLaid_call]
  by_cases hne : placedN np nj nk nl ps js ks ls = 0
  · refine ⟨fun h => absurd hne h, ?_⟩
    obtain ⟨⟨g, x', y', z', f, H2, n2, e1, e2, e3, e4, e5, e6, e7, e8, e9⟩, hnl, hok, hft⟩ := o2 hne
    simp only [Value.agg.injEq, Array.mk.injEq, List.cons.injEq, and_true] at e6
    obtain ⟨rfl, rfl, rfl⟩ := e6
    have good := good_of hft
    subst hnl
    have np8 := good.np8
    have nk3 := good.nk3
    have l8 := laidL_len hw.1 good.np8
    generalize hLL : laidL ls nl = L at *
    have hK : KindsIn L nl nk := by rw [← hLL]; exact laid_kinds hw.1 hok
    obtain ⟨H3, k1, k2, k3, k4⟩ := cells_two H2 n2 (some ⟨g, 0, none⟩) L l8
    have d0 : decide ((0 : Int) = 0) = true := rfl
    have kk : Keep (n + 1 + 1) H1 H3 := e3.trans k1 e2
    have l10 : loadV P H3 105 ⟨n2, 0, none⟩ = some (.pointer (some ⟨g, 0, none⟩)) := loadV_scalar (o := 0) (k := 0) (cells_at k2) agg105 rfl rfl rfl
    have f3 := e7.keep k1 e5
    have l35 : loadV P H3 35 ⟨g, 0 + 0, none⟩ = some (.agg ⟨[x, y, z]⟩) := by
      have := f3.load_agg (P := P) (k := 0) agg35 sz35 (by omega)
      have e : (List.range 3).map (fun j => f (0 + j)) = [x, y, z] := by
        show [f 0, f 1, f 2] = [x, y, z]
        rw [e8.x, e8.y, e8.z]
      rw [e] at this
      exact this
    have l6 : loadV P H3 3 ⟨n + 1, 0, none⟩ = some (.int .i64 pad) := loadV_int (o := 0) (k := 0) (cells_at ((kk (n + 1) (by omega)).trans h6)) agg3 rfl
    have gp3 : GroveP H3 (n2 + 1 + 1) (.agg ⟨[x, y, z]⟩) nl nj nk ps js ks := (hg0.keep hk (show n ≤ n + 1 + 1 by omega)).keep kk (by omega)
    obtain ⟨r, H4, n4, r0, r1, r2, r3⟩ := has_call (ρ := Value × Hp × Nat) (l + 6) gp3 pad
    have t0 : tupV (.tuple ⟨[.pointer (some ⟨g, 0, none⟩), .agg ⟨ints L⟩, .int .i64 0]⟩) 0 = some (.pointer (some ⟨g, 0, none⟩)) := rfl
    have t1 : tupV (.tuple ⟨[.pointer (some ⟨g, 0, none⟩), .agg ⟨ints L⟩, .int .i64 0]⟩) 1 = some (.agg ⟨ints L⟩) := rfl
    have t2 : tupV (.tuple ⟨[.pointer (some ⟨g, 0, none⟩), .agg ⟨ints L⟩, .int .i64 0]⟩) 2 = some (.int .i64 0) := rfl
    rw [e1, bindO_some]
    dsimp only
    rw [t0, bindO_some, t1, bindO_some, t2, bindO_some, k4, binK_some bin_neq, d0, Bool.not_true, ifK_f, addrV_eq, bindO_some, l10, bindO_some, nil_ptr, bindO_some, fa117_0, bindO_some, addrV_eq, bindO_some, l35, bindO_some, addrV_eq, bindO_some, l6, bindO_some, r1, not_of, bindO_some]
    have hkeep : Keep n H H4 := fun b hb => by rw [r3 b (by omega), kk b (by omega), hk b hb]
    cases r with
    | false =>
      have hno : ¬ (0 ≤ pad ∧ pad < (nl : Int)) := fun h => absurd (r0.2 h) (by simp)
      rw [Bool.not_false, ifK_t]
      exact ⟨fun _ _ => ⟨H4, n4, rfl, by omega, hkeep⟩, fun _ pd h1 h2 => absurd ⟨by omega, by omega⟩ hno⟩
    | true =>
      have hyes := r0.1 rfl
      refine ⟨fun _ h => absurd hyes h, fun _ pd hpd hlt => ?_⟩
      subst hpd
      obtain ⟨H5, c1, c2, c3⟩ := cell_one (ρ := Value × Hp × Nat) (v := .func (.func 72) #[] #[]) zero129 rfl sz129 rfl H4 n4
      rw [Bool.not_true, ifK_f, c3]
      have he : (if hi = true then 1 else 0) < 2 := by split <;> omega
      have hnok : NestsOk js ks L nj nl nk pd := ⟨hK, good.kinds, fun p kd hp hkd k => by
        obtain ⟨a1, a2⟩ := share_reach (ks := ks) (kd := kd) (good.inner hjs) good.np8 hp k
        obtain ⟨_, b2, _⟩ := reach_small (js := js) (nj := nj) good.small hkd (p : Int) (k : Int)
        rw [a1, a2]; exact b2, fun p kd hp hLp => by
        have hl : ls.getD p 0 = kd := by rw [← laidL_in hw.1 hp, hLL]; exact hLp
        rcases hok p hp with q | ⟨q1, q2, q3⟩
        · omega
        · rw [hl, Int.toNat_natCast] at q3
          have hkd : kd < nk := by omega
          exact (part_ext good hjs hp hlt hkd ((fits_agree good hjs hp hkd).1 q3)).2.1⟩
      have fin : ∀ (H6 : Hp), Keep n4 H4 H6 → H6.get n4 = some (.cells [endF (if hi = true then 1 else 0)] 129 false none) → ∃ bs base H' n' rw_, R31 (cal (l + 7)) KK (.agg ⟨[x, y, z]⟩) w (.int .i64 pd) (.bool hi) (.pointer (some ⟨n, 0, none⟩)) (.pointer (some ⟨n + 1, 0, none⟩)) (.agg ⟨[x, y, z]⟩) (.tuple ⟨[.pointer (some ⟨g, 0, none⟩), .agg ⟨ints L⟩, .int .i64 0]⟩) (.pointer (some ⟨g, 0, none⟩)) (.agg ⟨ints L⟩) (.int .i64 0) (.pointer (some ⟨n2, 0, none⟩)) (.pointer (some ⟨n2 + 1, 0, none⟩)) (.bool false) (.pointer (some ⟨g, 0, none⟩)) (.pointer (some ⟨g, 0, none⟩)) (.pointer (some ⟨g, 0 + 0, none⟩)) (.agg ⟨[x, y, z]⟩) (.int .i64 pd) (.bool true) (.bool false) (.pointer (some ⟨n4, 0, none⟩)) H6 (n4 + 1) = some (.tuple ⟨[.slice (some ⟨bs, 0, none⟩) nl nl, .int .i64 0]⟩, H', n') ∧ n ≤ n' ∧ Keep n H H' ∧ bs < n' ∧ CellsF H' bs nl 44 rw_ ∧
          ∀ p, p < nl → RowAt H' base n' (rw_ p) (spreadR js ks L nj nl pd (if hi = true then 1 else 0) p) := by
        intro H6 q1 q2
        have low : ∀ b, b < n2 + 1 + 1 → H6.get b = H3.get b := fun b hb => by rw [q1 b (by omega), r3 b hb]
        obtain ⟨bs, H', n', rw_, a1, a2, a3, a4, a5, a6⟩ := r31_spec l (H := H6) (n := n4 + 1) (g := g) (b6 := n + 1) (b10 := n2) (b11 := n2 + 1) (b13 := n4) (pad := pd) (e := if hi = true then 1 else 0) (n0 := n) (f := f) (x := x) (y := y) (z := z) (v0 := .agg ⟨[x, y, z]⟩) (v1 := w) (v2 := .int .i64 pd) (v3 := .bool hi) (v4 := .pointer (some ⟨n, 0, none⟩)) (v19 := .agg ⟨[x, y, z]⟩) (v21 := .tuple ⟨[.pointer (some ⟨g, 0, none⟩), .agg ⟨ints L⟩, .int .i64 0]⟩) (v22 := .pointer (some ⟨g, 0, none⟩)) (v23 := .agg ⟨ints L⟩) (v24 := .int .i64 0) (v26 := .bool false) (v28 := .pointer (some ⟨g, 0, none⟩)) (v29 := .pointer (some ⟨g, 0, none⟩)) (v30 := .pointer (some ⟨g, 0 + 0, none⟩)) (v31 := .agg ⟨[x, y, z]⟩) (v32 := .int .i64 pd) (v33 := .bool true) (v34 := .bool false)
          (by rw [low _ (by omega), kk _ (by omega)]; exact h6) (by rw [low _ (by omega)]; exact k2) (by rw [low _ (by omega)]; exact k3) q2
          (by
            obtain ⟨c, b1, b2, b3⟩ := f3
            exact ⟨c, by rw [low g (by omega)]; exact b1, b2, b3⟩) e8 e9 (h1.len_eq und31) np8 nk3 hlt he l8 hnok (by omega) (by omega) (by omega) (by omega) (by omega) (by omega)
        exact ⟨bs, n4 + 1, H', n', rw_, a1, by omega, fun b hb => by rw [a3 b hb, low b (by omega), kk b (by omega), hk b hb], a4, a5, a6⟩
      cases hi with
      | false =>
        rw [ifK_f]
        exact fin H5 c1 c2
      | true =>
        have s1 := storeN_all (vs := [.func (.func 73) #[] #[]]) c2 rfl rfl
        rw [ifK_t, storeP_leaf sz129 rfl, s1, bindO_some]
        exact fin _ (c1.set (Nat.le_refl _) _) (by rw [Tr.get_set, if_pos rfl]; rfl)
  · refine ⟨fun _ => ?_, fun h => absurd h hne, fun h => absurd h hne⟩
    obtain ⟨H2, n2, e1, e2, e3⟩ := o1 hne
    have t0 : tupV (.tuple ⟨[.pointer none, .agg ⟨ints (List.replicate 8 0)⟩, .int .i64 (placedN np nj nk nl ps js ks ls)]⟩) 0 = some (.pointer none) := rfl
    have t1 : tupV (.tuple ⟨[.pointer none, .agg ⟨ints (List.replicate 8 0)⟩, .int .i64 (placedN np nj nk nl ps js ks ls)]⟩) 1 = some (.agg ⟨ints (List.replicate 8 0)⟩) := rfl
    have t2 : tupV (.tuple ⟨[.pointer none, .agg ⟨ints (List.replicate 8 0)⟩, .int .i64 (placedN np nj nk nl ps js ks ls)]⟩) 2 = some (.int .i64 (placedN np nj nk nl ps js ks ls)) := rfl
    obtain ⟨H3, k1, _, _, k4⟩ := cells_two H2 n2 none (List.replicate 8 0) rfl
    rw [e1, bindO_some, t0, bindO_some, t1, bindO_some, t2, bindO_some]
    dsimp only
    rw [k4, binK_some bin_neq, decide_eq_false hne, Bool.not_false, ifK_t]
    exact ⟨H3, n2 + 1 + 1, rfl, by omega, (hk.trans e3 (by omega)).trans k1 (by omega)⟩
theorem flat31 : flatF P 31 = false := by kernel_rfl
theorem Worst_call (c : Cal) (u v w x : Value) (H : Hp) (n : Nat) (k : Value → Hp → Nat → Option ρ) : callFK P c 31 [u, v, w, x] H n k = bindO (c.call 31 [u, v, w, x] H n) fun r => k r.1 r.2.1 r.2.2 := by
  unfold callFK
  rw [flat31]
  rfl
end Go.Proofs.Ytgojjellogiglaa.spec
end
