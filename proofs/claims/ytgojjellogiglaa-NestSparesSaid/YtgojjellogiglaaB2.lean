/- Texts S20 to S42. -/
import Derived.Test.YtgojjellogiglaaB1
section
namespace Go.Proofs.Ytgojjellogiglaa.spec
open Go.Ev Go.Proofs.Ytgojjellogiglaa.nestFits Go.Proofs.Ytgojjellogiglaa.G
set_option maxRecDepth 100000
variable {ρ : Type}
noncomputable def ext (y : Int) (L : List Int) (e p : Nat) : Int := lim e (L.getD (p * 2 + e) 0) (y - (total L (1 - e) - L.getD (p * 2 + (1 - e)) 0))
theorem at111 (b o : Nat) {i : Nat} (hi : i < 8) : indexAddrV P 111 (.pointer (some ⟨b, o, none⟩)) (.int .i64 i) = some (.pointer (some ⟨b, o + i * 2, none⟩)) := by
  unfold indexAddrV
  have : idxIn (.int .i64 (i : Int)) 8 = some i := by
    show idxIn (.int .i64 (.ofNat i)) 8 = some i
    simp [idxIn, hi]
  simp only [und111, this, sz53]
  rfl
theorem nest_share {y : Int} {L B : List Int} (hL : L.length = 16) {i : Nat} (hi : i < 8) : ((ints (nestL y L B)).drop (1 + i * 2)).take 2 = ((ints L).drop (i * 2)).take 2 := by
  rw [ints_cut, ints_cut]
  congr 1
  unfold nestL
  rw [Nat.add_comm, List.drop_succ_cons, List.drop_append_of_le_length (by omega), List.take_append_of_le_length (by simp; omega)]
theorem total_range {L : List Int} (hb : Bounded L) (e : Nat) : 0 ≤ total L e ∧ total L e ≤ 8000 := by
  have := sumTo_range (f := fun p => L.getD (p * 2 + e) 0) (c := 1000) (i := 8) (fun p _ => hb _)
  exact ⟨this.1, by unfold total; omega⟩
theorem row44 (x : Int) : rowOf P 44 1 [(0, .int .i64 x)] = some ([.int .i64 x], 3) := by kernel_rfl
theorem extreme_spec (l : Nat) {e : Nat} (he : e < 2) {y : Int} {L B : List Int} (hL : L.length = 16) (hB : B.length = 16) (hb : Bounded L) (hy : 0 ≤ y ∧ y ≤ 1000) {p : Nat} (hp : p < 8) :
    ∃ H' n', C120_0 (cal (l + 2)) KK (.agg ⟨ints (nestL y L B)⟩) (.int .i64 p) (endV e) .nil 0 = some (.int .i64 (ext y L e p), H', n') := by
  unfold C120_0 B120_0
  simp only [boxK_eq, cellsV, ptr, endV]
  have hg0 : (((Tr.nil : Hp).set 0 (some (.cells (ints (nestL y L B)) 113 false none))).set (0 + 1) (some (.cells [endF e, endF (1 - e), withF e] 179 false none))).get 0 = some (.cells (ints (nestL y L B)) 113 false none) := by rw [Tr.get_set, if_neg (by omega), Tr.get_set, if_pos rfl]
  have hg1 : (((Tr.nil : Hp).set 0 (some (.cells (ints (nestL y L B)) 113 false none))).set (0 + 1) (some (.cells [endF e, endF (1 - e), withF e] 179 false none))).get 1 = some (.cells [endF e, endF (1 - e), withF e] 179 false none) := by rw [Tr.get_set, if_pos rfl]
  generalize ((Tr.nil : Hp).set 0 (some (.cells (ints (nestL y L B)) 113 false none))).set (0 + 1) (some (.cells [endF e, endF (1 - e), withF e] 179 false none)) = H1 at hg0 hg1 ⊢
  simp only [Nat.zero_add]
  have lens : (ints (nestL y L B)).length = 33 := by rw [ints_length, nest_cells hL hB]
  have loads : ∀ H : Hp, H.get 0 = H1.get 0 → H.get 1 = H1.get 1 →
      loadV P H 113 ⟨0, 0, none⟩ = some (.agg ⟨ints (nestL y L B)⟩) ∧ loadV P H 129 ⟨1, 0 + 0, none⟩ = some (endF e) ∧ loadV P H 129 ⟨1, 0 + 1, none⟩ = some (endF (1 - e)) ∧ loadV P H 160 ⟨1, 0 + 2, none⟩ = some (withF e) ∧
      loadV P H 53 ⟨0, 0 + 1 + p * 2, none⟩ = some (.agg ⟨((ints L).drop (p * 2)).take 2⟩) ∧ loadV P H 3 ⟨0, 0 + 0, none⟩ = some (.int .i64 y) := by
    intro H q0 q1
    have c0 : CellsAt H 0 0 (ints (nestL y L B)) := cells_at (q0.trans hg0)
    have c1 : CellsAt H 1 0 [endF e, endF (1 - e), withF e] := cells_at (q1.trans hg1)
    refine ⟨load_all (q0.trans hg0) agg113 sz113 lens, loadV_scalar c1 agg129 rfl (endF_leaf _).2.1 (endF_leaf _).2.2.1, loadV_scalar c1 agg129 rfl (endF_leaf _).2.1 (endF_leaf _).2.2.1, loadV_scalar c1 agg160 rfl (withF_leaf _).2.1 (withF_leaf _).2.2.1, ?_, loadV_int c0 agg3 (by simp [ints, nestL])⟩
    have := loadV_agg (P := P) (k := 1 + p * 2) c0 agg53 sz53 (by rw [lens]; omega) (ints_noHole _)
    rw [nest_share hL hp, ← Nat.add_assoc] at this
    exact this
  obtain ⟨a0, a1, a2, a3, a4, a5⟩ := loads H1 rfl rfl
  have h1e : 1 - e < 2 := by omega
  rw [addrV_eq, bindO_some, a0, bindO_some, fa179_1, bindO_some, addrV_eq, bindO_some, a2, bindO_some, bindO_some, addrV_eq, bindO_some, a2, bindO_some, fa113_1, bindO_some, at111 0 (0 + 1) hp, bindO_some, addrV_eq, bindO_some, a4, bindO_some]
  obtain ⟨H2, s2, e2⟩ := effK_still (P := P) (ρ := Value × Hp × Nat) (ex := [.l 53 ⟨0, 0 + 1 + p * 2, none⟩, .l 129 ⟨1, 0 + 1, none⟩]) (H := H1) (n := 1 + 1) (v := .int .i64 (total L (1 - e)))
    (op := fun H n k => callFK P (cal (l + 2)) 98 [.agg ⟨ints (nestL y L B)⟩, endF (1 - e)] H n fun v H n => k v H n)
    ⟨fun q hq => .inl (by
      simp only [List.mem_cons, List.not_mem_nil, or_false] at hq
      rcases hq with rfl | rfl
      · exact ⟨_, _, rfl, .inl ⟨_, _, _, _, hg0⟩⟩
      · exact ⟨_, _, rfl, .inl ⟨_, _, _, _, hg1⟩⟩), fun t a id c e h1 h2 => by simp at h2⟩ (fun H k => sum_call l h1e hL hB hb H _ _)
  rw [e2, end_call (l + 1) h1e L (p * 2) (by omega)]
  obtain ⟨t0, t1⟩ := total_range hb (1 - e)
  obtain ⟨u0, u1⟩ := hb (p * 2 + (1 - e))
  have hI : I64 (total L (1 - e) - L.getD (p * 2 + (1 - e)) 0) := by unfold I64; omega
  have hI2 : I64 (y - (total L (1 - e) - L.getD (p * 2 + (1 - e)) 0)) := by unfold I64; omega
  obtain ⟨b0, b1, b2, b3, b4, b5⟩ := loads H2 (s2 0) (s2 1)
  rw [binK_some (bin_sub hI), fa179_2, bindO_some, addrV_eq, bindO_some, b3, bindO_some, fa179_0, bindO_some, addrV_eq, bindO_some, b1, bindO_some, bindO_some, at111 0 (0 + 1) hp, bindO_some, addrV_eq, bindO_some, b4, bindO_some, fa113_0, bindO_some, addrV_eq, bindO_some, b5, bindO_some,
    binK_some (bin_sub hI2), row44, bindO_some]
  unfold newK
  have hg0' : (H2.set (1 + 1) (some (.cells [.int .i64 (y - (total L (1 - e) - L.getD (p * 2 + (1 - e)) 0))] 3 false none))).get 0 = some (.cells (ints (nestL y L B)) 113 false none) := by rw [Tr.get_set, if_neg (by omega), s2]; exact hg0
  have hg1' : (H2.set (1 + 1) (some (.cells [.int .i64 (y - (total L (1 - e) - L.getD (p * 2 + (1 - e)) 0))] 3 false none))).get 1 = some (.cells [endF e, endF (1 - e), withF e] 179 false none) := by rw [Tr.get_set, if_neg (by omega), s2]; exact hg1
  have hrow : CellsAt (H2.set (1 + 1) (some (.cells [.int .i64 (y - (total L (1 - e) - L.getD (p * 2 + (1 - e)) 0))] 3 false none))) 2 0 [.int .i64 (y - (total L (1 - e) - L.getD (p * 2 + (1 - e)) 0))] := CellsAt.new
  obtain ⟨H3, s3, e3⟩ := effK_still (P := P) (ρ := Value × Hp × Nat) (ex := [.a (1 + 1) [.int .i64 (y - (total L (1 - e) - L.getD (p * 2 + (1 - e)) 0))] 3, .l 3 ⟨0, 0 + 0, none⟩, .l 160 ⟨1, 0 + 2, none⟩])
    (H := H2.set (1 + 1) (some (.cells [.int .i64 (y - (total L (1 - e) - L.getD (p * 2 + (1 - e)) 0))] 3 false none))) (n := 1 + 1 + 1) (v := .int .i64 (L.getD (p * 2 + e) 0))
    (op := fun H n k => callVK P (cal (l + 2)) (endF e) [.agg ⟨((ints L).drop (p * 2)).take 2⟩] H n fun v H n => k v H n)
    ⟨fun q hq => by
      simp only [List.mem_cons, List.not_mem_nil, or_false] at hq
      rcases hq with rfl | rfl | rfl
      · exact .inr ⟨_, _, _, rfl⟩
      · exact .inl ⟨_, _, rfl, .inl ⟨_, _, _, _, hg0'⟩⟩
      · exact .inl ⟨_, _, rfl, .inl ⟨_, _, _, _, hg1'⟩⟩, fun t a id c e h1 h2 => by
      simp only [List.mem_cons, List.not_mem_nil, or_false, Extra.a.injEq, reduceCtorEq, Extra.l.injEq, false_or] at h1 h2
      obtain ⟨rfl, _⟩ := h2
      rcases h1 with ⟨_, rfl⟩ | ⟨_, rfl⟩ <;> simp⟩ (fun H k => end_call (l + 1) he L (p * 2) (by omega) H _ _)
  have ee : ∀ k, effK P [.a (1 + 1) [.int .i64 (y - (total L (1 - e) - L.getD (p * 2 + (1 - e)) 0))] 3, .l 3 ⟨0, 0 + 0, none⟩, .l 160 ⟨1, 0 + 2, none⟩] (H2.set (1 + 1) (some (.cells [.int .i64 (y - (total L (1 - e) - L.getD (p * 2 + (1 - e)) 0))] 3 false none))) (1 + 1 + 1)
    (fun H n k => callVK P (cal (l + 2)) (endF e) [.agg ⟨((ints L).drop (p * 2)).take 2⟩] H n fun v H n => k v H n) k = k (.int .i64 (L.getD (p * 2 + e) 0)) H3 (1 + 1 + 1) := e3
  simp only [ee]
  have hx : CellsAt H3 (1 + 1) 0 [.int .i64 (y - (total L (1 - e) - L.getD (p * 2 + (1 - e)) 0))] := CellsAt.of_get hrow (s3 2)
  rw [with_call (l + 1) he _ _ hx]
  exact ⟨_, _, rfl⟩
theorem flat120 : flatF P 120 = true := by kernel_rfl
theorem call120 (l : Nat) (a b c : Value) (H : Hp) (n : Nat) : (cal (l + 1)).call 120 [a, b, c] H n = C120_0 (cal l) KK a b c H n :=
  (show (cal (l + 1)).call 120 [a, b, c] H n = quick ent120 (cal l) [a, b, c] H n by kernel_rfl).trans (quick_eq ..)
theorem extreme_call (l : Nat) {e : Nat} (he : e < 2) {y : Int} {L B : List Int} (hL : L.length = 16) (hB : B.length = 16) (hb : Bounded L) (hy : 0 ≤ y ∧ y ≤ 1000) {p : Nat} (hp : p < 8) (H : Hp) (n : Nat) (k : Value → Hp → Nat → Option ρ) :
    callFK P (cal (l + 3)) 120 [.agg ⟨ints (nestL y L B)⟩, .int .i64 p, endV e] H n k = k (.int .i64 (ext y L e p)) H n := by
  obtain ⟨H', n', h⟩ := extreme_spec l he (B := B) hL hB hb hy hp
  refine callFK_pure flat120 ?_ ((call120 ..).trans h) rfl
  simp only [endV, pureL, pureV, pureA, pure_ints, (endF_leaf _).2.2.2, (withF_leaf _).2.2.2, Bool.and_self]
end Go.Proofs.Ytgojjellogiglaa.spec
end
section
namespace Go.Proofs.Ytgojjellogiglaa.spec
open Go.Ev Go.Proofs.Ytgojjellogiglaa.nestFits Go.Proofs.Ytgojjellogiglaa.G
set_option maxRecDepth 100000
variable {ρ : Type}
noncomputable def zeros : List Int := List.replicate 16 0
theorem zeros_len : zeros.length = 16 := rfl
theorem zero113 : zeroT P 113 = some (.agg ⟨ints (nestL 0 zeros zeros)⟩) := by kernel_rfl
theorem build113 (y : Int) {L : List Int} (hL : L.length = 16) : buildP P 113 [(0, .int .i64 y), (1, .agg ⟨ints L⟩)] = some (.agg ⟨ints (nestL y L zeros)⟩) := by
  match L, hL with
  | [a0, a1, a2, a3, a4, a5, a6, a7, a8, a9, a10, a11, a12, a13, a14, a15], _ =>
    show buildP P 113 [(0, .int .i64 y), (1, .agg ⟨ints [a0, a1, a2, a3, a4, a5, a6, a7, a8, a9, a10, a11, a12, a13, a14, a15]⟩)] = some (.agg ⟨ints (nestL y [a0, a1, a2, a3, a4, a5, a6, a7, a8, a9, a10, a11, a12, a13, a14, a15] zeros)⟩)
    kernel_rfl
theorem res115 (H : Hp) (b : Nat) : resV P (Tr.set Tr.nil 4 (some (.pointer (some ⟨b, 0, none⟩)))) H results115 = (match loadV P H 113 ⟨b, 0, none⟩ with
  | none => none
  | some v => some [v]) := by kernel_rfl
theorem nest_set {y a b : Int} {L B : List Int} (hL : L.length = 16) (j : Nat) : ((nestL y L B).set (17 + j) a).set (17 + j + 1) b = nestL y L ((B.set j a).set (j + 1) b) := by
  unfold nestL
  rw [show 17 + j = (16 + j) + 1 by omega, List.set_cons_succ, List.set_cons_succ, List.set_append_right _ _ (by omega), List.set_append_right _ _ (by omega), hL]
  rw [show 16 + j - 16 = j by omega, show 16 + j + 1 - 16 = j + 1 by omega]
def BoundsTo (y : Int) (L B : List Int) (i : Nat) : Prop := B.length = 16 ∧ ∀ p, p < i → B.getD (p * 2) 0 = ext y L 0 p ∧ B.getD (p * 2 + 1) 0 = ext y L 1 p
theorem BoundsTo.next {y : Int} {L B : List Int} {i : Nat} (h : BoundsTo y L B i) (hi : i < 8) : BoundsTo y L ((B.set (i * 2) (ext y L 0 i)).set (i * 2 + 1) (ext y L 1 i)) (i + 1) := by
  obtain ⟨h1, h2⟩ := h
  refine ⟨by simp [h1], fun p hp => ?_⟩
  simp only [List.getD_eq_getElem?_getD, List.getElem?_set, List.length_set, h1]
  by_cases e : p = i
  · subst e
    rw [if_neg (show ¬ p * 2 + 1 = p * 2 by omega), if_pos rfl, if_pos (show p * 2 < 16 by omega), if_pos rfl, if_pos (show p * 2 + 1 < 16 by omega)]
    exact ⟨rfl, rfl⟩
  · obtain ⟨g1, g2⟩ := h2 p (by omega)
    rw [List.getD_eq_getElem?_getD] at g1 g2
    rw [if_neg (by omega), if_neg (by omega), if_neg (by omega), if_neg (by omega)]
    exact ⟨g1, g2⟩
theorem newNest_loop (l k : Nat) {y : Int} {L : List Int} (hL : L.length = 16) (hb : Bounded L) (hy : 0 ≤ y ∧ y ≤ 1000) (b4 b5 : Nat) (hne : b4 ≠ b5) : ∀ (m i : Nat) (B : List Int) (w : List Value) (H : Hp) (n : Nat), b4 < n → b5 < n →
    H.get b5 = some (.cells (ints (nestL y L B)) 113 false none) → H.get b4 = some (.cells w 113 false none) → w.length = 33 → BoundsTo y L B i → i ≤ 8 → 8 - i ≤ m →
    ∃ B' H' n', S115_1 (cal (l + 3)) k m (.pointer (some ⟨b4, 0, none⟩)) (.pointer (some ⟨b5, 0, none⟩)) (.int .i64 i) H n = some (.agg ⟨ints (nestL y L B')⟩, H', n') ∧ BoundsTo y L B' 8 := by
  have body : ∀ (b1 : Value → Value → Value → Hp → Nat → Res) (m i : Nat) (B : List Int) (w : List Value) (H : Hp) (n : Nat), b4 < n → b5 < n →
      H.get b5 = some (.cells (ints (nestL y L B)) 113 false none) → H.get b4 = some (.cells w 113 false none) → w.length = 33 → BoundsTo y L B i → i ≤ 8 →
      (∀ B2 H2 n2, b4 < n2 → b5 < n2 → H2.get b5 = some (.cells (ints (nestL y L B2)) 113 false none) → H2.get b4 = some (.cells w 113 false none) → BoundsTo y L B2 (i + 1) → i < 8 →
        ∃ B' H' n', b1 (.pointer (some ⟨b4, 0, none⟩)) (.pointer (some ⟨b5, 0, none⟩)) (.int .i64 ((i + 1 : Nat) : Int)) H2 n2 = some (.agg ⟨ints (nestL y L B')⟩, H', n') ∧ BoundsTo y L B' 8) →
      ∃ B' H' n', C115_1 (cal (l + 3)) k m b1 (.pointer (some ⟨b4, 0, none⟩)) (.pointer (some ⟨b5, 0, none⟩)) (.int .i64 i) H n = some (.agg ⟨ints (nestL y L B')⟩, H', n') ∧ BoundsTo y L B' 8 := by
    intro b1 m i B w H n hb4 hb5 hg5 hg4 hw hB hi ih
    have lens : (ints (nestL y L B)).length = 33 := by rw [ints_length, nest_cells hL hB.1]
    have hld := load_all hg5 agg113 sz113 lens
    unfold C115_1 B115_1
    rw [binK_some bin_lss, ifK_d]
    by_cases hlt : i < 8
    · rw [if_pos (by omega), addrV_eq, bindO_some, hld, bindO_some, bindO_some, hld, bindO_some, fa113_2, bindO_some]
      obtain ⟨H1, n1, e1, f1, g1⟩ := effK_grow (P := P) (ρ := Value × Hp × Nat) (ex := [.l 113 ⟨b5, 0, none⟩, .l 113 ⟨b5, 0, none⟩]) (H := H) (n := n) (v := endV 0)
        (op := fun H n k => callFK P (cal (l + 3)) 121 [] H n fun v H n => k v H n)
        (fun q hq => by simp only [List.mem_cons, List.not_mem_nil, or_false, or_self] at hq; subst hq; exact ⟨_, _, rfl, hb5, .inl ⟨_, _, _, _, hg5⟩⟩)
        (fun Hm => by obtain ⟨H', n', h1, h2, h3⟩ := lowEnd_call (ρ := Value × Hp × Nat) (l + 2) Hm n; exact ⟨H', n', fun k => h1 _, h2, h3⟩)
      rw [e1]
      have k5 : H1.get b5 = some (.cells (ints (nestL y L B)) 113 false none) := (g1 b5 hb5).trans hg5
      have k4 : H1.get b4 = some (.cells w 113 false none) := (g1 b4 hb4).trans hg4
      obtain ⟨H2, s2, e2⟩ := effK_still (P := P) (ρ := Value × Hp × Nat) (ex := [.l 113 ⟨b5, 0, none⟩]) (H := H1) (n := n1) (v := .int .i64 (ext y L 0 i))
        (op := fun H n k => callFK P (cal (l + 3)) 120 [.agg ⟨ints (nestL y L B)⟩, .int .i64 i, endV 0] H n fun v H n => k v H n)
        ⟨fun q hq => .inl (by simp only [List.mem_cons, List.not_mem_nil, or_false] at hq; subst hq; exact ⟨_, _, rfl, .inl ⟨_, _, _, _, k5⟩⟩), fun t a id c e h1 h2 => by simp at h2⟩
        (fun H k => extreme_call l (by omega) hL hB.1 hb hy hlt H _ _)
      rw [e2]
      have j5 : H2.get b5 = some (.cells (ints (nestL y L B)) 113 false none) := (s2 b5).trans k5
      have j4 : H2.get b4 = some (.cells w 113 false none) := (s2 b4).trans k4
      obtain ⟨H3, n3, e3, f3, g3⟩ := effK_grow (P := P) (ρ := Value × Hp × Nat) (ex := [.l 113 ⟨b5, 0, none⟩]) (H := H2) (n := n1) (v := endV 1)
        (op := fun H n k => callFK P (cal (l + 3)) 122 [] H n fun v H n => k v H n)
        (fun q hq => by simp only [List.mem_cons, List.not_mem_nil, or_false] at hq; subst hq; exact ⟨_, _, rfl, by show b5 < n1; omega, .inl ⟨_, _, _, _, j5⟩⟩)
        (fun Hm => by obtain ⟨H', n', h1, h2, h3⟩ := highEnd_call (ρ := Value × Hp × Nat) (l + 2) Hm n1; exact ⟨H', n', fun k => h1 _, h2, h3⟩)
      rw [e3, extreme_call l (by omega) hL hB.1 hb hy hlt, build53, bindO_some, at111 b5 (0 + 17) hlt, bindO_some, store53]
      have i5 : H3.get b5 = some (.cells (ints (nestL y L B)) 113 false none) := (g3 b5 (by omega)).trans j5
      have i4 : H3.get b4 = some (.cells w 113 false none) := (g3 b4 (by omega)).trans j4
      rw [show 0 + 17 + i * 2 = 17 + i * 2 by omega, store_two i5 (by rw [nest_cells hL hB.1]; omega), nest_set hL, bindO_some]
      have hI : I64 ((i : Int) + 1) := by unfold I64; omega
      have hcast : ((i : Int) + 1) = ((i + 1 : Nat) : Int) := by omega
      rw [binK_some (bin_add hI), hcast]
      exact ih _ _ n3 (by omega) (by omega) (by rw [Tr.get_set, if_pos rfl]) (by rw [Tr.get_set, if_neg hne]; exact i4) (hB.next hlt) hlt
    · rw [if_neg (by omega), addrV_eq, bindO_some, hld, bindO_some, storeP_agg sz113 lens, storeN_all hg4 (by rw [lens, hw]) (ints_leaf _), bindO_some, res115]
      have hgw : (H.set b4 (some (.cells (ints (nestL y L B)) 113 false none))).get b4 = some (.cells (ints (nestL y L B)) 113 false none) := by rw [Tr.get_set, if_pos rfl]
      rw [load_all hgw agg113 sz113 lens]
      have hi' : i = 8 := by omega
      subst hi'
      exact ⟨B, _, _, rfl, hB⟩
  intro m
  induction m with
  | zero =>
    intro i B w H n h1 h2 h3 h4 h5 h6 h7 h8
    exact body _ 0 i B w H n h1 h2 h3 h4 h5 h6 h7 (fun _ _ _ _ _ _ _ _ h => by omega)
  | succ m ih =>
    intro i B w H n h1 h2 h3 h4 h5 h6 h7 h8
    exact body _ (m + 1) i B w H n h1 h2 h3 h4 h5 h6 h7 (fun B2 H2 n2 q1 q2 q3 q4 q5 q6 => ih (i + 1) B2 w H2 n2 q1 q2 q3 q4 h5 q5 (by omega) (by omega))
theorem newNest_spec (l : Nat) {y : Int} {L : List Int} (hL : L.length = 16) (hb : Bounded L) (hy : 0 ≤ y ∧ y ≤ 1000) :
    ∃ B H' n', C115_0 (cal (l + 3)) KK (.int .i64 y) (.agg ⟨ints L⟩) .nil 0 = some (.agg ⟨ints (nestL y L B)⟩, H', n') ∧ BoundsTo y L B 8 := by
  unfold C115_0 B115_0
  rw [boxK_eq, allocK_eq zero113]
  have hg0 : (((Tr.nil : Hp).set 0 (some (.cells (ints L) 111 false none))).set (0 + 1) (some (.cells (ints (nestL 0 zeros zeros)) 113 false none))).get 0 = some (.cells (ints L) 111 false none) := by rw [Tr.get_set, if_neg (by omega), Tr.get_set, if_pos rfl]
  have hg1 : (((Tr.nil : Hp).set 0 (some (.cells (ints L) 111 false none))).set (0 + 1) (some (.cells (ints (nestL 0 zeros zeros)) 113 false none))).get 1 = some (.cells (ints (nestL 0 zeros zeros)) 113 false none) := by rw [Tr.get_set, if_pos rfl]
  simp only [cellsV, ptr]
  generalize ((Tr.nil : Hp).set 0 (some (.cells (ints L) 111 false none))).set (0 + 1) (some (.cells (ints (nestL 0 zeros zeros)) 113 false none)) = H1 at hg0 hg1 ⊢
  have hl := load_all hg0 agg111 sz111 (by rw [ints_length, hL])
  rw [addrV_eq, bindO_some, hl, bindO_some, build113 y hL, bindO_some]
  have lens : (ints (nestL y L zeros)).length = 33 := by rw [ints_length, nest_cells hL zeros_len]
  obtain ⟨H2, k1, k2, k3⟩ := spill (P := P) (ρ := Value × Hp × Nat) (H := H1) (n := 0 + 1 + 1) (L := ints (nestL y L zeros)) zero113 (by show (ints (nestL 0 zeros zeros)).length = 33; rw [ints_length, nest_cells zeros_len zeros_len]) sz113 lens (ints_leaf _)
  rw [k3]
  exact newNest_loop l KK hL hb hy 1 2 (by omega) KK 0 zeros (ints (nestL 0 zeros zeros)) H2 3 (by omega) (by omega) k2 ((k1 1 (by omega)).trans hg1) (by rw [ints_length, nest_cells zeros_len zeros_len]) ⟨rfl, fun p hp => by omega⟩ (by omega) (by unfold KK; omega)
theorem flat115 : flatF P 115 = true := by kernel_rfl
theorem call115 (l : Nat) (a b : Value) (H : Hp) (n : Nat) : (cal (l + 1)).call 115 [a, b] H n = C115_0 (cal l) KK a b H n :=
  (show (cal (l + 1)).call 115 [a, b] H n = quick ent115 (cal l) [a, b] H n by kernel_rfl).trans (quick_eq ..)
theorem newNest_call (l : Nat) {y : Int} {L : List Int} (hL : L.length = 16) (hb : Bounded L) (hy : 0 ≤ y ∧ y ≤ 1000) : ∃ B, BoundsTo y L B 8 ∧ ∀ (H : Hp) (n : Nat) (k : Value → Hp → Nat → Option ρ),
    callFK P (cal (l + 4)) 115 [.int .i64 y, .agg ⟨ints L⟩] H n k = k (.agg ⟨ints (nestL y L B)⟩) H n := by
  obtain ⟨B, H', n', h, hB⟩ := newNest_spec l hL hb hy
  refine ⟨B, hB, fun H n k => callFK_pure flat115 ?_ ((call115 ..).trans h) ?_⟩
  · simp only [pureL, pureV, pureA, pure_ints, Bool.and_self]
  · simp only [pureV, pureA, pure_ints]
end Go.Proofs.Ytgojjellogiglaa.spec
end
section
namespace Go.Proofs.Ytgojjellogiglaa.spec
open Go Go.Ev Go.Proofs.Ytgojjellogiglaa.nestFits Go.Proofs.Ytgojjellogiglaa.G
set_option maxRecDepth 100000
variable {ρ : Type}
noncomputable def code97 : Code := codeOf 97
noncomputable def results97 : List ResultVar := resOf 97
noncomputable def asgOf : Code → Code
  | .rangeFunc _ _ a _ => a
  | _ => .skip
noncomputable def bodOf : Code → Code
  | .rangeFunc _ _ _ b => b
  | _ => .skip
noncomputable def asg97 : Code := asgOf (cL (cR (cL (cR (cR code97)))))
noncomputable def bod97 : Code := bodOf (cL (cR (cL (cR (cR code97)))))
noncomputable def K97 (c : Cal) (k : Nat) : KC (Value × Hp × Nat) := codeE P c (codeF P c k) none 97 (cR (cR (cR code97))) .leaf (doneK P results97) X0 (doneK P results97)
noncomputable def T97 (v0 v1 v2 v5 v6 v7 v11 : Value) : Tm := (((((((((Tr.nil : Tm).set 0 (some v0)).set 1 (some v1)).set 2 (some v2)).set 5 (some v5)).set 6 (some v6)).set 7 (some v7)).set 9 (some v0)).set 10 (some v1)).set 11 (some v11)
theorem pre97 (c : Cal) (k : Nat) (v0 v1 v2 : Value) (H : Hp) (n : Nat) : bodyE P c A (k + 1) 97 [v0, v1, v2] H n =
    (boxK 86 v2 H n fun v5 H n => allocK P 113 H n fun v6 H n => allocK P 111 H n fun v7 H n => callFK P c 113 [v0, v1] H n fun v11 H n =>
      rangeK P c none 97 v11 #[12] asg97 bod97 (K97 c k) (upX 0 (K97 c k) X0) (doneK P results97) (T97 v0 v1 v2 v5 v6 v7 v11) H n []) := by
  rw [body_eq (fn := Go.Proofs.Try.f97) (c := code97) (rs := results97) (by kernel_rfl) (by kernel_rfl) (by kernel_rfl) (by kernel_rfl)]
  kernel_rfl
theorem post97 (c : Cal) (k : Nat) (v0 v1 v2 v5 v6 v7 v11 : Value) (H : Hp) (n : Nat) (D : List Nat) : K97 c k (T97 v0 v1 v2 v5 v6 v7 v11) H n D =
    (bindO (fieldAddrV P 86 v5 1) fun v18 => bindO (addrV v18) fun a => bindO (loadV P H 53 a) fun v19 => bindO (indexAddrV P 111 v7 v1) fun v20 => bindO (storeP P 53 v20 v19 H) fun H =>
      bindO (fieldAddrV P 86 v5 0) fun v21 => bindO (addrV v21) fun a => bindO (loadV P H 3 a) fun v22 => bindO (addrV v7) fun a => bindO (loadV P H 111 a) fun v23 => callFK P c 115 [v22, v23] H n fun v24 H n =>
      bindO (storeP P 113 v6 v24 H) fun H => getK (takeD H D) fun H => bindO (resV P ((Tr.nil : Tm).set 6 (some v6)) H results97) fun vs => some (oneV vs, H, n)) := by
  kernel_rfl
theorem call97 (l : Nat) (a b c : Value) (H : Hp) (n : Nat) : (cal (l + 1)).call 97 [a, b, c] H n = bodyE P (cal l) A (KK + 1) 97 [a, b, c] H n := by kernel_rfl
theorem asg97_eq (l lp : Nat) (v0 v1 v2 v5 v6 v7 v11 p : Value) (H : Hp) (n : Nat) :
    (cal (l + 1)).body lp 97 asg97 { T := (T97 v0 v1 v2 v5 v6 v7 v11).set 12 (some p), H, n, D := [] } = some (.norm, { T := ((T97 v0 v1 v2 v5 v6 v7 v11).set 12 (some p)).set 8 (some p), H, n, D := [] }) := by kernel_rfl
theorem bod97_eq (l lp : Nat) (v0 v1 v2 v5 v6 v7 v11 p : Value) (H : Hp) (n : Nat) :
    (cal (l + 1)).body lp 97 bod97 { T := ((T97 v0 v1 v2 v5 v6 v7 v11).set 12 (some p)).set 8 (some p), H, n, D := [] } =
      (bindO (fieldAddrV P 86 v5 2) fun v14 => bindO (addrV v14) fun a => bindO (loadV P H 53 a) fun v15 => bindO (indexAddrV P 111 v7 p) fun v16 => bindO (storeP P 53 v16 v15 H) fun H' =>
        some (.norm, { T := ((((((T97 v0 v1 v2 v5 v6 v7 v11).set 12 (some p)).set 8 (some p)).set 13 (some p)).set 14 (some v14)).set 15 (some v15)).set 16 (some v16), H := H', n, D := [] })) := by kernel_rfl
theorem res97 (H : Hp) (b : Nat) : resV P ((Tr.nil : Tm).set 6 (some (.pointer (some ⟨b, 0, none⟩)))) H results97 = (match loadV P H 113 ⟨b, 0, none⟩ with
  | none => none
  | some v => some [v]) := by kernel_rfl
theorem ntm97 : ntm P 97 = 25 := by kernel_rfl
end Go.Proofs.Ytgojjellogiglaa.spec
end
section
namespace Go.Proofs.Ytgojjellogiglaa.spec
open Go Go.Ev Go.Proofs.Ytgojjellogiglaa.nestFits Go.Proofs.Ytgojjellogiglaa.G
set_option maxRecDepth 100000
variable {ρ : Type}
theorem agg105 : isAggT P 105 = some false := by kernel_rfl
theorem agg4 : isAggT P 4 = some false := by kernel_rfl
theorem und109 : P.underlying 109 = some (.array 8 108) := by kernel_rfl
theorem und108 : P.underlying 108 = some (.array 8 4) := by kernel_rfl
theorem sz108 : szT P 108 = some 8 := by kernel_rfl
theorem sz4 : szT P 4 = some 1 := by kernel_rfl
theorem fa117_0 (b o : Nat) : fieldAddrV P 117 (.pointer (some ⟨b, o, none⟩)) 0 = some (.pointer (some ⟨b, o + 0, none⟩)) := by kernel_rfl
theorem fa117_1 (b o : Nat) : fieldAddrV P 117 (.pointer (some ⟨b, o, none⟩)) 1 = some (.pointer (some ⟨b, o + 3, none⟩)) := by kernel_rfl
theorem fa117_2 (b o : Nat) : fieldAddrV P 117 (.pointer (some ⟨b, o, none⟩)) 2 = some (.pointer (some ⟨b, o + 67, none⟩)) := by kernel_rfl
theorem idx_lt {i n : Nat} (hi : i < n) : idxIn (.int .i64 (i : Int)) n = some i := by
  show idxIn (.int .i64 (.ofNat i)) n = some i
  simp [idxIn, hi]
theorem at109 (b o : Nat) {i : Nat} (hi : i < 8) : indexAddrV P 109 (.pointer (some ⟨b, o, none⟩)) (.int .i64 i) = some (.pointer (some ⟨b, o + i * 8, none⟩)) := by
  unfold indexAddrV
  simp only [und109, idx_lt hi, sz108]
  rfl
theorem at108 (b o : Nat) {i : Nat} (hi : i < 8) : indexAddrV P 108 (.pointer (some ⟨b, o, none⟩)) (.int .i64 i) = some (.pointer (some ⟨b, o + i * 1, none⟩)) := by
  unfold indexAddrV
  simp only [und108, idx_lt hi, sz4]
  rfl
theorem nil_ptr (a : Addr) : nilV (.pointer (some a)) = some (.pointer (some a)) := rfl
theorem guardD_tt {op : KD ρ → Option ρ} {ex : Extra} {H : Hp} {n : Nat} {k : KD ρ} : guardD (.bool true) true op ex H n k = op k := rfl
theorem guardD_ft {op : KD ρ → Option ρ} {ex : Extra} {H : Hp} {n : Nat} {k : KD ρ} : guardD (.bool false) true op ex H n k = k undef ex H n := rfl
structure Reads (H : Hp) (pb sb g : Nat) (x : Value) (pad : Nat) (near : Nat → Bool) : Prop where
  pad_ : loadV P H 3 ⟨pb, 0, none⟩ = some (.int .i64 pad)
  site : loadV P H 105 ⟨sb, 0, none⟩ = some (.pointer (some ⟨g, 0, none⟩))
  pads : loadV P H 31 ⟨g, 0 + 0 + 0, none⟩ = some x
  near_ : ∀ b, b < 8 → loadV P H 4 ⟨g, 0 + 3 + pad * 8 + b * 1, none⟩ = some (.bool (near b))
theorem iter_loop (c : Cal) (k : Nat) (yv : Value) (pb sb g pad np : Nat) (x : Value) (near : Nat → Bool) (hpad : pad < 8) (hnp : np ≤ 8) (Inv : List Nat → Hp → Nat → Prop) (hR : ∀ ps H n, Inv ps H n → Reads H pb sb g x pad near)
    (hY : ∀ (ps : List Nat) (p : Nat) (H : Hp) (n : Nat), Inv ps H n → p < 8 → ∃ H' n', (∀ k : Value → Hp → Nat → Res, callVK P c yv [.int .i64 p] H n k = k (.bool true) H' n') ∧ Inv (ps ++ [p]) H' n') (ps0 : List Nat) : ∀ (m i : Nat) (H : Hp) (n : Nat),
    Inv (ps0 ++ (List.range i).filter near) H n → i ≤ np → np - i ≤ m →
    ∃ H' n', S119_1 c k m yv (.pointer (some ⟨pb, 0, none⟩)) (.pointer (some ⟨sb, 0, none⟩)) (.int .i64 np) (.int .i64 i) H n = some (.tuple ⟨[]⟩, H', n') ∧ Inv (ps0 ++ (List.range np).filter near) H' n' := by
  have body : ∀ (b1 : Value → Value → Value → Value → Value → Hp → Nat → Res) (m i : Nat) (H : Hp) (n : Nat), Inv (ps0 ++ (List.range i).filter near) H n → i ≤ np →
      (∀ H' n', Inv (ps0 ++ (List.range (i + 1)).filter near) H' n' → i < np → ∃ H2 n2, b1 yv (.pointer (some ⟨pb, 0, none⟩)) (.pointer (some ⟨sb, 0, none⟩)) (.int .i64 np) (.int .i64 ((i + 1 : Nat) : Int)) H' n' = some (.tuple ⟨[]⟩, H2, n2) ∧ Inv (ps0 ++ (List.range np).filter near) H2 n2) →
      ∃ H' n', C119_1 c k m b1 yv (.pointer (some ⟨pb, 0, none⟩)) (.pointer (some ⟨sb, 0, none⟩)) (.int .i64 np) (.int .i64 i) H n = some (.tuple ⟨[]⟩, H', n') ∧ Inv (ps0 ++ (List.range np).filter near) H' n' := by
    intro b1 m i H n hI hi ih
    unfold C119_1 B119_1
    rw [binK_some bin_lss, ifK_d]
    by_cases hlt : i < np
    · obtain ⟨r1, r2, r3, r4⟩ := hR _ _ _ hI
      have hi8 : i < 8 := by omega
      have hb := r4 i hi8
      have hI1 : I64 ((i : Int) + 1) := by unfold I64; omega
      have hcast : ((i : Int) + 1) = ((i + 1 : Nat) : Int) := by omega
      rw [if_pos (by omega), addrV_eq, bindO_some, r2, bindO_some, addrV_eq, bindO_some, r1, bindO_some, nil_ptr, bindO_some, fa117_1, bindO_some, at109 _ _ hpad, bindO_some, at108 _ _ hi8, bindO_some, addrV_eq, bindO_some, hb, bindO_some]
      cases hn : near i with
      | true =>
        obtain ⟨H1, n1, e1, e2⟩ := hY _ i _ _ hI hi8
        simp only [guardD_tt, e1, not_t, bindO_some, pickV_t, ifK_f, binK_some (bin_add hI1), hcast]
        refine ih H1 n1 ?_ hlt
        rw [List.range_succ, List.filter_append, ← List.append_assoc]
        simp only [List.filter_cons, hn, if_true, List.filter_nil]
        exact e2
      | false =>
        simp only [guardD_ft, pickV_f, bindO_some, ifK_f, binK_some (bin_add hI1), hcast]
        refine ih H n ?_ hlt
        rw [List.range_succ, List.filter_append]
        simp only [List.filter_cons, hn, List.filter_nil, Bool.false_eq_true, if_false, List.append_nil]
        exact hI
    · rw [if_neg (by omega)]
      have hi' : i = np := by omega
      subst hi'
      exact ⟨H, n, rfl, hI⟩
  intro m
  induction m with
  | zero =>
    intro i H n h1 h2 h3
    exact body _ 0 i H n h1 h2 (fun _ _ _ h => by omega)
  | succ m ih =>
    intro i H n h1 h2 h3
    exact body _ (m + 1) i H n h1 h2 (fun H' n' q1 q2 => ih (i + 1) H' n' q1 (by omega) (by omega))
theorem iter_spec (c : Cal) (yv : Value) (pb sb g pad np : Nat) (x : Value) (near : Nat → Bool) (hpad : pad < 8) (hnp : np ≤ 8) (hx : lenV P 31 x = some (.int .i64 np)) (Inv : List Nat → Hp → Nat → Prop) (hR : ∀ ps H n, Inv ps H n → Reads H pb sb g x pad near)
    (hY : ∀ (ps : List Nat) (p : Nat) (H : Hp) (n : Nat), Inv ps H n → p < 8 → ∃ H' n', (∀ k : Value → Hp → Nat → Res, callVK P c yv [.int .i64 p] H n k = k (.bool true) H' n') ∧ Inv (ps ++ [p]) H' n') {H : Hp} {n : Nat} (h0 : Inv [] H n) :
    ∃ H' n', C119_0 c KK yv (.pointer (some ⟨pb, 0, none⟩)) (.pointer (some ⟨sb, 0, none⟩)) H n = some (.tuple ⟨[]⟩, H', n') ∧ Inv (pad :: (List.range np).filter near) H' n' := by
  unfold C119_0 B119_0
  generalize hS : S119_1 c KK KK = S
  obtain ⟨r1, _, _, _⟩ := hR _ _ _ h0
  obtain ⟨H1, n1, e1, e2⟩ := hY _ pad _ _ h0 hpad
  obtain ⟨_, r2, r3, _⟩ := hR _ _ _ e2
  rw [addrV_eq, bindO_some, r1, bindO_some, e1, not_t, bindO_some, ifK_f, addrV_eq, bindO_some, r2, bindO_some, nil_ptr, bindO_some, fa117_0, bindO_some, fa35_0, bindO_some, addrV_eq, bindO_some, r3, bindO_some, hx, bindO_some, ← hS]
  exact iter_loop c KK yv pb sb g pad np x near hpad hnp Inv hR hY [pad] KK 0 H1 n1 e2 (by omega) (by unfold KK; omega)
def fillS (lo hi : Int) (ps : List Nat) : List Int := ps.foldl (fun X p => (X.set (p * 2) lo).set (p * 2 + 1) hi) (List.replicate 16 0)
theorem fillS_snoc (lo hi : Int) (ps : List Nat) (p : Nat) : fillS lo hi (ps ++ [p]) = ((fillS lo hi ps).set (p * 2) lo).set (p * 2 + 1) hi := by
  unfold fillS; rw [List.foldl_append]; rfl
theorem set_two_len (X : List Int) (j : Nat) (a b : Int) : ((X.set j a).set (j + 1) b).length = X.length := by simp
theorem fillS_len (lo hi : Int) (ps : List Nat) : (fillS lo hi ps).length = 16 := by
  have : ∀ (ps : List Nat) (X : List Int), (ps.foldl (fun X p => (X.set (p * 2) lo).set (p * 2 + 1) hi) X).length = X.length := by
    intro ps
    induction ps with
    | nil => intro X; rfl
    | cons p ps ih => intro X; rw [List.foldl_cons, ih, set_two_len]
  exact this ps _
theorem set_two_get {X : List Int} (hX : X.length = 16) {p q : Nat} (hp : p < 8) (a b : Int) : (((X.set (p * 2) a).set (p * 2 + 1) b).getD (q * 2) 0 = if q = p then a else X.getD (q * 2) 0) ∧
    (((X.set (p * 2) a).set (p * 2 + 1) b).getD (q * 2 + 1) 0 = if q = p then b else X.getD (q * 2 + 1) 0) := by
  simp only [List.getD_eq_getElem?_getD, List.getElem?_set, List.length_set, hX]
  by_cases e : q = p
  · subst e
    rw [if_neg (show ¬ q * 2 + 1 = q * 2 by omega), if_pos rfl, if_pos (show q * 2 < 16 by omega), if_pos rfl, if_pos rfl, if_pos (show q * 2 + 1 < 16 by omega), if_pos rfl]
    exact ⟨rfl, rfl⟩
  · rw [if_neg (show ¬ p * 2 + 1 = q * 2 by omega), if_neg (show ¬ p * 2 = q * 2 by omega), if_neg e, if_neg (show ¬ p * 2 + 1 = q * 2 + 1 by omega), if_neg (show ¬ p * 2 = q * 2 + 1 by omega), if_neg e]
    exact ⟨rfl, rfl⟩
theorem fillS_get (lo hi : Int) (q : Nat) (ps : List Nat) (h : ∀ p ∈ ps, p < 8) : (fillS lo hi ps).getD (q * 2) 0 = (if q ∈ ps then lo else 0) ∧ (fillS lo hi ps).getD (q * 2 + 1) 0 = (if q ∈ ps then hi else 0) := by
  have key : ∀ (ps : List Nat) (X : List Int), X.length = 16 → (∀ p ∈ ps, p < 8) → (ps.foldl (fun X p => (X.set (p * 2) lo).set (p * 2 + 1) hi) X).getD (q * 2) 0 = (if q ∈ ps then lo else X.getD (q * 2) 0) ∧
      (ps.foldl (fun X p => (X.set (p * 2) lo).set (p * 2 + 1) hi) X).getD (q * 2 + 1) 0 = (if q ∈ ps then hi else X.getD (q * 2 + 1) 0) := by
    intro ps
    induction ps with
    | nil => intro X _ _; exact ⟨rfl, rfl⟩
    | cons p ps ih =>
      intro X hX hp
      obtain ⟨h1, h2⟩ := ih ((X.set (p * 2) lo).set (p * 2 + 1) hi) (by rw [set_two_len]; exact hX) (fun p' hp' => hp p' (List.mem_cons_of_mem _ hp'))
      obtain ⟨g1, g2⟩ := set_two_get (q := q) hX (hp p List.mem_cons_self) lo hi
      rw [List.foldl_cons, h1, h2, g1, g2]
      by_cases e : q = p <;> by_cases e2 : q ∈ ps <;> simp [e, e2]
  have z : ∀ k : Nat, (List.replicate 16 (0 : Int)).getD k 0 = 0 := by
    intro k
    rw [List.getD_eq_getElem?_getD, List.getElem?_replicate]
    split <;> rfl
  have := key ps (List.replicate 16 0) rfl h
  rw [z, z] at this
  exact this
end Go.Proofs.Ytgojjellogiglaa.spec
end
section
namespace Go.Proofs.Ytgojjellogiglaa.spec
open Go Go.Ev Go.Proofs.Ytgojjellogiglaa.nestFits Go.Proofs.Ytgojjellogiglaa.G
set_option maxRecDepth 100000
variable {ρ : Type}
theorem loadK53 {H : Hp} {b : Nat} {y a1 a2 a3 a4 : Int} (h : H.get b = some (.cells [.int .i64 y, .int .i64 a1, .int .i64 a2, .int .i64 a3, .int .i64 a4] 86 false none)) :
    loadV P H 53 ⟨b, 0 + 1, none⟩ = some (.agg ⟨[.int .i64 a1, .int .i64 a2]⟩) ∧ loadV P H 53 ⟨b, 0 + 3, none⟩ = some (.agg ⟨[.int .i64 a3, .int .i64 a4]⟩) ∧ loadV P H 3 ⟨b, 0 + 0, none⟩ = some (.int .i64 y) :=
  ⟨loadV_agg (k := 1) (cells_at h) agg53 sz53 (by simp) rfl, loadV_agg (k := 3) (cells_at h) agg53 sz53 (by simp) rfl, loadV_int (cells_at h) agg3 rfl⟩
theorem yield97 (L : Nat) {H : Hp} {n lb b5 b7 d : Nat} {v0 v1 v2 v6 v11 : Value} {y a1 a2 a3 a4 : Int} {X : List Int} (hl : H.get lb = some (.loop .ready none 97 (T97 v0 v1 v2 (.pointer (some ⟨b5, 0, none⟩)) v6 (.pointer (some ⟨b7, 0, none⟩)) v11) (ntm P 97) #[12] asg97 bod97 d))
    (h5 : H.get b5 = some (.cells [.int .i64 y, .int .i64 a1, .int .i64 a2, .int .i64 a3, .int .i64 a4] 86 false none)) (h7 : H.get b7 = some (.cells (ints X) 111 false none)) (hX : X.length = 16) (n5 : b5 ≠ lb) (n7 : b7 ≠ lb) {p : Nat} (hp : p < 8) :
    ∃ H', (∀ k : Value → Hp → Nat → Option ρ, callVK P (cal (L + 1)) (.func (.yield lb) #[] #[]) [.int .i64 p] H n k = k (.bool true) H' n) ∧ H'.get lb = H.get lb ∧
      H'.get b7 = some (.cells (ints ((X.set (p * 2) a3).set (p * 2 + 1) a4)) 111 false none) ∧ ∀ b, b ≠ lb → b ≠ b7 → H'.get b = H.get b := by
  have hpar : paramsT (T97 v0 v1 v2 (.pointer (some ⟨b5, 0, none⟩)) v6 (.pointer (some ⟨b7, 0, none⟩)) v11) (ntm P 97) (#[12] : Array Tmp).toList [.int .i64 p] = some ((T97 v0 v1 v2 (.pointer (some ⟨b5, 0, none⟩)) v6 (.pointer (some ⟨b7, 0, none⟩)) v11).set 12 (some (.int .i64 p))) := by
    rw [ntm97]; rfl
  generalize hT : T97 v0 v1 v2 (.pointer (some ⟨b5, 0, none⟩)) v6 (.pointer (some ⟨b7, 0, none⟩)) v11 = T at hl hpar
  have hrdy : isReady H lb = true := by unfold isReady; rw [hl]
  have hpen : pendingOf H lb = none := by unfold pendingOf; rw [hl]
  have hbusy : setLoop H lb .busy none = some (H.set lb (some (.loop .busy none 97 T (ntm P 97) #[12] asg97 bod97 d))) := by unfold setLoop; rw [hl]
  have g5 : (H.set lb (some (.loop .busy none 97 T (ntm P 97) #[12] asg97 bod97 d))).get b5 = some (.cells [.int .i64 y, .int .i64 a1, .int .i64 a2, .int .i64 a3, .int .i64 a4] 86 false none) := by rw [Tr.get_set, if_neg n5]; exact h5
  have g7 : (H.set lb (some (.loop .busy none 97 T (ntm P 97) #[12] asg97 bod97 d))).get b7 = some (.cells (ints X) 111 false none) := by rw [Tr.get_set, if_neg n7]; exact h7
  have gl : (H.set lb (some (.loop .busy none 97 T (ntm P 97) #[12] asg97 bod97 d))).get lb = some (.loop .busy none 97 T (ntm P 97) #[12] asg97 bod97 d) := by rw [Tr.get_set, if_pos rfl]
  have ho : ∀ b, b ≠ lb → (H.set lb (some (.loop .busy none 97 T (ntm P 97) #[12] asg97 bod97 d))).get b = H.get b := fun b hb => by rw [Tr.get_set, if_neg hb]
  generalize H.set lb (some (.loop .busy none 97 T (ntm P 97) #[12] asg97 bod97 d)) = H1 at hbusy g5 g7 gl ho
  have hst := store_two (a := a3) (b := a4) (o := p * 2) g7 (by omega)
  have q7 : (H1.set b7 (some (.cells (ints ((X.set (p * 2) a3).set (p * 2 + 1) a4)) 111 false none))).get b7 = some (.cells (ints ((X.set (p * 2) a3).set (p * 2 + 1) a4)) 111 false none) := by rw [Tr.get_set, if_pos rfl]
  have ql : (H1.set b7 (some (.cells (ints ((X.set (p * 2) a3).set (p * 2 + 1) a4)) 111 false none))).get lb = some (.loop .busy none 97 T (ntm P 97) #[12] asg97 bod97 d) := by rw [Tr.get_set, if_neg (Ne.symm n7)]; exact gl
  have qo : ∀ b, b ≠ lb → b ≠ b7 → (H1.set b7 (some (.cells (ints ((X.set (p * 2) a3).set (p * 2 + 1) a4)) 111 false none))).get b = H.get b := fun b hb hb7 => by rw [Tr.get_set, if_neg hb7]; exact ho b hb
  have hbody : ∃ T', (cal (L + 1)).body lb 97 bod97 { T := (T.set 12 (some (.int .i64 p))).set 8 (some (.int .i64 p)), H := H1, n, D := [] } = some (.norm, { T := T', H := H1.set b7 (some (.cells (ints ((X.set (p * 2) a3).set (p * 2 + 1) a4)) 111 false none)), n, D := [] }) := by
    rw [← hT, bod97_eq, fa86_2, bindO_some, addrV_eq, bindO_some, (loadK53 g5).2.1, bindO_some, at111 b7 0 hp, bindO_some, store53, Nat.zero_add, hst, bindO_some]
    exact ⟨_, rfl⟩
  generalize H1.set b7 (some (.cells (ints ((X.set (p * 2) a3).set (p * 2 + 1) a4)) 111 false none)) = H2 at q7 ql qo hbody
  obtain ⟨T', hbody⟩ := hbody
  have hasg : (cal (L + 1)).body lb 97 asg97 { T := T.set 12 (some (.int .i64 p)), H, n, D := [] } = some (.norm, { T := (T.set 12 (some (.int .i64 p))).set 8 (some (.int .i64 p)), H, n, D := [] }) := by
    rw [← hT]; exact asg97_eq ..
  have hend : setLoop H2 lb .ready none = some (H2.set lb (some (.loop .ready none 97 T (ntm P 97) #[12] asg97 bod97 d))) := by unfold setLoop; rw [ql]
  refine ⟨H2.set lb (some (.loop .ready none 97 T (ntm P 97) #[12] asg97 bod97 d)), fun k => ?_, by rw [Tr.get_set, if_pos rfl, hl], by rw [Tr.get_set, if_neg n7]; exact q7, fun b hb hb7 => by rw [Tr.get_set, if_neg hb]; exact qo b hb hb7⟩
  show stK (yieldF (fun | some l => (cal (L + 1)).body l | none => fun _ _ _ => none) P lb [.int .i64 p] (bare H n)) k = _
  have hy : yieldF (fun | some l => (cal (L + 1)).body l | none => fun _ _ _ => none) P lb [.int .i64 p] (bare H n) = some (.bool true, { bare H n with H := H2.set lb (some (.loop .ready none 97 T (ntm P 97) #[12] asg97 bod97 d)) }) := by
    unfold yieldF
    have hb : Nat.beq (ntm P 97) (ntm P 97) = true := Nat.beq_refl _
    have hx : exCode .norm = some none := rfl
    simp only [bare, hl, hb, hpar, hasg, hrdy, hpen, hbusy, hbody, hx, Option.isNone_none, if_true, hend]
  rw [hy]
  rfl
end Go.Proofs.Ytgojjellogiglaa.spec
end
section
namespace Go.Proofs.Ytgojjellogiglaa.spec
open Go Go.Ev Go.Proofs.Ytgojjellogiglaa.nestFits Go.Proofs.Ytgojjellogiglaa.G
set_option maxRecDepth 100000
variable {ρ : Type}
theorem zero111 : zeroT P 111 = some (.agg ⟨ints (List.replicate 16 0)⟩) := by kernel_rfl
theorem flat113 : flatF P 113 = false := by kernel_rfl
theorem call113 (l : Nat) (a b : Value) (H : Hp) (n : Nat) : (cal (l + 1)).call 113 [a, b] H n = C113_0 (cal l) KK a b H n := by kernel_rfl
theorem call119 (l : Nat) (a b c : Value) (H : Hp) (n : Nat) : (cal (l + 1)).call 119 [a, b, c] H n = C119_0 (cal l) KK a b c H n := by kernel_rfl
theorem reached_call (l : Nat) (g pad : Nat) (H : Hp) (n : Nat) (k : Value → Hp → Nat → Option ρ) : callFK P (cal (l + 1)) 113 [.pointer (some ⟨g, 0, none⟩), .int .i64 pad] H n k =
    k (.func (.func 119) ⟨[]⟩ ⟨[.pointer (some ⟨n + 1, 0, none⟩), .pointer (some ⟨n, 0, none⟩)]⟩) ((H.set n (some (.cells [.pointer (some ⟨g, 0, none⟩)] 105 false none))).set (n + 1) (some (.cells [.int .i64 pad] 3 false none))) (n + 2) := by
  unfold callFK
  rw [flat113, call113]
  rfl
theorem range97 (c : Cal) (a b : Value) (K : KC (Value × Hp × Nat)) (X : XC (Value × Hp × Nat)) (Kr : KC (Value × Hp × Nat)) (T : Tm) (H : Hp) (n : Nat) :
    rangeK P c none 97 (.func (.func 119) ⟨[]⟩ ⟨[a, b]⟩) #[12] asg97 bod97 K X Kr T H n [] =
      callFK P c 119 [.func (.yield (n + 1)) #[] #[], a, b] ((H.set n (some .deferred)).set (n + 1) (some (.loop .ready none 97 T (ntm P 97) #[12] asg97 bod97 n))) (n + 2) fun _ H n' => fin K X Kr (rangeOut (n + 1) { T := T, H, n := n', D := [n] }) := rfl
def sharesL (a1 a2 a3 a4 : Int) (near : Nat → Bool) (np pad : Nat) : List Int := ((fillS a3 a4 (pad :: (List.range np).filter near)).set (pad * 2) a1).set (pad * 2 + 1) a2
theorem sharesL_len (a1 a2 a3 a4 : Int) (near : Nat → Bool) (np pad : Nat) : (sharesL a1 a2 a3 a4 near np pad).length = 16 := by
  unfold sharesL; rw [set_two_len, fillS_len]
theorem sharesL_get {a1 a2 a3 a4 : Int} {near : Nat → Bool} {np pad : Nat} (hnp : np ≤ 8) (hpad : pad < 8) (q : Nat) :
    (sharesL a1 a2 a3 a4 near np pad).getD (q * 2) 0 = (if q = pad then a1 else if q < np ∧ near q = true then a3 else 0) ∧ (sharesL a1 a2 a3 a4 near np pad).getD (q * 2 + 1) 0 = (if q = pad then a2 else if q < np ∧ near q = true then a4 else 0) := by
  unfold sharesL
  obtain ⟨h1, h2⟩ := set_two_get (q := q) (fillS_len a3 a4 (pad :: (List.range np).filter near)) hpad a1 a2
  obtain ⟨g1, g2⟩ := fillS_get a3 a4 q (pad :: (List.range np).filter near) (by
    intro p hp
    rcases List.mem_cons.1 hp with z | z
    · omega
    · have := List.mem_range.1 (List.mem_filter.1 z).1; omega)
  rw [h1, h2, g1, g2]
  have hm : q ≠ pad → (q ∈ pad :: (List.range np).filter near ↔ q < np ∧ near q = true) := fun e => by simp [e]
  by_cases e : q = pad
  · simp [e]
  · rw [if_neg e, if_neg e, if_neg e, if_neg e]
    by_cases e2 : q < np ∧ near q = true
    · rw [if_pos ((hm e).2 e2), if_pos ((hm e).2 e2), if_pos e2, if_pos e2]; exact ⟨rfl, rfl⟩
    · rw [if_neg (fun h => e2 ((hm e).1 h)), if_neg (fun h => e2 ((hm e).1 h)), if_neg e2, if_neg e2]; exact ⟨rfl, rfl⟩
theorem sharesL_bounded {a1 a2 a3 a4 : Int} {near : Nat → Bool} {np pad : Nat} (hnp : np ≤ 8) (hpad : pad < 8) (h1 : okR a1 a2) (h2 : okR a3 a4) : Bounded (sharesL a1 a2 a3 a4 near np pad) := by
  intro k
  unfold okR at h1 h2
  by_cases hk : k < 16
  · obtain ⟨g1, g2⟩ := sharesL_get (a1 := a1) (a2 := a2) (a3 := a3) (a4 := a4) (near := near) hnp hpad (k / 2)
    rcases Nat.mod_two_eq_zero_or_one k with z | z
    · rw [show k / 2 * 2 = k by omega] at g1
      rw [g1]
      split
      · omega
      · split <;> omega
    · rw [show k / 2 * 2 + 1 = k by omega] at g2
      rw [g2]
      split
      · omega
      · split <;> omega
  · rw [List.getD_eq_getElem?_getD, List.getElem?_eq_none (by rw [sharesL_len]; omega)]
    simp
theorem nestOn_spec (l : Nat) {H : Hp} {n g np pad : Nat} {f : Nat → Value} {x : Value} {near : Nat → Bool} {y a1 a2 a3 a4 : Int} (hg : g < n) (hs : CellsF H g 859 117 f) (hx : f 0 = x) (hlen : lenV P 31 x = some (.int .i64 np)) (hnp : np ≤ 8) (hpad : pad < 8)
    (hnear : ∀ b, b < 8 → f (3 + pad * 8 + b) = .bool (near b)) (hy : 0 ≤ y ∧ y ≤ 1000) (h1 : okR a1 a2) (h2 : okR a3 a4) :
    ∃ B, BoundsTo y (sharesL a1 a2 a3 a4 near np pad) B 8 ∧ Ret ((cal (l + 5)).call 97 [.pointer (some ⟨g, 0, none⟩), .int .i64 pad, .agg ⟨[.int .i64 y, .int .i64 a1, .int .i64 a2, .int .i64 a3, .int .i64 a4]⟩] H n) n H
      (.agg ⟨ints (nestL y (sharesL a1 a2 a3 a4 near np pad) B)⟩) := by
  obtain ⟨B, hB, hnest⟩ := newNest_call (ρ := Value × Hp × Nat) l (sharesL_len a1 a2 a3 a4 near np pad) (sharesL_bounded hnp hpad h1 h2) hy
  refine ⟨B, hB, ?_⟩
  rw [call97, pre97]
  simp only [boxK_eq, allocK_eq zero113, allocK_eq zero111, cellsV, ptr, reached_call (l + 3)]
  rw [range97]
  generalize hH1 : ((((H.set n (some (.cells [.int .i64 y, .int .i64 a1, .int .i64 a2, .int .i64 a3, .int .i64 a4] 86 false none))).set (n + 1) (some (.cells (ints (nestL 0 zeros zeros)) 113 false none))).set (n + 1 + 1) (some (.cells (ints (List.replicate 16 0)) 111 false none))).set (n + 1 + 1 + 1) (some (.cells [.pointer (some ⟨g, 0, none⟩)] 105 false none))).set (n + 1 + 1 + 1 + 1) (some (.cells [.int .i64 pad] 3 false none)) = H1
  have k1 : Keep n H H1 := fun b hb => by rw [← hH1, Tr.get_set, if_neg (by omega), Tr.get_set, if_neg (by omega), Tr.get_set, if_neg (by omega), Tr.get_set, if_neg (by omega), Tr.get_set, if_neg (by omega)]
  have q0 : H1.get n = some (.cells [.int .i64 y, .int .i64 a1, .int .i64 a2, .int .i64 a3, .int .i64 a4] 86 false none) := by rw [← hH1, Tr.get_set, if_neg (by omega), Tr.get_set, if_neg (by omega), Tr.get_set, if_neg (by omega), Tr.get_set, if_neg (by omega), Tr.get_set, if_pos rfl]
  have q1 : H1.get (n + 1) = some (.cells (ints (nestL 0 zeros zeros)) 113 false none) := by rw [← hH1, Tr.get_set, if_neg (by omega), Tr.get_set, if_neg (by omega), Tr.get_set, if_neg (by omega), Tr.get_set, if_pos rfl]
  have q2 : H1.get (n + 1 + 1) = some (.cells (ints (List.replicate 16 0)) 111 false none) := by rw [← hH1, Tr.get_set, if_neg (by omega), Tr.get_set, if_neg (by omega), Tr.get_set, if_pos rfl]
  have q3 : H1.get (n + 1 + 1 + 1) = some (.cells [.pointer (some ⟨g, 0, none⟩)] 105 false none) := by rw [← hH1, Tr.get_set, if_neg (by omega), Tr.get_set, if_pos rfl]
  have q4 : H1.get (n + 1 + 1 + 1 + 1) = some (.cells [.int .i64 pad] 3 false none) := by rw [← hH1, Tr.get_set, if_pos rfl]
  clear hH1
  generalize hT : T97 (.pointer (some ⟨g, 0, none⟩)) (.int .i64 pad) (.agg ⟨[.int .i64 y, .int .i64 a1, .int .i64 a2, .int .i64 a3, .int .i64 a4]⟩) (.pointer (some ⟨n, 0, none⟩)) (.pointer (some ⟨n + 1, 0, none⟩)) (.pointer (some ⟨n + 1 + 1, 0, none⟩))
    (.func (.func 119) ⟨[]⟩ ⟨[.pointer (some ⟨n + 1 + 1 + 1 + 1, 0, none⟩), .pointer (some ⟨n + 1 + 1 + 1, 0, none⟩)]⟩) = T
  have hc119 : ∀ (a b c : Value) (H : Hp) (n : Nat) (k : Value → Hp → Nat → Res), pureV b = false → callFK P (cal (l + 4)) 119 [a, b, c] H n k = bindO (C119_0 (cal (l + 3)) KK a b c H n) fun r => k r.1 r.2.1 r.2.2 := by
    intro a b c H n k hb
    unfold callFK
    have : (flatF P 119 && pureL [a, b, c]) = false := by simp [pureL, hb]
    rw [this, call119]
  rw [hc119 _ _ _ _ _ _ rfl]
  generalize hH2 : (H1.set (n + 1 + 1 + 1 + 2) (some .deferred)).set (n + 1 + 1 + 1 + 2 + 1) (some (.loop .ready none 97 T (ntm P 97) #[12] asg97 bod97 (n + 1 + 1 + 1 + 2))) = H2
  have r1 : ∀ b, b < n + 1 + 1 + 1 + 2 → H2.get b = H1.get b := fun b hb => by rw [← hH2, Tr.get_set, if_neg (by omega), Tr.get_set, if_neg (by omega)]
  have r2 : H2.get (n + 1 + 1 + 1 + 2) = some .deferred := by rw [← hH2, Tr.get_set, if_neg (by omega), Tr.get_set, if_pos rfl]
  have r3 : H2.get (n + 1 + 1 + 1 + 2 + 1) = some (.loop .ready none 97 T (ntm P 97) #[12] asg97 bod97 (n + 1 + 1 + 1 + 2)) := by rw [← hH2, Tr.get_set, if_pos rfl]
  clear hH2
  have hs2 : ∀ H3 : Hp, (∀ b, b ≠ n + 1 + 1 + 1 + 2 + 1 → b ≠ n + 1 + 1 → H3.get b = H2.get b) → Reads H3 (n + 1 + 1 + 1 + 1) (n + 1 + 1 + 1) g x pad near := by
    intro H3 h3
    have c3 : H3.get (n + 1 + 1 + 1) = some (.cells [.pointer (some ⟨g, 0, none⟩)] 105 false none) := by rw [h3 _ (by omega) (by omega), r1 _ (by omega)]; exact q3
    have c4 : H3.get (n + 1 + 1 + 1 + 1) = some (.cells [.int .i64 pad] 3 false none) := by rw [h3 _ (by omega) (by omega), r1 _ (by omega)]; exact q4
    have cg : CellsF H3 g 859 117 f := by
      obtain ⟨c, e1, e2, e3⟩ := hs
      exact ⟨c, by rw [h3 _ (by omega) (by omega), r1 _ (by omega), k1 _ hg]; exact e1, e2, e3⟩
    refine ⟨loadV_int (o := 0) (k := 0) (cells_at c4) agg3 rfl, loadV_scalar (o := 0) (k := 0) (cells_at c3) agg105 rfl rfl rfl, ?_, fun b hb => ?_⟩
    · have := cg.load (P := P) (k := 0) agg31 (by omega)
      rw [hx] at this; exact this
    · have := cg.load (P := P) (k := 3 + pad * 8 + b) agg4 (by omega)
      rw [hnear b hb] at this
      rw [show 0 + 3 + pad * 8 + b * 1 = 3 + pad * 8 + b by omega]
      exact this
  obtain ⟨H3, n3, e3, i1, i2, i3, i4⟩ := iter_spec (cal (l + 3)) (.func (.yield (n + 1 + 1 + 1 + 2 + 1)) #[] #[]) (n + 1 + 1 + 1 + 1) (n + 1 + 1 + 1) g pad np x near hpad hnp hlen
    (fun ps Hc nc => nc = n + 1 + 1 + 1 + 2 + 2 ∧ Hc.get (n + 1 + 1 + 1 + 2 + 1) = some (.loop .ready none 97 T (ntm P 97) #[12] asg97 bod97 (n + 1 + 1 + 1 + 2)) ∧ Hc.get (n + 1 + 1) = some (.cells (ints (fillS a3 a4 ps)) 111 false none) ∧ ∀ b, b ≠ n + 1 + 1 + 1 + 2 + 1 → b ≠ n + 1 + 1 → Hc.get b = H2.get b)
    (fun ps Hc nc ⟨_, _, _, h⟩ => hs2 Hc h)
    (fun ps p Hc nc ⟨h1, h2, h3, h4⟩ hp => by
      have h5 : Hc.get n = some (.cells [.int .i64 y, .int .i64 a1, .int .i64 a2, .int .i64 a3, .int .i64 a4] 86 false none) := by rw [h4 _ (by omega) (by omega), r1 _ (by omega)]; exact q0
      rw [← hT] at h2
      obtain ⟨H', y1, y2, y3, y4⟩ := yield97 (ρ := Value × Hp × Nat) (l + 2) (n := nc) h2 h5 h3 (fillS_len _ _ _) (by omega) (by omega) hp
      refine ⟨H', nc, y1, h1, ?_, ?_, fun b hb hb' => (y4 b hb hb').trans (h4 b hb hb')⟩
      · rw [y2, h2, hT]
      · rw [y3, fillS_snoc])
    (H := H2) (n := n + 1 + 1 + 1 + 2 + 2) ⟨rfl, r3, by rw [r1 _ (by omega)]; exact q2, fun _ _ _ => rfl⟩
  rw [show n + 1 + 1 + 1 + 2 = n + 1 + 1 + 1 + 2 from rfl, e3, bindO_some]
  have hout : rangeOut (n + 1 + 1 + 1 + 2 + 1) { T := T, H := H3, n := n3, D := [n + 1 + 1 + 1 + 2] } = some (.norm, { T := T, H := H3.set (n + 1 + 1 + 1 + 2 + 1) (some (.loop .exhausted none 97 T (ntm P 97) #[12] asg97 bod97 (n + 1 + 1 + 1 + 2))), n := n3, D := [n + 1 + 1 + 1 + 2] }) := by
    unfold rangeOut
    simp only [i2]
  rw [hout]
  show Ret (K97 (cal (l + 4)) KK T (H3.set (n + 1 + 1 + 1 + 2 + 1) (some (.loop .exhausted none 97 T (ntm P 97) #[12] asg97 bod97 (n + 1 + 1 + 1 + 2)))) n3 [n + 1 + 1 + 1 + 2]) n H _
  generalize hH4 : H3.set (n + 1 + 1 + 1 + 2 + 1) (some (.loop .exhausted none 97 T (ntm P 97) #[12] asg97 bod97 (n + 1 + 1 + 1 + 2))) = H4
  have o1 : ∀ b, b ≠ n + 1 + 1 + 1 + 2 + 1 → b ≠ n + 1 + 1 → H4.get b = H2.get b := fun b hb hb' => by rw [← hH4, Tr.get_set, if_neg hb]; exact i4 b hb hb'
  have o2 : H4.get (n + 1 + 1) = some (.cells (ints (fillS a3 a4 (pad :: (List.range np).filter near))) 111 false none) := by rw [← hH4, Tr.get_set, if_neg (by omega)]; exact i3
  clear hH4 hout
  have o0 : H4.get n = some (.cells [.int .i64 y, .int .i64 a1, .int .i64 a2, .int .i64 a3, .int .i64 a4] 86 false none) := by rw [o1 _ (by omega) (by omega), r1 _ (by omega)]; exact q0
  have o3 : H4.get (n + 1) = some (.cells (ints (nestL 0 zeros zeros)) 113 false none) := by rw [o1 _ (by omega) (by omega), r1 _ (by omega)]; exact q1
  have o4 : H4.get (n + 1 + 1 + 1 + 2) = some .deferred := by rw [o1 _ (by omega) (by omega)]; exact r2
  rw [← hT, post97, fa86_1, bindO_some, addrV_eq, bindO_some, (loadK53 o0).1, bindO_some, at111 _ 0 hpad, bindO_some, store53, Nat.zero_add, store_two o2 (by rw [fillS_len]; omega), bindO_some]
  have hsh : ((fillS a3 a4 (pad :: (List.range np).filter near)).set (pad * 2) a1).set (pad * 2 + 1) a2 = sharesL a1 a2 a3 a4 near np pad := rfl
  rw [hsh]
  generalize hH5 : H4.set (n + 1 + 1) (some (.cells (ints (sharesL a1 a2 a3 a4 near np pad)) 111 false none)) = H5
  have p1 : ∀ b, b ≠ n + 1 + 1 → H5.get b = H4.get b := fun b hb => by rw [← hH5, Tr.get_set, if_neg hb]
  have p2 : H5.get (n + 1 + 1) = some (.cells (ints (sharesL a1 a2 a3 a4 near np pad)) 111 false none) := by rw [← hH5, Tr.get_set, if_pos rfl]
  clear hH5
  have hl6 := load_all p2 agg111 sz111 (by rw [ints_length, sharesL_len])
  rw [fa86_0, bindO_some, addrV_eq, bindO_some, (loadK53 ((p1 n (by omega)).trans o0)).2.2, bindO_some, addrV_eq, bindO_some, hl6, bindO_some, hnest]
  have lens : (ints (nestL y (sharesL a1 a2 a3 a4 near np pad) B)).length = 33 := by rw [ints_length, nest_cells (sharesL_len ..) hB.1]
  rw [storeP_agg sz113 lens, storeN_all ((p1 (n + 1) (by omega)).trans o3) (by rw [lens, ints_length, nest_cells zeros_len zeros_len]) (ints_leaf _), bindO_some]
  generalize hH6 : H5.set (n + 1) (some (.cells (ints (nestL y (sharesL a1 a2 a3 a4 near np pad) B)) 113 false none)) = H6
  have u1 : H6.get (n + 1) = some (.cells (ints (nestL y (sharesL a1 a2 a3 a4 near np pad) B)) 113 false none) := by rw [← hH6, Tr.get_set, if_pos rfl]
  have u2 : ∀ b, b ≠ n + 1 → H6.get b = H5.get b := fun b hb => by rw [← hH6, Tr.get_set, if_neg hb]
  clear hH6
  have ht : takeD H6 [n + 1 + 1 + 1 + 2] = some (H6.set (n + 1 + 1 + 1 + 2) none) := by
    have : H6.get (n + 1 + 1 + 1 + 2) = some .deferred := by rw [u2 _ (by omega), p1 _ (by omega)]; exact o4
    unfold takeD
    simp only [this]
    rfl
  rw [ht]
  show Ret (bindO (resV P ((Tr.nil : Tm).set 6 (some (.pointer (some ⟨n + 1, 0, none⟩)))) (H6.set (n + 1 + 1 + 1 + 2) none) results97) fun vs => some (oneV vs, H6.set (n + 1 + 1 + 1 + 2) none, n3)) n H _
  rw [res97, load_all (t := 113) (s := 33) (L := ints (nestL y (sharesL a1 a2 a3 a4 near np pad) B)) (e := 113) (vec := none) (by rw [Tr.get_set, if_neg (by omega)]; exact u1) agg113 sz113 lens]
  refine ⟨_, _, rfl, by omega, fun b hb => ?_⟩
  rw [Tr.get_set, if_neg (by omega), u2 _ (by omega), p1 _ (by omega), o1 _ (by omega) (by omega), r1 _ (by omega), k1 _ hb]
end Go.Proofs.Ytgojjellogiglaa.spec
end
section
namespace Go.Ev
open Go
variable {P : Program} {ρ : Type}
theorem effK_gen {ex : List Extra} {H : Hp} {n : Nat} {v : Value} {op : Hp → Nat → (Value → Hp → Nat → Option ρ) → Option ρ} {R : Hp → Nat → Prop}
    (hex : ∀ y ∈ ex, ∃ t a, y = .l t a ∧ ((∃ c e ro vec, H.get a.block = some (.cells c e ro vec)) ∨ ∃ c, H.get a.block = some (.rows c)))
    (hop : ∀ Hm, (∀ b, ¬ ldOf ex b → Hm.get b = H.get b) → ∃ H2 n2, (∀ k, op Hm n k = k v H2 n2) ∧ (∀ b, ldOf ex b → H2.get b = Hm.get b) ∧ R H2 n2) :
    ∃ H' H2 n2, (∀ k, effK P ex H n op k = k v H' n2) ∧ R H2 n2 ∧ (∀ b, ldOf ex b → H'.get b = H.get b) ∧ ∀ b, ¬ ldOf ex b → H'.get b = H2.get b := by
  cases ex with
  | nil =>
    obtain ⟨H2, n2, h1, _, h3⟩ := hop H (fun _ _ => rfl)
    exact ⟨H2, H2, n2, fun k => by unfold effK; exact h1 k, h3, fun b ⟨_, _, h, _⟩ => (by cases h), fun _ _ => rfl⟩
  | cons y l =>
    have hl : ∀ z ∈ y :: l, ∃ t a, z = .l t a := fun z hz => by obtain ⟨t, a, e, _⟩ := hex z hz; exact ⟨t, a, e⟩
    obtain ⟨H1, e1, e2⟩ := maskX_some (ex := y :: l) (H := H) fun z hz => by obtain ⟨t, a, e, h⟩ := hex z hz; exact .inl ⟨t, a, e, h⟩
    have hnw : ∀ b, ¬ nwOf (y :: l) b := fun b ⟨id, c, e, h1, _⟩ => by obtain ⟨t, a, q⟩ := hl _ h1; cases q
    obtain ⟨H2, n2, h1, h2, h3⟩ := hop (maskXA (y :: l) H1) fun b hb => by
      rw [(maskXA_get (H := H1) b).2 (hnw _)]
      rcases e2 b with q | ⟨_, q⟩
      · exact q
      · exact absurd q hb
    have hsome : ∀ z ∈ y :: l, (∃ t a, z = .l t a ∧ (H2.get a.block).isSome) ∨ ∃ id c e, z = .a id c e := by
      intro z hz
      obtain ⟨t, a, rfl, hc⟩ := hex z hz
      refine .inl ⟨t, a, rfl, ?_⟩
      rw [h2 _ ⟨t, a, hz, rfl⟩, (maskXA_get (H := H1) a.block).2 (hnw _)]
      have hs : (H.get a.block).isSome := by rcases hc with ⟨c, e, ro, vec, hc⟩ | ⟨c, hc⟩ <;> rw [hc] <;> rfl
      rcases e2 a.block with q | ⟨⟨c, e, ro, vec, _, q⟩, _⟩
      · rw [q]; exact hs
      · rw [q]; rfl
    obtain ⟨H3, f1, f2, f3⟩ := backX_some (H0 := H) hsome
    have hck : chkX P (backXA (y :: l) H H3) (y :: l) = true := chk_true fun z hz => .inl (hl z hz)
    refine ⟨backXA (y :: l) H H3, H2, n2, fun k => ?_, h3, fun b hb => ?_, fun b hb => ?_⟩
    · unfold effK
      simp only [e1, bindO_some, h1, f1, hck]
      rfl
    · rw [(backXA_get b).2 (hnw b)]; exact f2 b hb
    · rw [(backXA_get b).2 (hnw b)]; exact f3 b hb
theorem putF_one (f : Nat → Value) (o : Nat) (v : Value) (k : Nat) : putF f o [v] k = if k = o then v else f k := by
  unfold putF
  by_cases h : k = o
  · subst h; simp
  · rw [if_neg h]
    by_cases h2 : o ≤ k
    · rw [if_pos h2]
      have : k - o ≠ 0 := by omega
      cases hk : k - o with
      | zero => exact absurd hk this
      | succ m => simp
    · rw [if_neg h2]
theorem putF_in (f : Nat → Value) (o : Nat) (vs : List Value) {j : Nat} {v : Value} (h : vs[j]? = some v) : putF f o vs (o + j) = v := by
  unfold putF
  rw [if_pos (by omega), show o + j - o = j by omega, h]
theorem putF_out (f : Nat → Value) (o : Nat) (vs : List Value) {k : Nat} (h : k < o ∨ o + vs.length ≤ k) : putF f o vs k = f k := by
  unfold putF
  by_cases h2 : o ≤ k
  · rw [if_pos h2, List.getElem?_eq_none (by omega)]
  · rw [if_neg h2]
end Go.Ev
end
section
namespace Go.Proofs.Ytgojjellogiglaa.spec
open Go Go.Ev Go.Proofs.Ytgojjellogiglaa.nestFits Go.Proofs.Ytgojjellogiglaa.G
set_option maxRecDepth 100000
variable {ρ : Type}
theorem und115 : P.underlying 115 = some (.array 8 114) := by kernel_rfl
theorem und114 : P.underlying 114 = some (.array 3 113) := by kernel_rfl
theorem sz114 : szT P 114 = some 99 := by kernel_rfl
theorem at115 (b o : Nat) {i : Nat} (hi : i < 8) : indexAddrV P 115 (.pointer (some ⟨b, o, none⟩)) (.int .i64 i) = some (.pointer (some ⟨b, o + i * 99, none⟩)) := by
  unfold indexAddrV
  simp only [und115, idx_lt hi, sz114]
  rfl
theorem at114 (b o : Nat) {i : Nat} (hi : i < 3) : indexAddrV P 114 (.pointer (some ⟨b, o, none⟩)) (.int .i64 i) = some (.pointer (some ⟨b, o + i * 33, none⟩)) := by
  unfold indexAddrV
  simp only [und114, idx_lt hi, sz113]
  rfl
open Classical in
noncomputable def nearB (js : List Int) (i : Nat) (a b : Nat) : Bool := decide (∃ q, q < i ∧ J js a b q)
noncomputable def shP (js ks : List Int) (nj np p kd : Nat) : List Int := sharesL (ks.getD (kd * 5 + 1) 0) (ks.getD (kd * 5 + 2) 0) (ks.getD (kd * 5 + 3) 0) (ks.getD (kd * 5 + 4) 0) (nearB js nj p) np p
def NestAt (f : Nat → Value) (js ks : List Int) (nj np p kd : Nat) : Prop := ∃ B, BoundsTo (ks.getD (kd * 5) 0) (shP js ks nj np p kd) B 8 ∧ ∀ j, j < 33 → f (67 + p * 99 + kd * 33 + j) = .int .i64 ((nestL (ks.getD (kd * 5) 0) (shP js ks nj np p kd) B).getD j 0)
structure SiteF (f : Nat → Value) (x y z : Value) (js : List Int) (i : Nat) : Prop where
  x : f 0 = x
  y : f 1 = y
  z : f 2 = z
  near : ∀ a b, a < 8 → b < 8 → f (3 + a * 8 + b) = .bool (nearB js i a b)
open Classical in
theorem nearB_next {js : List Int} {i A B : Nat} (hA : js[i * 2]? = some (A : Int)) (hB : js[i * 2 + 1]? = some (B : Int)) (a b : Nat) :
    nearB js (i + 1) a b = if (a = A ∧ b = B) ∨ (a = B ∧ b = A) then true else nearB js i a b := by
  have hJ : J js a b i ↔ (a = A ∧ b = B) ∨ (a = B ∧ b = A) := by
    unfold J; rw [hA, hB]; simp only [Option.some.injEq]; omega
  unfold nearB
  by_cases h : (a = A ∧ b = B) ∨ (a = B ∧ b = A)
  · rw [if_pos h]
    exact decide_eq_true ⟨i, by omega, hJ.2 h⟩
  · rw [if_neg h]
    congr 1
    exact propext ⟨fun ⟨q, h1, h2⟩ => by
      rcases Nat.lt_or_ge q i with z | z
      · exact ⟨q, z, h2⟩
      · rw [show q = i by omega] at h2
        exact absurd (hJ.1 h2) h, fun ⟨q, h1, h2⟩ => ⟨q, by omega, h2⟩⟩
theorem near_loop61 (c : Cal) (k : Nat) (g np nj : Nat) (js : List Int) (x y z : Value) (hnp : np ≤ 8) (hnj : nj ≤ 1000) (hjs : ∀ i, i < nj → ∃ A B : Nat, js[i * 2]? = some (A : Int) ∧ js[i * 2 + 1]? = some (B : Int) ∧ A < np ∧ B < np)
    (Q : Res → Prop) (H0 : Hp) (n0 : Nat) (hg : n0 ≤ g) (hy0 : SliceR H0 n0 2 y nj js) (hx : ∀ (H : Hp) (n : Nat) (f : Nat → Value), n0 ≤ n → g < n → Keep n0 H0 H → CellsF H g 859 117 f → SiteF f x y z js nj →
      (∀ p kd j, p < 8 → kd < 3 → j < 33 → f (67 + p * 99 + kd * 33 + j) = .int .i64 0 → True) → Q (S61_2 c k k (.pointer (some ⟨g, 0, none⟩)) (.int .i64 np) (.int .i64 0) H n)) (hlx : lenV P 31 x = some (.int .i64 np)) :
    ∀ (m i : Nat) (H : Hp) (n : Nat) (f : Nat → Value), n0 ≤ n → g < n → Keep n0 H0 H → CellsF H g 859 117 f → SiteF f x y z js i → i ≤ nj → nj - i ≤ m →
    Q (S61_1 c k m (.pointer (some ⟨g, 0, none⟩)) y (.int .i64 nj) (.int .i64 i) H n) := by
  have body : ∀ (b1 : Value → Value → Value → Value → Hp → Nat → Res) (m i : Nat) (H : Hp) (n : Nat) (f : Nat → Value), n0 ≤ n → g < n → Keep n0 H0 H → CellsF H g 859 117 f → SiteF f x y z js i → i ≤ nj →
      (∀ (H : Hp) (n : Nat) (f : Nat → Value), n0 ≤ n → g < n → Keep n0 H0 H → CellsF H g 859 117 f → SiteF f x y z js (i + 1) → i < nj → Q (b1 (.pointer (some ⟨g, 0, none⟩)) y (.int .i64 nj) (.int .i64 ((i + 1 : Nat) : Int)) H n)) →
      Q (C61_1 c k m b1 (.pointer (some ⟨g, 0, none⟩)) y (.int .i64 nj) (.int .i64 i) H n) := by
    intro b1 m i H n f hn hgn hk hf hs hi ih
    unfold C61_1 B61_1
    generalize hS : S61_2 c k k = S
    rw [binK_some bin_lss, ifK_d]
    by_cases hlt : i < nj
    · rw [if_pos (by omega)]
      obtain ⟨A, B, hA, hB, hA8, hB8⟩ := hjs i hlt
      have hy := (hy0.keep hk (Nat.le_refl _)).up hn
      obtain ⟨bb, o, hix, hbn, hc⟩ := hy.at_ und32 sz88 hlt
      have hl2 : i * 2 + 2 ≤ js.length := by rw [hy.1]; omega
      obtain ⟨u, w, hu, hw, huw⟩ := pair_at hl2
      rw [hA] at hu; rw [hB] at hw
      cases hu; cases hw
      have hld : loadV P H 88 ⟨bb, o + i * 2, none⟩ = some (.agg ⟨[.int .i64 A, .int .i64 B]⟩) := by
        rw [loadV_agg hc agg88 sz88 (by rw [ints_length]; exact hl2) (ints_noHole _), huw]
      obtain ⟨H1, k1, k2, k3⟩ := spill (P := P) (ρ := Value × Hp × Nat) (H := H) (n := n) (L := [.int .i64 A, .int .i64 B]) zero88 rfl sz88 rfl rfl
      rw [hix, bindO_some, addrV_eq, bindO_some, hld, bindO_some, k3]
      have la : loadV P H1 3 ⟨n, 0 + 0, none⟩ = some (.int .i64 A) := loadV_int (cells_at k2) agg3 rfl
      have lb : loadV P H1 3 ⟨n, 0 + 1, none⟩ = some (.int .i64 B) := loadV_int (cells_at k2) agg3 rfl
      rw [fa88_0, bindO_some, addrV_eq, bindO_some, la, bindO_some, fa88_1, bindO_some, addrV_eq, bindO_some, lb, bindO_some, bindO_some, addrV_eq, bindO_some, lb, bindO_some, bindO_some, addrV_eq, bindO_some, la, bindO_some, nil_ptr, bindO_some, fa117_1, bindO_some,
        at109 _ _ (by omega), bindO_some, at108 _ _ (by omega), bindO_some, bindO_some, fa117_1, bindO_some, at109 _ _ (by omega), bindO_some]
      have hf1 := hf.keep k1 hgn
      obtain ⟨H2, H2', n2, e2, ⟨r1, r2, r3⟩, r4, r5⟩ := effK_gen (P := P) (ρ := Value × Hp × Nat) (ex := [.l 3 ⟨n, 0 + 0, none⟩, .l 3 ⟨n, 0 + 1, none⟩]) (H := H1) (n := n + 1) (v := undef)
        (op := fun H n k => bindO (storeP P 4 (.pointer (some ⟨g, 0 + 3 + A * 8 + B * 1, none⟩)) (.bool true) H) fun H => k undef H n)
        (R := fun H' n' => n' = n + 1 ∧ CellsF H' g 859 117 (putF f (0 + 3 + A * 8 + B * 1) [.bool true]) ∧ ∀ b, b ≠ n → b ≠ g → H'.get b = H1.get b)
        (fun q hq => by
          simp only [List.mem_cons, List.not_mem_nil, or_false] at hq
          rcases hq with rfl | rfl <;> exact ⟨_, _, rfl, .inl ⟨_, _, _, _, k2⟩⟩)
        (fun Hm hm => by
          have hld : ∀ b, ldOf [.l 3 ⟨n, 0 + 0, none⟩, .l 3 ⟨n, 0 + 1, none⟩] b ↔ b = n := fun b => by
            constructor
            · rintro ⟨t, a, h1, h2⟩
              simp only [List.mem_cons, List.not_mem_nil, or_false, Extra.l.injEq] at h1
              rcases h1 with ⟨_, rfl⟩ | ⟨_, rfl⟩ <;> exact h2.symm
            · rintro rfl
              exact ⟨3, ⟨_, 0 + 0, none⟩, by simp, rfl⟩
          have hmg : CellsF Hm g 859 117 f := by
            obtain ⟨c, e1, e2, e3⟩ := hf1
            exact ⟨c, by rw [hm g (fun h => by have := (hld g).1 h; omega)]; exact e1, e2, e3⟩
          obtain ⟨H', s1, s2, s3⟩ := hmg.storeN (o := 0 + 3 + A * 8 + B * 1) (vs := [.bool true]) (by simp; omega) rfl
          refine ⟨H', n + 1, fun k => by rw [storeP_leaf sz4 rfl, s1, bindO_some], fun b hb => s3 b (by have := (hld b).1 hb; omega), rfl, s2, fun b hb hb' => ?_⟩
          rw [s3 b hb', hm b (fun h => hb ((hld b).1 h))])
      rw [e2, at108 _ _ (by omega), bindO_some]
      subst r1
      have hld : ∀ b, ldOf [.l 3 ⟨n, 0 + 0, none⟩, .l 3 ⟨n, 0 + 1, none⟩] b ↔ b = n := fun b => by
        constructor
        · rintro ⟨t, a, h1, h2⟩
          simp only [List.mem_cons, List.not_mem_nil, or_false, Extra.l.injEq] at h1
          rcases h1 with ⟨_, rfl⟩ | ⟨_, rfl⟩ <;> exact h2.symm
        · rintro rfl
          exact ⟨3, ⟨_, 0 + 0, none⟩, by simp, rfl⟩
      have hf2 : CellsF H2 g 859 117 (putF f (0 + 3 + A * 8 + B * 1) [.bool true]) := by
        obtain ⟨c, e1, e2, e3⟩ := r2
        exact ⟨c, by rw [r5 g (fun h => by have := (hld g).1 h; omega)]; exact e1, e2, e3⟩
      obtain ⟨H3, s1, s2, s3⟩ := hf2.storeN (o := 0 + 3 + B * 8 + A * 1) (vs := [.bool true]) (by simp; omega) rfl
      have hI : I64 ((i : Int) + 1) := by unfold I64; omega
      have hcast : ((i : Int) + 1) = ((i + 1 : Nat) : Int) := by omega
      rw [storeP_leaf sz4 rfl, s1, bindO_some, binK_some (bin_add hI), hcast]
      refine ih H3 (n + 1) _ (by omega) (by omega) (fun b hb => ?_) s2 ⟨?_, ?_, ?_, fun a b ha hb => ?_⟩ hlt
      · rw [s3 b (by omega), r5 b (fun h => by have := (hld b).1 h; omega), r3 b (by omega) (by omega), k1 b (by omega), hk b hb]
      · rw [putF_one, if_neg (by omega), putF_one, if_neg (by omega)]; exact hs.x
      · rw [putF_one, if_neg (by omega), putF_one, if_neg (by omega)]; exact hs.y
      · rw [putF_one, if_neg (by omega), putF_one, if_neg (by omega)]; exact hs.z
      · rw [putF_one, putF_one, nearB_next hA hB, hs.near a b ha hb]
        by_cases c1 : 3 + a * 8 + b = 0 + 3 + B * 8 + A * 1
        · rw [if_pos c1, if_pos (.inr ⟨by omega, by omega⟩)]
        · rw [if_neg c1]
          by_cases c2 : 3 + a * 8 + b = 0 + 3 + A * 8 + B * 1
          · rw [if_pos c2, if_pos (.inl ⟨by omega, by omega⟩)]
          · rw [if_neg c2, if_neg]
            rintro (⟨h1, h2⟩ | ⟨h1, h2⟩)
            · exact c2 (by subst h1; subst h2; omega)
            · exact c1 (by subst h1; subst h2; omega)
    · rw [if_neg (by omega)]
      have hi' : i = nj := by omega
      subst hi'
      have lx : loadV P H 31 ⟨g, 0 + 0 + 0, none⟩ = some x := by
        have := hf.load (P := P) (k := 0) agg31 (by omega)
        rw [hs.x] at this; exact this
      rw [nil_ptr, bindO_some, fa117_0, bindO_some, fa35_0, bindO_some, addrV_eq, bindO_some, lx, bindO_some, hlx, bindO_some, ← hS]
      exact hx H n f hn hgn hk hf hs (fun _ _ _ _ _ _ _ => trivial)
  intro m
  induction m with
  | zero =>
    intro i H n f h1 h2 h3 h4 h5 h6 h7
    exact body _ 0 i H n f h1 h2 h3 h4 h5 h6 (fun _ _ _ _ _ _ _ _ h => by omega)
  | succ m ih =>
    intro i H n f h1 h2 h3 h4 h5 h6 h7
    exact body _ (m + 1) i H n f h1 h2 h3 h4 h5 h6 (fun H n f q1 q2 q3 q4 q5 q6 => ih (i + 1) H n f q1 q2 q3 q4 q5 (by omega) (by omega))
end Go.Proofs.Ytgojjellogiglaa.spec
end
section
namespace Go.Proofs.Ytgojjellogiglaa.spec
open Go Go.Ev Go.Proofs.Ytgojjellogiglaa.nestFits Go.Proofs.Ytgojjellogiglaa.G
set_option maxRecDepth 100000
variable {ρ : Type}
theorem getD_some {X : List Int} {j : Nat} (h : j < X.length) : X[j]? = some (X.getD j 0) := by
  rw [List.getD_eq_getElem?_getD, List.getElem?_eq_getElem h]; rfl
theorem nestOn_call (l : Nat) {H : Hp} {n g np pad : Nat} {f : Nat → Value} {x : Value} {near : Nat → Bool} {y a1 a2 a3 a4 : Int} (hg : g < n) (hs : CellsF H g 859 117 f) (hx : f 0 = x) (hlen : lenV P 31 x = some (.int .i64 np)) (hnp : np ≤ 8) (hpad : pad < 8)
    (hnear : ∀ b, b < 8 → f (3 + pad * 8 + b) = .bool (near b)) (hy : 0 ≤ y ∧ y ≤ 1000) (h1 : okR a1 a2) (h2 : okR a3 a4) :
    ∃ B H' n', BoundsTo y (sharesL a1 a2 a3 a4 near np pad) B 8 ∧ (∀ k : Value → Hp → Nat → Option ρ, callFK P (cal (l + 5)) 97 [.pointer (some ⟨g, 0, none⟩), .int .i64 pad, .agg ⟨[.int .i64 y, .int .i64 a1, .int .i64 a2, .int .i64 a3, .int .i64 a4]⟩] H n k =
      k (.agg ⟨ints (nestL y (sharesL a1 a2 a3 a4 near np pad) B)⟩) H' n') ∧ n ≤ n' ∧ Keep n H H' := by
  obtain ⟨B, hB, H', n', e, h3, h4⟩ := nestOn_spec l hg hs hx hlen hnp hpad hnear hy h1 h2
  refine ⟨B, H', n', hB, fun k => ?_, h3, h4⟩
  unfold callFK
  have : (flatF P 97 && pureL [.pointer (some ⟨g, 0, none⟩), .int .i64 pad, .agg ⟨[.int .i64 y, .int .i64 a1, .int .i64 a2, .int .i64 a3, .int .i64 a4]⟩]) = false := by rw [Bool.and_eq_false_iff]; exact .inr rfl
  rw [this, e]
  rfl
def NestsTo (f : Nat → Value) (js ks : List Int) (nj np nk pd i : Nat) : Prop := ∀ p kd, p < np → kd < nk → (p < pd ∨ (p = pd ∧ kd < i)) → NestAt f js ks nj np p kd
def KindsOk (ks : List Int) (nk : Nat) : Prop := ∀ kd, kd < nk → (0 ≤ ks.getD (kd * 5) 0 ∧ ks.getD (kd * 5) 0 ≤ 1000) ∧ okR (ks.getD (kd * 5 + 1) 0) (ks.getD (kd * 5 + 2) 0) ∧ okR (ks.getD (kd * 5 + 3) 0) (ks.getD (kd * 5 + 4) 0)
theorem nests_loop3 (l k m1 : Nat) (g np nj nk : Nat) (js ks : List Int) (x y z : Value) (hnp : np ≤ 8) (hnk : nk ≤ 3) (hks : KindsOk ks nk)
    (Q : Res → Prop) (H0 : Hp) (n0 : Nat) (hg : n0 ≤ g) (hz0 : SliceR H0 n0 5 z nk ks) (hlx : lenV P 31 x = some (.int .i64 np)) (pd : Nat) (hpd : pd < np) (b2 : Value → Value → Value → Hp → Nat → Res)
    (hb2 : ∀ (H : Hp) (n : Nat) (f : Nat → Value), n0 ≤ n → g < n → Keep n0 H0 H → CellsF H g 859 117 f → SiteF f x y z js nj → NestsTo f js ks nj np nk (pd + 1) 0 → Q (b2 (.pointer (some ⟨g, 0, none⟩)) (.int .i64 np) (.int .i64 ((pd + 1 : Nat) : Int)) H n)) :
    ∀ (m i : Nat) (H : Hp) (n : Nat) (f : Nat → Value), n0 ≤ n → g < n → Keep n0 H0 H → CellsF H g 859 117 f → SiteF f x y z js nj → NestsTo f js ks nj np nk pd i → i ≤ nk → nk - i ≤ m →
    Q (S61_3 (cal (l + 5)) k m1 b2 m (.pointer (some ⟨g, 0, none⟩)) (.int .i64 pd) (.int .i64 np) (.int .i64 pd) z (.int .i64 nk) (.int .i64 i) H n) := by
  have body : ∀ (b3 : Value → Value → Value → Value → Value → Value → Value → Hp → Nat → Res) (m i : Nat) (H : Hp) (n : Nat) (f : Nat → Value), n0 ≤ n → g < n → Keep n0 H0 H → CellsF H g 859 117 f → SiteF f x y z js nj → NestsTo f js ks nj np nk pd i → i ≤ nk →
      (∀ (H : Hp) (n : Nat) (f : Nat → Value), n0 ≤ n → g < n → Keep n0 H0 H → CellsF H g 859 117 f → SiteF f x y z js nj → NestsTo f js ks nj np nk pd (i + 1) → i < nk →
        Q (b3 (.pointer (some ⟨g, 0, none⟩)) (.int .i64 pd) (.int .i64 np) (.int .i64 pd) z (.int .i64 nk) (.int .i64 ((i + 1 : Nat) : Int)) H n)) →
      Q (C61_3 (cal (l + 5)) k m1 m b2 b3 (.pointer (some ⟨g, 0, none⟩)) (.int .i64 pd) (.int .i64 np) (.int .i64 pd) z (.int .i64 nk) (.int .i64 i) H n) := by
    intro b3 m i H n f hn hgn hk hf hs hnt hi ih
    unfold C61_3 B61_3
    rw [binK_some bin_lss, ifK_d]
    by_cases hlt : i < nk
    · rw [if_pos (by omega)]
      have hz := (hz0.keep hk (Nat.le_refl _)).up hn
      obtain ⟨bb, o, hix, hbn, hc⟩ := hz.at_ und33 sz86 hlt
      have hl2 : i * 5 + 5 ≤ ks.length := by rw [hz.1]; omega
      have hld : loadV P H 86 ⟨bb, o + i * 5, none⟩ = some (.agg ⟨[.int .i64 (ks.getD (i * 5) 0), .int .i64 (ks.getD (i * 5 + 1) 0), .int .i64 (ks.getD (i * 5 + 2) 0), .int .i64 (ks.getD (i * 5 + 3) 0), .int .i64 (ks.getD (i * 5 + 4) 0)]⟩) := by
        rw [loadV_agg hc agg86 sz86 (by rw [ints_length]; exact hl2) (ints_noHole _), five_at hl2]
      obtain ⟨H1, k1, k2, k3⟩ := spill (P := P) (ρ := Value × Hp × Nat) (H := H) (n := n) (L := [.int .i64 (ks.getD (i * 5) 0), .int .i64 (ks.getD (i * 5 + 1) 0), .int .i64 (ks.getD (i * 5 + 2) 0), .int .i64 (ks.getD (i * 5 + 3) 0), .int .i64 (ks.getD (i * 5 + 4) 0)]) zero86 rfl sz86 rfl rfl
      rw [hix, bindO_some, addrV_eq, bindO_some, hld, bindO_some, k3]
      have hback := load_all k2 agg86 sz86 rfl
      rw [addrV_eq, bindO_some, hback, bindO_some, nil_ptr, bindO_some, fa117_2, bindO_some, at115 _ _ (by omega), bindO_some]
      have hf1 := hf.keep k1 hgn
      obtain ⟨y1, y2, y3⟩ := hks i hlt
      obtain ⟨B, H2, n2, hB, e2, e3, e4⟩ := nestOn_call (ρ := Value × Hp × Nat) l (n := n + 1) (by omega) hf1 hs.x hlx hnp (show pd < 8 by omega) (near := nearB js nj pd) (fun b hb => hs.near pd b (by omega) hb) y1 y2 y3
      rw [e2, at114 _ _ (by omega), bindO_some]
      have hf2 := hf1.keep e4 (by omega)
      have lens : (ints (nestL (ks.getD (i * 5) 0) (sharesL (ks.getD (i * 5 + 1) 0) (ks.getD (i * 5 + 2) 0) (ks.getD (i * 5 + 3) 0) (ks.getD (i * 5 + 4) 0) (nearB js nj pd) np pd) B)).length = 33 := by rw [ints_length, nest_cells (sharesL_len ..) hB.1]
      obtain ⟨H3, s1, s2, s3⟩ := hf2.storeN (o := 0 + 67 + pd * 99 + i * 33) (vs := ints (nestL (ks.getD (i * 5) 0) (sharesL (ks.getD (i * 5 + 1) 0) (ks.getD (i * 5 + 2) 0) (ks.getD (i * 5 + 3) 0) (ks.getD (i * 5 + 4) 0) (nearB js nj pd) np pd) B)) (by rw [lens]; omega) (ints_leaf _)
      have hI : I64 ((i : Int) + 1) := by unfold I64; omega
      have hcast : ((i : Int) + 1) = ((i + 1 : Nat) : Int) := by omega
      rw [storeP_agg sz113 lens, s1, bindO_some, binK_some (bin_add hI), hcast]
      refine ih H3 n2 _ (by omega) (by omega) (fun b hb => ?_) s2 ⟨?_, ?_, ?_, fun a b ha hb => ?_⟩ (fun p kd hp hkd hpk => ?_) hlt
      · rw [s3 b (by omega), e4 b (by omega), k1 b (by omega), hk b hb]
      · rw [putF_out _ _ _ (.inl (by omega))]; exact hs.x
      · rw [putF_out _ _ _ (.inl (by omega))]; exact hs.y
      · rw [putF_out _ _ _ (.inl (by omega))]; exact hs.z
      · rw [putF_out _ _ _ (.inl (by omega))]; exact hs.near a b ha hb
      · by_cases hnew : p = pd ∧ kd = i
        · obtain ⟨rfl, rfl⟩ := hnew
          refine ⟨B, hB, fun j hj => ?_⟩
          rw [show 67 + p * 99 + kd * 33 + j = 0 + 67 + p * 99 + kd * 33 + j by omega]
          refine putF_in _ _ _ (ints_get ?_)
          have : j < (nestL (ks.getD (kd * 5) 0) (sharesL (ks.getD (kd * 5 + 1) 0) (ks.getD (kd * 5 + 2) 0) (ks.getD (kd * 5 + 3) 0) (ks.getD (kd * 5 + 4) 0) (nearB js nj p) np p) B).length := by rw [← ints_length, lens]; exact hj
          exact getD_some this
        · obtain ⟨B', hB', hf'⟩ := hnt p kd hp hkd (by omega)
          refine ⟨B', hB', fun j hj => ?_⟩
          rw [putF_out _ _ _ (by rw [lens]; omega)]
          exact hf' j hj
    · rw [if_neg (by omega)]
      have hi' : i = nk := by omega
      subst hi'
      have hI : I64 ((pd : Int) + 1) := by unfold I64; omega
      have hcast : ((pd : Int) + 1) = ((pd + 1 : Nat) : Int) := by omega
      rw [binK_some (bin_add hI), hcast]
      exact hb2 H n f hn hgn hk hf hs (fun p kd hp hkd h => hnt p kd hp hkd (by omega))
  intro m
  induction m with
  | zero =>
    intro i H n f h1 h2 h3 h4 h5 h6 h7 h8
    exact body _ 0 i H n f h1 h2 h3 h4 h5 h6 h7 (fun _ _ _ _ _ _ _ _ _ h => by omega)
  | succ m ih =>
    intro i H n f h1 h2 h3 h4 h5 h6 h7 h8
    exact body _ (m + 1) i H n f h1 h2 h3 h4 h5 h6 h7 (fun H n f q1 q2 q3 q4 q5 q6 q7 => ih (i + 1) H n f q1 q2 q3 q4 q5 q6 (by omega) (by omega))
theorem nests_loop2 (l k : Nat) (g np nj nk : Nat) (js ks : List Int) (x y z : Value) (hnp : np ≤ 8) (hnk : nk ≤ 3) (hks : KindsOk ks nk)
    (Q : Res → Prop) (H0 : Hp) (n0 : Nat) (hg : n0 ≤ g) (hz0 : SliceR H0 n0 5 z nk ks) (hlx : lenV P 31 x = some (.int .i64 np))
    (hq : ∀ (H : Hp) (n : Nat) (f : Nat → Value), n0 ≤ n → g < n → Keep n0 H0 H → CellsF H g 859 117 f → SiteF f x y z js nj → (∀ p kd, p < np → kd < nk → NestAt f js ks nj np p kd) → Q (some (.tuple ⟨[.pointer (some ⟨g, 0, none⟩), .int .i64 0]⟩, H, n))) :
    ∀ (m i : Nat) (H : Hp) (n : Nat) (f : Nat → Value), n0 ≤ n → g < n → Keep n0 H0 H → CellsF H g 859 117 f → SiteF f x y z js nj → NestsTo f js ks nj np nk i 0 → i ≤ np → np - i + 3 ≤ m →
    Q (S61_2 (cal (l + 5)) k m (.pointer (some ⟨g, 0, none⟩)) (.int .i64 np) (.int .i64 i) H n) := by
  have body : ∀ (b2 : Value → Value → Value → Hp → Nat → Res) (m i : Nat) (H : Hp) (n : Nat) (f : Nat → Value), n0 ≤ n → g < n → Keep n0 H0 H → CellsF H g 859 117 f → SiteF f x y z js nj → NestsTo f js ks nj np nk i 0 → i ≤ np → 3 ≤ m →
      (∀ (H : Hp) (n : Nat) (f : Nat → Value), n0 ≤ n → g < n → Keep n0 H0 H → CellsF H g 859 117 f → SiteF f x y z js nj → NestsTo f js ks nj np nk (i + 1) 0 → i < np → Q (b2 (.pointer (some ⟨g, 0, none⟩)) (.int .i64 np) (.int .i64 ((i + 1 : Nat) : Int)) H n)) →
      Q (C61_2 (cal (l + 5)) k m b2 (.pointer (some ⟨g, 0, none⟩)) (.int .i64 np) (.int .i64 i) H n) := by
    intro b2 m i H n f hn hgn hk hf hs hnt hi hm ih
    unfold C61_2 B61_2
    generalize hS : S61_3 (cal (l + 5)) k m b2 m = S
    rw [binK_some bin_lss, ifK_d]
    by_cases hlt : i < np
    · rw [if_pos (by omega)]
      have lz : loadV P H 33 ⟨g, 0 + 0 + 2, none⟩ = some z := by
        have := hf.load (P := P) (k := 2) agg33 (by omega)
        rw [hs.z] at this; exact this
      have e3 : lenV P 33 z = some (.int .i64 nk) := hz0.len_eq und33
      rw [nil_ptr, bindO_some, fa117_0, bindO_some, fa35_2, bindO_some, addrV_eq, bindO_some, lz, bindO_some, e3, bindO_some, ← hS]
      exact nests_loop3 l k m g np nj nk js ks x y z hnp hnk hks Q H0 n0 hg hz0 hlx i hlt b2 (fun H n f q1 q2 q3 q4 q5 q6 => ih H n f q1 q2 q3 q4 q5 q6 hlt) m 0 H n f hn hgn hk hf hs hnt (by omega) (by omega)
    · rw [if_neg (by omega)]
      exact hq H n f hn hgn hk hf hs (fun p kd hp hkd => hnt p kd hp hkd (.inl (by omega)))
  intro m
  induction m with
  | zero =>
    intro i H n f h1 h2 h3 h4 h5 h6 h7 h8
    omega
  | succ m ih =>
    intro i H n f h1 h2 h3 h4 h5 h6 h7 h8
    exact body _ (m + 1) i H n f h1 h2 h3 h4 h5 h6 h7 (by omega) (fun H n f q1 q2 q3 q4 q5 q6 q7 => ih (i + 1) H n f q1 q2 q3 q4 q5 q6 (by omega) (by omega))
end Go.Proofs.Ytgojjellogiglaa.spec
end
section
namespace Go.Proofs.Ytgojjellogiglaa.spec
open Go Go.Ev Go.Proofs.Ytgojjellogiglaa.nestFits Go.Proofs.Ytgojjellogiglaa.G
set_option maxRecDepth 100000
variable {ρ : Type}
open Classical in
theorem nearB_zero (js : List Int) (a b : Nat) : nearB js 0 a b = false := by
  unfold nearB
  exact decide_eq_false (fun ⟨q, h, _⟩ => by omega)
theorem build117 (x y z : Value) : buildP P 117 [(0, .agg ⟨[x, y, z]⟩)] = some (.agg ⟨x :: y :: z :: (List.replicate 64 (.bool false) ++ List.replicate 792 (.int .i64 0))⟩) := by kernel_rfl
def site0 (x y z : Value) (k : Nat) : Value := if k = 0 then x else if k = 1 then y else if k = 2 then z else if k < 67 then .bool false else .int .i64 0
theorem site0_at (x y z : Value) (k : Nat) (hk : k < 859) : (x :: y :: z :: (List.replicate 64 (Value.bool false) ++ List.replicate 792 (Value.int .i64 0)))[k]? = some (site0 x y z k) := by
  match k, hk with
  | 0, _ => rfl
  | 1, _ => rfl
  | 2, _ => rfl
  | k + 3, hk =>
    rw [List.getElem?_cons_succ, List.getElem?_cons_succ, List.getElem?_cons_succ]
    unfold site0
    rw [if_neg (by omega), if_neg (by omega), if_neg (by omega)]
    by_cases h : k < 64
    · rw [List.getElem?_append_left (by simp; omega), List.getElem?_replicate, if_pos h, if_pos (by omega)]
    · rw [List.getElem?_append_right (by simp; omega), List.getElem?_replicate, List.length_replicate, if_pos (by omega), if_neg (by omega)]
structure Good (np nj nk : Nat) (ps js ks : List Int) : Prop where
  np8 : np ≤ 8
  nj16 : nj ≤ 16
  nk3 : nk ≤ 3
  np1 : np ≠ 0
  nk1 : nk ≠ 0
  ok : ¬ GBad np nj nk ps js ks
theorem good_of {np nj nk : Nat} {ps js ks : List Int} (h : faultN np nj nk ps js ks = 0) : Good np nj nk ps js ks := by
  unfold faultN at h
  by_cases c1 : 8 < np ∨ 16 < nj ∨ 3 < nk
  · rw [if_pos c1] at h; omega
  · rw [if_neg c1] at h
    by_cases c2 : np = 0 ∨ nk = 0
    · rw [if_pos c2] at h; omega
    · rw [if_neg c2] at h
      by_cases c3 : GBad np nj nk ps js ks
      · rw [if_pos c3] at h; omega
      · exact ⟨by omega, by omega, by omega, by omega, by omega, c3⟩
theorem Good.kinds {np nj nk : Nat} {ps js ks : List Int} (h : Good np nj nk ps js ks) : KindsOk ks nk := by
  intro kd hkd
  have hb : ¬ KBad ks kd := fun c => h.ok (.inr (.inl ⟨kd, hkd, c⟩))
  unfold KBad at hb
  unfold okR
  omega
theorem Good.joins {np nj nk : Nat} {ps js ks : List Int} (h : Good np nj nk ps js ks) (hl : js.length = nj * 2) (i : Nat) (hi : i < nj) : ∃ A B : Nat, js[i * 2]? = some (A : Int) ∧ js[i * 2 + 1]? = some (B : Int) ∧ A < np ∧ B < np := by
  have hb : ∀ i, i < nj → okJ js np nj (js.getD (i * 2) 0) (js.getD (i * 2 + 1) 0) := (joins_all hl).2 fun c => h.ok (.inr (.inr c))
  obtain ⟨o1, o2, _, _⟩ := hb i hi
  refine ⟨(js.getD (i * 2) 0).toNat, (js.getD (i * 2 + 1) 0).toNat, ?_, ?_, by omega, by omega⟩
  · rw [getD_some (show i * 2 < js.length by omega)]; congr 1; omega
  · rw [getD_some (show i * 2 + 1 < js.length by omega)]; congr 1; omega
def Opened (r : Res) (n : Nat) (H : Hp) (v : Value) (np nj nk : Nat) (js ks : List Int) : Prop := ∃ (g : Nat) (x y z : Value) (f : Nat → Value) (H' : Hp) (n' : Nat), r = some (.tuple ⟨[.pointer (some ⟨g, 0, none⟩), .int .i64 0]⟩, H', n') ∧ n ≤ n' ∧ Keep n H H' ∧ n ≤ g ∧ g < n' ∧
  v = .agg ⟨[x, y, z]⟩ ∧ CellsF H' g 859 117 f ∧ SiteF f x y z js nj ∧ ∀ p kd, p < np → kd < nk → NestAt f js ks nj np p kd
theorem open_spec (l : Nat) {np nj nk : Nat} {ps js ks : List Int} {H : Hp} {n : Nat} {v : Value} (hg : GroveP H n v np nj nk ps js ks) (hnp : np ≤ 1000) (hnj : nj ≤ 1000) (hnk : nk ≤ 1000) :
    (faultN np nj nk ps js ks ≠ 0 → Ret (C61_0 (cal (l + 5)) KK v H n) n H (.tuple ⟨[.pointer none, .int .i64 (faultN np nj nk ps js ks)]⟩)) ∧
    (faultN np nj nk ps js ks = 0 → Opened (C61_0 (cal (l + 5)) KK v H n) n H v np nj nk js ks) := by
  have hg0 := hg
  obtain ⟨x, y, z, rfl, h1, h2, h3⟩ := hg
  unfold C61_0 B61_0
  generalize hS : S61_1 (cal (l + 5)) KK KK = S
  rw [boxK_eq]
  simp only [cellsV, ptr]
  have hk : Keep n H (H.set n (some (.cells [x, y, z] 35 false none))) := (Keep.refl n H).set (Nat.le_refl _) _
  have hb : CellsAt (H.set n (some (.cells [x, y, z] 35 false none))) n 0 [x, y, z] := CellsAt.new
  generalize H.set n (some (.cells [x, y, z] 35 false none)) = H1 at hk hb ⊢
  have lg : ∀ H2, CellsAt H2 n 0 [x, y, z] → loadV P H2 35 ⟨n, 0, none⟩ = some (.agg ⟨[x, y, z]⟩) := fun H2 h => loadV_agg (o := 0) (k := 0) h agg35 sz35 (by simp) (by simp [h1.hole.1, h2.hole.1, h3.hole.1])
  obtain ⟨H2, n2, e1, e2, e3⟩ := check_call (ρ := Value × Hp × Nat) (l + 1) (hg0.keep hk (show n ≤ n + 1 by omega)) hnp hnj hnk
  rw [addrV_eq, bindO_some, lg H1 hb, bindO_some, e1, binK_some bin_neq]
  constructor
  · intro hne
    rw [decide_eq_false hne, Bool.not_false, ifK_t]
    exact ⟨H2, n2, rfl, by omega, hk.trans e3 (by omega)⟩
  · intro he
    have good := good_of he
    have hb2 := hb.keep e3 (by omega)
    rw [decide_eq_true he, Bool.not_true, ifK_f, bindO_some, lg H2 hb2, bindO_some, build117, bindO_some, boxK_eq]
    simp only [cellsV, ptr]
    have kk : Keep n H H2 := hk.trans e3 (by omega)
    have hf : CellsF (H2.set n2 (some (.cells (x :: y :: z :: (List.replicate 64 (.bool false) ++ List.replicate 792 (.int .i64 0))) 117 false none))) n2 859 117 (site0 x y z) := CellsF.new (by simp) _ (site0_at x y z)
    have kk2 : Keep n H (H2.set n2 (some (.cells (x :: y :: z :: (List.replicate 64 (.bool false) ++ List.replicate 792 (.int .i64 0))) 117 false none))) := kk.set (by omega) _
    generalize H2.set n2 (some (.cells (x :: y :: z :: (List.replicate 64 (.bool false) ++ List.replicate 792 (.int .i64 0))) 117 false none)) = H3 at hf kk2 ⊢
    have ly : loadV P H3 32 ⟨n2, 0 + 0 + 1, none⟩ = some y := hf.load (P := P) (k := 1) agg32 (by omega)
    have ey : lenV P 32 y = some (.int .i64 nj) := h2.len_eq und32
    rw [nil_ptr, bindO_some, fa117_0, bindO_some, fa35_1, bindO_some, addrV_eq, bindO_some, ly, bindO_some, ey, bindO_some, ← hS]
    have hlx : lenV P 31 x = some (.int .i64 np) := h1.len_eq und31
    refine near_loop61 (cal (l + 5)) KK n2 np nj js x y z good.np8 hnj (good.joins h2.1) (fun r => Opened r n H (.agg ⟨[x, y, z]⟩) np nj nk js ks) H n (by omega) h2
      (fun H4 n4 f4 q1 q2 q3 q4 q5 _ => nests_loop2 l KK n2 np nj nk js ks x y z good.np8 good.nk3 good.kinds (fun r => Opened r n H (.agg ⟨[x, y, z]⟩) np nj nk js ks) H n (by omega) h3 hlx
        (fun H5 n5 f5 p1 p2 p3 p4 p5 p6 => ⟨n2, x, y, z, f5, H5, n5, rfl, by omega, p3, by omega, p2, rfl, p4, p5, p6⟩) KK 0 H4 n4 f4 q1 q2 q3 q4 q5 (fun p kd _ _ h => by omega) (by omega) (by have := good.np8; unfold KK; omega)) hlx
      KK 0 H3 (n2 + 1) (site0 x y z) (by omega) (by omega) kk2 hf ⟨rfl, rfl, rfl, fun a b ha hb => ?_⟩ (by omega) (by unfold KK; omega)
    unfold site0
    rw [if_neg (by omega), if_neg (by omega), if_neg (by omega), if_pos (by omega), nearB_zero]
theorem flat61 : flatF P 61 = false := by kernel_rfl
theorem call61 (l : Nat) (a : Value) (H : Hp) (n : Nat) : (cal (l + 1)).call 61 [a] H n = C61_0 (cal l) KK a H n := by kernel_rfl
theorem open_call (l : Nat) (v : Value) (H : Hp) (n : Nat) (k : Value → Hp → Nat → Option ρ) : callFK P (cal (l + 6)) 61 [v] H n k = bindO (C61_0 (cal (l + 5)) KK v H n) fun r => k r.1 r.2.1 r.2.2 := by
  unfold callFK
  rw [flat61, call61]
  rfl
end Go.Proofs.Ytgojjellogiglaa.spec
end
section
namespace Go.Ev
open Go
variable {P : Program} {t t2 e e2 : TypeId} {ρ : Type}
theorem loadN_all {H : Hp} {b o : Nat} {L : List Value} (h : CellsAt H b o L) (hn : L.all noHole = true) {m : Nat} (hm : L.length = m) : loadN H ⟨b, o, none⟩ m = some L := by
  have := loadN_at (s := m) (k := 0) h (by omega) hn
  rw [Nat.add_zero] at this
  rw [this, take_all _ _ hm]
def VecV (H : Hp) (n0 n : Nat) (s : Nat) (e : TypeId) (v : Value) (len : Nat) (L : List Value) : Prop :=
  L.length = len * s ∧ L.all leafV = true ∧ L.all noHole = true ∧ ((v = .slice none 0 0 ∧ len = 0) ∨ ∃ b, v = .slice (some ⟨b, 0, none⟩) len capV ∧ n0 ≤ b ∧ b < n ∧ 0 < len ∧ H.get b = some (.cells L e false (some s)))
theorem VecV.leaf {H : Hp} {n0 n s len : Nat} {v : Value} {L : List Value} (h : VecV H n0 n s e v len L) : leafV v = true ∧ noHole v = true ∧ noHoles v = true := by
  rcases h.2.2.2 with ⟨rfl, _⟩ | ⟨b, rfl, _⟩ <;> exact ⟨rfl, rfl, rfl⟩
theorem VecV.same {H H' : Hp} {n0 n m s len : Nat} {v : Value} {L : List Value} (h : VecV H n0 n s e v len L) (hm : n ≤ m) (hk : ∀ b, b < n → blockIs v b → H'.get b = H.get b) : VecV H' n0 m s e v len L := by
  obtain ⟨h1, h2, h3, h4⟩ := h
  refine ⟨h1, h2, h3, ?_⟩
  rcases h4 with h4 | ⟨b, e, a1, a2, a3, a4⟩
  · exact .inl h4
  · exact .inr ⟨b, e, a1, by omega, a3, by rw [hk b a2 ⟨_, _, _, _, e⟩]; exact a4⟩
theorem VecV.low {H : Hp} {n0 n s len : Nat} {v : Value} {L : List Value} (h : VecV H n0 n s e v len L) {k : Nat} (hb : blockIs v k) : n0 ≤ k ∧ k < n := by
  obtain ⟨o, l, cp, sp, hb⟩ := hb
  rcases h.2.2.2 with ⟨rfl, _⟩ | ⟨b, rfl, h1, h2, _⟩
  · cases hb
  · cases hb; exact ⟨h1, h2⟩
theorem VecV.len_eq {H : Hp} {n0 n s len : Nat} {v : Value} {L : List Value} (h : VecV H n0 n s e v len L) (ht : P.underlying t = some (.slice e2)) : lenV P t v = some (goInt len) := by
  rcases h.2.2.2 with ⟨rfl, rfl⟩ | ⟨b, rfl, _⟩ <;> simp [lenV, ht]
end Go.Ev
end
section
namespace Go.Proofs.Ytgojjellogiglaa.spec
open Go Go.Ev Go.Proofs.Ytgojjellogiglaa.nestFits Go.Proofs.Ytgojjellogiglaa.G
set_option maxRecDepth 100000
variable {ρ : Type}
noncomputable def fitD (js ks : List Int) (nj np p kd : Nat) : Bool := decide (total (shP js ks nj np p kd) 0 ≤ ks.getD (kd * 5) 0 ∧ ks.getD (kd * 5) 0 ≤ total (shP js ks nj np p kd) 1)
def cntR (pd kd nk p : Nat) : Nat := if p < pd then nk else if p = pd then kd else 0
structure FS (H : Hp) (base n fb g : Nat) (r f : Nat → Value) (np nk pd kd : Nat) (bl : Nat → Nat → Bool) : Prop where
  fits : CellsF H fb np 41 r
  site : CellsF H g 859 117 f
  fbl : fb < base
  gl : g < base
  ne : g ≠ fb
  bn : base ≤ n
  rows : ∀ p, p < np → VecV H base n 1 4 (r p) (cntR pd kd nk p) ((List.range (cntR pd kd nk p)).map fun q => .bool (bl p q))
  dis : ∀ p q, p < np → q < np → p ≠ q → ∀ k, blockIs (r p) k → ¬ blockIs (r q) k
theorem FS.push {H H' : Hp} {base n m fb g np nk pd kd : Nat} {r f : Nat → Value} {bl : Nat → Nat → Bool} {new : Value} (h : FS H base n fb g r f np nk pd kd bl) (hpd : pd < np) (hm : n ≤ m) (hk : ∀ b, b < n → ¬ blockIs (r pd) b → H'.get b = H.get b)
    (hv : VecV H' base m 1 4 new (kd + 1) (((List.range kd).map fun q => .bool (bl pd q)) ++ [.bool (bl pd kd)])) (hf : ∀ k, blockIs new k → n ≤ k) :
    ∃ H'', storeN H' ⟨fb, 0 + pd * 1, none⟩ [new] = some H'' ∧ FS H'' base m fb g (putF r (0 + pd * 1) [new]) f np nk pd (kd + 1) bl ∧ ∀ b, b < base → b ≠ fb → H''.get b = H.get b := by
  have hfb := h.fbl
  have hgl := h.gl
  have hbn := h.bn
  have hne := h.ne
  have low : ∀ b, b < base → ¬ blockIs (r pd) b := fun b hb hblk => by have := ((h.rows pd hpd).low hblk).1; omega
  have cf : CellsF H' fb np 41 r := by
    obtain ⟨c, e1, e2, e3⟩ := h.fits
    exact ⟨c, by rw [hk fb (by omega) (low fb hfb)]; exact e1, e2, e3⟩
  obtain ⟨H'', s1, s2, s3⟩ := cf.storeN (o := 0 + pd * 1) (vs := [new]) (by simp; omega) (by simp [hv.leaf.1])
  refine ⟨H'', s1, ⟨s2, ?_, hfb, hgl, hne, by omega, fun p hp => ?_, fun p q hp hq hpq k => ?_⟩, fun b hb hbf => ?_⟩
  · obtain ⟨c, e1, e2, e3⟩ := h.site
    exact ⟨c, by rw [s3 g hne, hk g (by omega) (low g hgl)]; exact e1, e2, e3⟩
  · rw [putF_one]
    by_cases e : p = pd
    · subst e
      rw [if_pos (by omega)]
      have hc : cntR p (kd + 1) nk p = kd + 1 := by unfold cntR; rw [if_neg (by omega), if_pos rfl]
      rw [hc, List.range_succ, List.map_append]
      exact hv.same (Nat.le_refl _) fun b _ hb => s3 b (by have := (hv.low hb).1; omega)
    · rw [if_neg (by omega)]
      have hc : cntR pd (kd + 1) nk p = cntR pd kd nk p := by unfold cntR; rw [if_neg e, if_neg e]
      rw [hc]
      refine (h.rows p hp).same hm fun b hb hblk => ?_
      rw [s3 b (by have := ((h.rows p hp).low hblk).1; omega)]
      exact hk b hb (h.dis p pd hp hpd e b hblk)
  · rw [putF_one, putF_one]
    by_cases e1 : p = pd
    · subst e1
      rw [if_pos (by omega), if_neg (by omega)]
      intro h1 h2
      have := hf k h1
      have := ((h.rows q hq).low h2).2
      omega
    · rw [if_neg (by omega)]
      by_cases e2 : q = pd
      · subst e2
        rw [if_pos (by omega)]
        intro h1 h2
        have := hf k h2
        have := ((h.rows p hp).low h1).2
        omega
      · rw [if_neg (by omega)]
        exact h.dis p q hp hq hpq k
  · rw [s3 b hbf, hk b (by omega) (low b hb)]
theorem shP_len (js ks : List Int) (nj np p kd : Nat) : (shP js ks nj np p kd).length = 16 := sharesL_len ..
theorem shP_bounded {js ks : List Int} {nj np nk p kd : Nat} (hks : KindsOk ks nk) (hkd : kd < nk) (hnp : np ≤ 8) (hp : p < np) : Bounded (shP js ks nj np p kd) := by
  obtain ⟨_, h2, h3⟩ := hks kd hkd
  exact sharesL_bounded hnp (by omega) h2 h3
theorem nest_load {H : Hp} {g np nj p kd : Nat} {f : Nat → Value} {js ks : List Int} (hf : CellsF H g 859 117 f) (hn : NestAt f js ks nj np p kd) (hp : p < 8) (hkd : kd < 3) :
    ∃ B, BoundsTo (ks.getD (kd * 5) 0) (shP js ks nj np p kd) B 8 ∧ loadV P H 113 ⟨g, 0 + 67 + p * 99 + kd * 33, none⟩ = some (.agg ⟨ints (nestL (ks.getD (kd * 5) 0) (shP js ks nj np p kd) B)⟩) := by
  obtain ⟨B, hB, hj⟩ := hn
  refine ⟨B, hB, ?_⟩
  rw [hf.load_agg (k := 0 + 67 + p * 99 + kd * 33) agg113 sz113 (by omega)]
  have lens : (nestL (ks.getD (kd * 5) 0) (shP js ks nj np p kd) B).length = 33 := nest_cells (shP_len ..) hB.1
  have e : (List.range 33).map (fun j => f (0 + 67 + p * 99 + kd * 33 + j)) = ints (nestL (ks.getD (kd * 5) 0) (shP js ks nj np p kd) B) := by
    apply List.ext_getElem?
    intro j
    by_cases h : j < 33
    · rw [List.getElem?_map, List.getElem?_range h, ints_get (getD_some (by omega))]
      simp only [Option.map_some]
      rw [show 0 + 67 + p * 99 + kd * 33 + j = 67 + p * 99 + kd * 33 + j by omega, hj j h]
    · rw [List.getElem?_eq_none (by simp; omega), List.getElem?_eq_none (by rw [ints_length]; omega)]
  rw [e]
theorem FS.next {H : Hp} {base n fb g np nk pd : Nat} {r f : Nat → Value} {bl : Nat → Nat → Bool} (h : FS H base n fb g r f np nk pd nk bl) : FS H base n fb g r f np nk (pd + 1) 0 bl := by
  refine ⟨h.fits, h.site, h.fbl, h.gl, h.ne, h.bn, fun p hp => ?_, h.dis⟩
  have := h.rows p hp
  have hc : cntR (pd + 1) 0 nk p = cntR pd nk nk p := by
    unfold cntR
    by_cases h1 : p < pd
    · rw [if_pos h1, if_pos (by omega)]
    · by_cases h2 : p = pd
      · rw [if_neg h1, if_pos h2, if_pos (by omega)]
      · rw [if_neg h1, if_neg h2, if_neg (by omega)]; split <;> rfl
  rw [hc]; exact this
end Go.Proofs.Ytgojjellogiglaa.spec
end
section
namespace Go.Proofs.Ytgojjellogiglaa.spec
open Go Go.Ev Go.Proofs.Ytgojjellogiglaa.nestFits Go.Proofs.Ytgojjellogiglaa.G
set_option maxRecDepth 100000
variable {ρ : Type}
theorem Good.small {np nj nk : Nat} {ps js ks : List Int} (h : Good np nj nk ps js ks) : Small ks nk := by
  intro kd hkd
  obtain ⟨h1, h2, h3⟩ := h.kinds kd hkd
  unfold okR at h2 h3
  omega
theorem Good.inner {np nj nk : Nat} {ps js ks : List Int} (h : Good np nj nk ps js ks) (hl : js.length = nj * 2) : Inner js nj np := by
  intro j hj a b hJ
  obtain ⟨A, B, hA, hB, h1, h2⟩ := h.joins hl j hj
  unfold J at hJ
  rw [hA, hB] at hJ
  simp only [Option.some.injEq] at hJ
  omega
open Classical in
theorem share_reach {js ks : List Int} {nj np p kd : Nat} (hi : Inner js nj np) (hnp : np ≤ 8) (hp : p < np) (q : Nat) :
    (shP js ks nj np p kd).getD (q * 2) 0 = (reach js ks nj kd p q).1 ∧ (shP js ks nj np p kd).getD (q * 2 + 1) 0 = (reach js ks nj kd p q).2 := by
  obtain ⟨g1, g2⟩ := sharesL_get (a1 := ks.getD (kd * 5 + 1) 0) (a2 := ks.getD (kd * 5 + 2) 0) (a3 := ks.getD (kd * 5 + 3) 0) (a4 := ks.getD (kd * 5 + 4) 0) (near := nearB js nj p) hnp (show p < 8 by omega) q
  unfold shP
  rw [g1, g2]
  unfold reach
  by_cases e : q = p
  · subst e
    rw [if_pos rfl, if_pos rfl, if_pos rfl]
    exact ⟨rfl, rfl⟩
  · rw [if_neg e, if_neg e, if_neg (show ¬ (p : Int) = (q : Int) by omega)]
    by_cases hn : Near js nj p q
    · have hb : nearB js nj p q = true := by unfold nearB; rw [decide_eq_true_eq]; exact hn
      have hq : q < np := by obtain ⟨j, h1, h2⟩ := hn; have := hi j h1 _ _ h2; omega
      have hc : q < np ∧ nearB js nj p q = true := ⟨hq, hb⟩
      rw [if_pos hc, if_pos hc, if_pos hn]
      exact ⟨rfl, rfl⟩
    · have hb : ¬ (q < np ∧ nearB js nj p q = true) := fun ⟨_, h⟩ => hn (by unfold nearB at h; rw [decide_eq_true_eq] at h; exact h)
      rw [if_neg hb, if_neg hb, if_neg hn]
      exact ⟨rfl, rfl⟩
theorem fitsB_iff8 {js ks : List Int} {nj np nk kind a : Nat} (hs : Small ks nk) (hk : kind < nk) (ha : a < np) (hi : Inner js nj np) (hnp : np ≤ 8) :
    fitsB js ks nj np kind a ↔ sumTo (fun p => (reach js ks nj kind a p).1) 8 ≤ ks.getD (kind * 5) 0 ∧ ks.getD (kind * 5) 0 ≤ sumTo (fun p => (reach js ks nj kind a p).2) 8 := by
  rw [fitsB_iff hs hk ha hi (by omega)]
  have e1 : sumTo (fun p => (reach js ks nj kind a p).1) 11 = sumTo (fun p => (reach js ks nj kind a p).1) 8 := sumTo_zero (by omega) fun k h1 _ => by rw [reach_far hi ha (by omega)]
  have e2 : sumTo (fun p => (reach js ks nj kind a p).2) 11 = sumTo (fun p => (reach js ks nj kind a p).2) 8 := sumTo_zero (by omega) fun k h1 _ => by rw [reach_far hi ha (by omega)]
  rw [e1, e2]
theorem fits_agree {np nj nk p kd : Nat} {ps js ks : List Int} (good : Good np nj nk ps js ks) (hl : js.length = nj * 2) (hp : p < np) (hkd : kd < nk) : fitD js ks nj np p kd = true ↔ fitsB js ks nj np kd p := by
  rw [fitsB_iff8 good.small hkd hp (good.inner hl) good.np8]
  unfold fitD total
  rw [decide_eq_true_eq, sumTo_same (f := fun q => (shP js ks nj np p kd).getD (q * 2 + 0) 0) (g := fun q => (reach js ks nj kd p q).1) (fun q _ => (share_reach (good.inner hl) good.np8 hp q).1),
    sumTo_same (f := fun q => (shP js ks nj np p kd).getD (q * 2 + 1) 0) (g := fun q => (reach js ks nj kd p q).2) (fun q _ => (share_reach (good.inner hl) good.np8 hp q).2)]
theorem call21 (l : Nat) (a b c : Value) (H : Hp) (n : Nat) : (cal (l + 1)).call 21 [a, b, c] H n = C21_0 (cal l) KK a b c H n := by kernel_rfl
theorem fitsR_call (l : Nat) {np nj nk : Nat} {ps js ks : List Int} (hnj : nj ≤ KK) (hnp : np ≤ 100) (kind : Nat) (hk : kind < nk) (at_ : Int) (hs : Small ks nk) {H : Hp} {n : Nat} {v : Value} (hg : GroveI H n v np nj nk ps js ks) :
    ∃ (r : Bool) (H' : Hp) (n' : Nat), (r = true ↔ fitsB js ks nj np kind at_) ∧ (∀ k : Value → Hp → Nat → Option ρ, callFK P (cal (l + 4)) 21 [v, .int .i64 kind, .int .i64 at_] H n k = k (.bool r) H' n') ∧ n ≤ n' ∧ Keep n H H' := by
  obtain ⟨r, H', n', ⟨b, rfl, hb⟩, e1, e2, e3⟩ := callFK_spec (ρ := ρ) (P := P) (cal := cal (l + 4)) (f := 21) (args := [v, .int .i64 kind, .int .i64 at_]) (H := H) (n := n)
    (Pre := fun H n => GroveI H n v np nj nk ps js ks) (Q := fun r => ∃ b : Bool, r = .bool b ∧ (b = true ↔ fitsB js ks nj np kind at_))
    (fun H n h => by
      obtain ⟨r, h1, h2⟩ := fits_spec l hnj hnp kind hk at_ hs h
      exact ⟨.bool r, by rw [call21]; exact h1, r, rfl, h2⟩) (fun r ⟨b, e, _⟩ _ => by subst e; rfl) hg (fun hp => hg.nil (by simp only [pureL, Bool.and_eq_true] at hp; exact hp.1))
  exact ⟨b, H', n', hb, e1, e2, e3⟩
end Go.Proofs.Ytgojjellogiglaa.spec
end
section
namespace Go.Proofs.Ytgojjellogiglaa.spec
open Go Go.Ev Go.Proofs.Ytgojjellogiglaa.nestFits Go.Proofs.Ytgojjellogiglaa.G
set_option maxRecDepth 100000
variable {ρ : Type}
def ListR (H : Hp) (n : Nat) (v : Value) (len : Nat) (xs : List Int) : Prop := xs.length = len ∧ (∀ x ∈ xs, I64 x) ∧
  ((v = .slice none 0 0 ∧ len = 0) ∨ ∃ b o cap, v = .slice (some ⟨b, o, none⟩) len cap ∧ b < n ∧ CellsAt H b o (ints xs))
theorem ListR.keep {H H' : Hp} {n m len : Nat} {v : Value} {xs : List Int} (h : ListR H n v len xs) (hk : Keep n H H') (hm : n ≤ m) : ListR H' m v len xs := by
  obtain ⟨h1, h2, h3⟩ := h
  refine ⟨h1, h2, ?_⟩
  rcases h3 with h3 | ⟨b, o, cap, e, a, c⟩
  · exact .inl h3
  · exact .inr ⟨b, o, cap, e, by omega, c.keep hk a⟩
theorem ListR.nil {H : Hp} {n len : Nat} {v : Value} {xs : List Int} (h : ListR H n v len xs) (hp : pureV v = true) : ListR .nil 0 v len xs := by
  obtain ⟨h1, h2, h3⟩ := h
  refine ⟨h1, h2, ?_⟩
  rcases h3 with h3 | ⟨b, o, cap, e, a, c⟩
  · exact .inl h3
  · subst e; simp [pureV] at hp
theorem und44 : P.underlying 44 = some (.slice 3) := by kernel_rfl
theorem sl44 : sliceElem P 44 = some 3 := by kernel_rfl
theorem sz3 : szT P 3 = some 1 := by kernel_rfl
theorem by3 : bytesT P 3 = some 8 := by kernel_rfl
theorem zero3 : zeroT P 3 = some (.int .i64 0) := by kernel_rfl
theorem ListR.len_eq {H : Hp} {n len : Nat} {v : Value} {xs : List Int} (h : ListR H n v len xs) : lenV P 44 v = some (.int .i64 len) := by
  rcases h.2.2 with ⟨rfl, rfl⟩ | ⟨b, o, cap, rfl, _⟩
  · unfold lenV; simp only [und44]; rfl
  · unfold lenV; simp only [und44]; rfl
theorem ListR.at_ {H : Hp} {n len : Nat} {v : Value} {xs : List Int} (h : ListR H n v len xs) {i : Nat} (hi : i < len) :
    ∃ b o, indexAddrV P 44 v (.int .i64 i) = some (.pointer (some ⟨b, o, none⟩)) ∧ b < n ∧ loadV P H 3 ⟨b, o, none⟩ = some (.int .i64 (xs.getD i 0)) := by
  rcases h.2.2 with ⟨rfl, rfl⟩ | ⟨b, o, cap, rfl, a, c⟩
  · omega
  · refine ⟨b, o + i, ?_, a, ?_⟩
    · unfold indexAddrV
      simp only [und44, idx_lt hi, sz3]
      simp [addA]
    · exact loadV_int c agg3 (ints_get (getD_some (by rw [h.1]; exact hi)))
theorem ListR.src {H : Hp} {n len : Nat} {v : Value} {xs : List Int} (h : ListR H n v len xs) : srcCells H 1 v = some (ints xs, len) := by
  obtain ⟨h1, _, h3⟩ := h
  rcases h3 with ⟨rfl, rfl⟩ | ⟨b, o, cap, rfl, a, c⟩
  · have : xs = [] := List.length_eq_zero_iff.1 h1
    subst this; rfl
  · unfold srcCells
    simp only [loadN_all c (ints_noHole _) (show (ints xs).length = len * 1 by rw [ints_length, h1, Nat.mul_one])]
theorem VecAt.list {H : Hp} {n0 n len : Nat} {e : TypeId} {v : Value} {xs : List Int} (h : VecAt H n0 n 1 e v len xs) (hx : ∀ x ∈ xs, I64 x) : ListR H n v len xs := by
  obtain ⟨h1, h2⟩ := h
  refine ⟨by omega, hx, ?_⟩
  rcases h2 with h2 | ⟨b, e, a1, a2, a3, a4⟩
  · exact .inl h2
  · exact .inr ⟨b, 0, capV, e, a2, cells_at a4⟩
theorem row44_0 : rowOf P 44 0 [] = some ([], 3) := by kernel_rfl
theorem list_spec (c : Cal) (k : Nat) {H : Hp} {n len : Nat} {v : Value} {xs : List Int} (h : ListR H n v len xs) (hlen : len ≤ 1000) :
    ∃ u H' n', C23_0 c k v H n = some (u, H', n') ∧ n ≤ n' ∧ Keep n H H' ∧ ListR H' n' u len xs := by
  unfold C23_0 B23_0 rowK
  rw [row44_0, bindO_some]
  unfold newK
  dsimp only
  have hk : Keep n H (H.set n (some (.cells [] 3 false none))) := (Keep.refl n H).set (Nat.le_refl _) _
  have hg : (H.set n (some (.cells [] 3 false none))).get n = some (.cells [] 3 false none) := by rw [Tr.get_set, if_pos rfl]
  have h1 := h.keep hk (show n ≤ n + 1 by omega)
  generalize H.set n (some (.cells [] 3 false none)) = H1 at hk hg h1 ⊢
  have hold : loadN H1 ⟨n, 0, none⟩ (0 * 1) = some [] := loadN_all (L := []) (cells_at hg) rfl rfl
  have hbig : bigOk (0 + len) 1 8 = true := by unfold bigOk; simp; omega
  have hb1 : Nat.beq (cellsV (.int .i64 0)).length 1 = true := rfl
  have c0 : Nat.blt 0 capV = true := by decide +kernel
  by_cases h0 : len = 0
  · subst h0
    have hx : xs = [] := List.length_eq_zero_iff.1 h.1
    subst hx
    have ha : appendV P (bare H1 (n + 1)) 44 44 (.slice (some ⟨n, 0, none⟩) 0 0) v = some (.slice (some ⟨n, 0, none⟩) 0 0, bare (H1.set n (some (.cells [] 3 false none))) (n + 1)) := by
      unfold appendV
      have hs : srcCells (bare H1 (n + 1)).H 1 v = some ([], 0) := h1.src
      have hold' : loadN (bare H1 (n + 1)).H ⟨n, 0, none⟩ (0 * 1) = some [] := hold
      simp only [sl44, sz3, by3, zero3, hs, hb1, hold', hbig]
      unfold appendTo
      have hst : storeN (bare H1 (n + 1)).H (addA ⟨n, 0, none⟩ (0 * 1)) [] = some (H1.set n (some (.cells [] 3 false none))) := by
        unfold storeN
        simp only [addA, bare, hg]
        rfl
      have c1 : Nat.ble (0 + 0) 0 = true := rfl
      simp only [c0, c1, hst]
      rfl
    unfold stK
    dsimp only
    rw [ha, bindO_some]
    dsimp only [bare]
    exact ⟨_, _, _, rfl, by omega, hk.set (Nat.le_refl _) _, rfl, h.2.1, .inr ⟨n, 0, 0, rfl, Nat.lt_succ_self _, _, [], by rw [Tr.get_set, if_pos rfl], rfl, fun k v h => by simp [ints] at h⟩⟩
  · have ha : appendV P (bare H1 (n + 1)) 44 44 (.slice (some ⟨n, 0, none⟩) 0 0) v = some (.slice (some ⟨n + 1, 0, none⟩) len capV, bare (H1.set (n + 1) (some (.cells (ints xs) 3 false (some 1)))) (n + 1 + 1)) := by
      unfold appendV
      have hs : srcCells (bare H1 (n + 1)).H 1 v = some (ints xs, len) := h1.src
      have hold' : loadN (bare H1 (n + 1)).H ⟨n, 0, none⟩ (0 * 1) = some [] := hold
      simp only [sl44, sz3, by3, zero3, hs, hb1, hold', hbig]
      unfold appendTo
      have c1 : Nat.ble len 0 = false := by
        cases len with
        | zero => exact absurd rfl h0
        | succ m => rfl
      simp only [c0, c1, growV, bare, pushB, List.nil_append, Nat.zero_add]
    unfold stK
    dsimp only
    rw [ha, bindO_some]
    dsimp only [bare]
    exact ⟨_, _, _, rfl, by omega, hk.set (by omega) _, h.1, h.2.1, .inr ⟨n + 1, 0, capV, rfl, Nat.lt_succ_self _, _, ints xs, by rw [Tr.get_set, if_pos rfl], rfl, fun k v h => by simpa using h⟩⟩
theorem call23 (l : Nat) (a : Value) (H : Hp) (n : Nat) : (cal (l + 1)).call 23 [a] H n = C23_0 (cal l) KK a H n := by kernel_rfl
theorem flat23 : flatF P 23 = false := by kernel_rfl
theorem list_call (l : Nat) {H : Hp} {n len : Nat} {v : Value} {xs : List Int} (h : ListR H n v len xs) (hlen : len ≤ 1000) :
    ∃ u H' n', (∀ k : Value → Hp → Nat → Option ρ, callFK P (cal (l + 1)) 23 [v] H n k = k u H' n') ∧ n ≤ n' ∧ Keep n H H' ∧ ListR H' n' u len xs := by
  obtain ⟨u, H', n', e, h1, h2, h3⟩ := list_spec (cal l) KK h hlen
  refine ⟨u, H', n', fun k => ?_, h1, h2, h3⟩
  unfold callFK
  rw [flat23, call23, e]
  rfl
theorem ints_loop (c : Cal) (k : Nat) {H : Hp} {n len : Nat} {u v : Value} {xs ys : List Int} (hu : ListR H n u len xs) (hv : ListR H n v len ys) (hlen : len ≤ 1000) : ∀ (m i : Nat), i ≤ len → len - i ≤ m →
    ∃ r, S30_1 c k m u v (.int .i64 i) H n = some (.bool r, H, n) ∧ (r = true ↔ ∀ q, i ≤ q → q < len → xs.getD q 0 = ys.getD q 0) := by
  have body : ∀ (b1 : Value → Value → Value → Hp → Nat → Res) (m i : Nat), i ≤ len → (i < len → ∃ r, b1 u v (.int .i64 ((i + 1 : Nat) : Int)) H n = some (.bool r, H, n) ∧ (r = true ↔ ∀ q, i + 1 ≤ q → q < len → xs.getD q 0 = ys.getD q 0)) →
      ∃ r, C30_1 c k m b1 u v (.int .i64 i) H n = some (.bool r, H, n) ∧ (r = true ↔ ∀ q, i ≤ q → q < len → xs.getD q 0 = ys.getD q 0) := by
    intro b1 m i hi ih
    unfold C30_1 B30_1
    rw [hu.len_eq, bindO_some, binK_some bin_lss, ifK_d]
    by_cases hlt : i < len
    · rw [if_pos (by omega)]
      obtain ⟨b1', o1, x1, _, x3⟩ := hu.at_ hlt
      obtain ⟨b2', o2, y1, _, y3⟩ := hv.at_ hlt
      rw [x1, bindO_some, addrV_eq, bindO_some, x3, bindO_some, y1, bindO_some, addrV_eq, bindO_some, y3, bindO_some, binK_some bin_neq]
      cases hd : decide (xs.getD i 0 = ys.getD i 0) with
      | false =>
        rw [Bool.not_false, ifK_t]
        exact ⟨false, rfl, ⟨fun h => (by cases h), fun h => absurd (h i (Nat.le_refl _) hlt) (of_decide_eq_false hd)⟩⟩
      | true =>
        have hI : I64 ((i : Int) + 1) := by unfold I64; omega
        have hcast : ((i : Int) + 1) = ((i + 1 : Nat) : Int) := by omega
        rw [Bool.not_true, ifK_f, binK_some (bin_add hI), hcast]
        obtain ⟨r, e, h⟩ := ih hlt
        refine ⟨r, e, h.trans ⟨fun g q q1 q2 => ?_, fun g q q1 q2 => g q (by omega) q2⟩⟩
        rcases Nat.eq_or_lt_of_le q1 with z | z
        · subst z; exact of_decide_eq_true hd
        · exact g q z q2
    · rw [if_neg (by omega)]
      exact ⟨true, rfl, ⟨fun _ q q1 q2 => by omega, fun _ => rfl⟩⟩
  intro m
  induction m with
  | zero => intro i h1 h2; exact body _ 0 i h1 (fun h => by omega)
  | succ m ih => intro i h1 h2; exact body _ (m + 1) i h1 (fun h => ih (i + 1) (by omega) (by omega))
theorem ints_spec (c : Cal) {H : Hp} {n l1 l2 : Nat} {u v : Value} {xs ys : List Int} (hu : ListR H n u l1 xs) (hv : ListR H n v l2 ys) (h1 : l1 ≤ 1000) :
    ∃ r, C30_0 c KK u v H n = some (.bool r, H, n) ∧ (r = true ↔ xs = ys) := by
  unfold C30_0 B30_0
  generalize hS : S30_1 c KK KK = S
  rw [hu.len_eq, bindO_some, hv.len_eq, bindO_some, binK_some bin_neq]
  have lx := hu.1
  have ly := hv.1
  cases hd : decide ((l1 : Int) = (l2 : Int)) with
  | false =>
    rw [Bool.not_false, ifK_t]
    refine ⟨false, rfl, ⟨fun h => (by cases h), fun h => ?_⟩⟩
    subst h
    exact absurd (by omega) (of_decide_eq_false hd)
  | true =>
    have e : l1 = l2 := by have := of_decide_eq_true hd; omega
    subst e
    rw [Bool.not_true, ifK_f, ← hS]
    obtain ⟨r, e, h⟩ := ints_loop c KK hu hv h1 KK 0 (by omega) (by unfold KK; omega)
    refine ⟨r, e, h.trans ⟨fun g => ?_, fun g q _ _ => by rw [g]⟩⟩
    apply List.ext_getElem?
    intro q
    by_cases hq : q < l1
    · rw [getD_some (by omega), getD_some (by omega), g q (Nat.zero_le _) hq]
    · rw [List.getElem?_eq_none (by omega), List.getElem?_eq_none (by omega)]
theorem call30 (l : Nat) (a b : Value) (H : Hp) (n : Nat) : (cal (l + 1)).call 30 [a, b] H n = C30_0 (cal l) KK a b H n := by kernel_rfl
theorem ints_call (l : Nat) {H : Hp} {n l1 l2 : Nat} {u v : Value} {xs ys : List Int} (hu : ListR H n u l1 xs) (hv : ListR H n v l2 ys) (h1 : l1 ≤ 1000) :
    ∃ (r : Bool) (H' : Hp) (n' : Nat), (r = true ↔ xs = ys) ∧ (∀ k : Value → Hp → Nat → Option ρ, callFK P (cal (l + 1)) 30 [u, v] H n k = k (.bool r) H' n') ∧ n ≤ n' ∧ Keep n H H' := by
  obtain ⟨r, H', n', ⟨b, rfl, hb⟩, e1, e2, e3⟩ := callFK_spec (ρ := ρ) (P := P) (cal := cal (l + 1)) (f := 30) (args := [u, v]) (H := H) (n := n)
    (Pre := fun H n => ListR H n u l1 xs ∧ ListR H n v l2 ys) (Q := fun r => ∃ b : Bool, r = .bool b ∧ (b = true ↔ xs = ys))
    (fun H n h => by
      obtain ⟨r, e, h2⟩ := ints_spec (cal l) h.1 h.2 h1
      exact ⟨.bool r, ⟨H, n, by rw [call30]; exact e, Nat.le_refl _, Keep.refl _ _⟩, r, rfl, h2⟩) (fun r ⟨b, e, _⟩ _ => by subst e; rfl) ⟨hu, hv⟩ (fun hp => by
        simp only [pureL, Bool.and_eq_true] at hp
        exact ⟨hu.nil hp.1, hv.nil hp.2.1⟩)
  exact ⟨b, H', n', hb, e1, e2, e3⟩
end Go.Proofs.Ytgojjellogiglaa.spec
end
section
namespace Go.Proofs.Ytgojjellogiglaa.spec
open Go Go.Ev Go.Proofs.Ytgojjellogiglaa.nestFits Go.Proofs.Ytgojjellogiglaa.G
set_option maxRecDepth 100000
variable {ρ : Type}
theorem und121 : P.underlying 121 = some (.array 8 3) := by kernel_rfl
theorem agg121 : isAggT P 121 = some true := by kernel_rfl
theorem sz121 : szT P 121 = some 8 := by kernel_rfl
theorem zero121 : zeroT P 121 = some (.agg ⟨ints (List.replicate 8 0)⟩) := by kernel_rfl
theorem build121 : buildP P 121 [] = some (.agg ⟨ints (List.replicate 8 0)⟩) := by kernel_rfl
theorem slice121 (b : Nat) : sliceV P 121 (.pointer (some ⟨b, 0, none⟩)) none none = some (.slice (some ⟨b, 0, none⟩) 8 8) := by kernel_rfl
noncomputable def valR (r : Res) : Option Value := match r with
  | some (v, _, _) => some v
  | none => none
theorem valR_some {r : Res} {v : Value} (h : valR r = some v) : ∃ H n, r = some (v, H, n) := by
  unfold valR at h
  split at h
  · cases h; exact ⟨_, _, rfl⟩
  · cases h
theorem bare_run (c : Cal) : valR (C101_0 c KK .nil 0) = some (.agg ⟨ints (List.replicate 8 (-1))⟩) := by kernel_rfl
theorem flat101 : flatF P 101 = true := by kernel_rfl
theorem call101 (l : Nat) (H : Hp) (n : Nat) : (cal (l + 1)).call 101 [] H n = C101_0 (cal l) KK H n := by kernel_rfl
theorem bare_call (l : Nat) (H : Hp) (n : Nat) (k : Value → Hp → Nat → Option ρ) : callFK P (cal (l + 1)) 101 [] H n k = k (.agg ⟨ints (List.replicate 8 (-1))⟩) H n := by
  obtain ⟨H', n', e⟩ := valR_some (bare_run (cal l))
  refine callFK_pure flat101 rfl ((call101 ..).trans e) ?_
  simp only [pureV, pureA, pure_ints]
def takesP (js ks : List Int) (nj np nk p : Nat) (kind : Int) : Prop := 0 ≤ kind ∧ kind < nk ∧ fitD js ks nj np p kind.toNat = true
theorem takes_spec (l : Nat) {H : Hp} {n g np nj nk p : Nat} {f : Nat → Value} {js ks : List Int} {x y z : Value} (hf : CellsF H g 859 117 f) (hs : SiteF f x y z js nj) (hz : lenV P 33 z = some (.int .i64 nk)) (hn : ∀ p kd, p < np → kd < nk → NestAt f js ks nj np p kd) (hks : KindsOk ks nk) (hnp : np ≤ 8) (hnk : nk ≤ 3) (hp : p < np) (kind : Int) :
    ∃ r, C102_0 (cal (l + 3)) KK (.pointer (some ⟨g, 0, none⟩)) (.int .i64 p) (.int .i64 kind) H n = some (.bool r, H, n) ∧ (r = true ↔ takesP js ks nj np nk p kind) := by
  unfold C102_0 B102_0
  have lz : loadV P H 33 ⟨g, 0 + 0 + 2, none⟩ = some z := by
    have := hf.load (P := P) (k := 2) agg33 (by omega)
    rw [hs.z] at this; exact this
  rw [binK_some bin_geq]
  unfold takesP
  cases c1 : decide (0 ≤ kind) with
  | false =>
    simp only [guardK_ft, guardK_u, pickV_f, bindO_some]
    exact ⟨false, rfl, ⟨fun h => (by cases h), fun h => absurd h.1 (of_decide_eq_false c1)⟩⟩
  | true =>
    have h0 := of_decide_eq_true c1
    simp only [guardK_tt, nil_ptr, bindO_some, fa117_0, fa35_2, addrV_eq, lz, hz, binK_some bin_lss, pickV_t]
    cases c2 : decide (kind < (nk : Int)) with
    | false =>
      simp only [guardK_ft, guardK_u, pickV_f, bindO_some]
      exact ⟨false, rfl, ⟨fun h => (by cases h), fun h => absurd h.2.1 (of_decide_eq_false c2)⟩⟩
    | true =>
      have h1 := of_decide_eq_true c2
      obtain ⟨kd, rfl⟩ : ∃ kd : Nat, kind = kd := ⟨kind.toNat, by omega⟩
      have hkd : kd < nk := by omega
      obtain ⟨B, hB, ln⟩ := nest_load hf (hn p kd hp hkd) (by omega) (by omega)
      simp only [guardK_tt, nil_ptr, bindO_some, fa117_2, at115 _ _ (show p < 8 by omega), at114 _ _ (show kd < 3 by omega), addrV_eq, ln, fit_call l (shP_len ..) hB.1 (shP_bounded hks hkd hnp hp), pickV_t]
      refine ⟨_, rfl, ?_⟩
      have e : fitD js ks nj np p (kd : Int).toNat = fitD js ks nj np p kd := by rw [Int.toNat_natCast]
      rw [e]
      unfold fitD
      exact ⟨fun h => ⟨h0, h1, h⟩, fun h => h.2.2⟩
theorem call102 (l : Nat) (a b c : Value) (H : Hp) (n : Nat) : (cal (l + 1)).call 102 [a, b, c] H n = C102_0 (cal l) KK a b c H n := by kernel_rfl
theorem takes_call (l : Nat) {H : Hp} {n g np nj nk p : Nat} {f : Nat → Value} {js ks : List Int} {x y z : Value} (hf : CellsF H g 859 117 f) (hs : SiteF f x y z js nj) (hz : lenV P 33 z = some (.int .i64 nk)) (hn : ∀ p kd, p < np → kd < nk → NestAt f js ks nj np p kd) (hks : KindsOk ks nk) (hnp : np ≤ 8) (hnk : nk ≤ 3) (hp : p < np) (kind : Int) :
    ∃ r : Bool, (r = true ↔ takesP js ks nj np nk p kind) ∧ ∀ k : Value → Hp → Nat → Option ρ, callFK P (cal (l + 4)) 102 [.pointer (some ⟨g, 0, none⟩), .int .i64 p, .int .i64 kind] H n k = k (.bool r) H n := by
  obtain ⟨r, e, h⟩ := takes_spec l (n := n) hf hs hz hn hks hnp hnk hp kind
  refine ⟨r, h, fun k => ?_⟩
  unfold callFK
  have : (flatF P 102 && pureL [.pointer (some ⟨g, 0, none⟩), .int .i64 p, .int .i64 kind]) = false := by rw [Bool.and_eq_false_iff]; exact .inr rfl
  rw [this, call102, e]
  rfl
theorem results65_eq : results65 = [.tmp 4, .cell 5 121, .tmp 6] := by kernel_rfl
theorem res65 {H : Hp} {b : Nat} {v : Value} (p e : Value) (h : loadV P H 121 ⟨b, 0, none⟩ = some v) : resV P (Tr.set (Tr.set (Tr.set Tr.nil 6 (some e)) 5 (some (.pointer (some ⟨b, 0, none⟩)))) 4 (some p)) H results65 = some [p, v, e] := by
  rw [results65_eq]
  simp [resV, Tr.get_set, h]
theorem index121 {L : List Int} (hL : L.length = 8) {i : Nat} (hi : i < 8) : indexV P 121 (.agg ⟨ints L⟩) (.int .i64 i) = some (.int .i64 (L.getD i 0)) := by
  unfold indexV
  have a3 : isAggT P 3 = some false := agg3
  simp only [und121, idx_lt hi, sz3, partV, a3]
  rw [Nat.mul_one]
  exact ints_get (getD_some (by omega))
def laidL (ls : List Int) (np : Nat) : List Int := ls ++ List.replicate (8 - np) (-1)
theorem laidL_len {ls : List Int} {np : Nat} (h : ls.length = np) (hnp : np ≤ 8) : (laidL ls np).length = 8 := by unfold laidL; simp [h]; omega
theorem laidL_in {ls : List Int} {np p : Nat} (h : ls.length = np) (hp : p < np) : (laidL ls np).getD p 0 = ls.getD p 0 := by
  unfold laidL
  rw [List.getD_eq_getElem?_getD, List.getElem?_append_left (by omega), ← List.getD_eq_getElem?_getD]
theorem laidL_out {ls : List Int} {np p : Nat} (h : ls.length = np) (hp : np ≤ p) (hp8 : p < 8) : (laidL ls np).getD p 0 = -1 := by
  unfold laidL
  rw [List.getD_eq_getElem?_getD, List.getElem?_append_right (by omega), List.getElem?_replicate, if_pos (by omega)]
  rfl
def laidOk (js ks ls : List Int) (nj np nk : Nat) : Prop := ∀ p, p < np → ls.getD p 0 = -1 ∨ takesP js ks nj np nk p (ls.getD p 0)
theorem splice_ints : ∀ {L X : List Int}, L.length ≤ X.length → splice.over (ints X) (ints L) = some (ints (L ++ X.drop L.length))
  | [], X, _ => by cases X <;> simp [ints, splice.over]
  | a :: L, [], h => by simp at h
  | a :: L, x :: X, h => by
    have ih := splice_ints (L := L) (X := X) (by simpa using h)
    simp only [ints, List.map_cons, splice.over] at ih ⊢
    rw [ih]
    simp
theorem copy_row {H : Hp} {n b np : Nat} {w : Value} {ls X : List Int} {e : TypeId} (hw : ListR H n w np ls) (h1 : 0 < np) (h8 : np ≤ 8) (hX : X.length = 8) (hg : H.get b = some (.cells (ints X) e false none)) :
    copyV P (bare H n) 44 (.slice (some ⟨b, 0, none⟩) 8 8) w = some (.int .i64 np, bare (H.set b (some (.cells (ints (ls ++ X.drop np)) e false none))) n) := by
  obtain ⟨hl, _, hw⟩ := hw
  rcases hw with ⟨_, h0⟩ | ⟨rb, ro, cap, rfl, hr, hc⟩
  · omega
  have hmin' : Nat.min np 8 = np := Nat.min_eq_left h8
  have hld : loadN H ⟨rb, ro, none⟩ (np * 1) = some (ints ls) := loadN_all hc (ints_noHole _) (by rw [ints_length, hl, Nat.mul_one])
  have hsp : splice (ints X) 0 (ints ls) = some (ints (ls ++ X.drop ls.length)) := by
    unfold splice
    exact splice_ints (by omega)
  have hst : storeN H ⟨b, 0, none⟩ (ints ls) = some (H.set b (some (.cells (ints (ls ++ X.drop np)) e false none))) := by
    unfold storeN
    simp only [hg, ints_leaf, if_true, hsp, hl]
  unfold copyV
  simp only [sl44, sz3, bare, hmin', hld, hst]
  rfl
theorem openLaid_loop (l k : Nat) {H : Hp} {n g np nj nk b5 b9 : Nat} {f : Nat → Value} {js ks ls : List Int} {x y z : Value} (hf : CellsF H g 859 117 f) (hs : SiteF f x y z js nj) (hz : lenV P 33 z = some (.int .i64 nk)) (hn : ∀ p kd, p < np → kd < nk → NestAt f js ks nj np p kd) (hks : KindsOk ks nk) (hnp : np ≤ 8) (hnk : nk ≤ 3)
    (hls : ls.length = np) (h5 : ∃ w, H.get b5 = some (.cells w 121 false none) ∧ w.length = 8) (h9 : H.get b9 = some (.cells (ints (laidL ls np)) 121 false none)) (hne : b5 ≠ b9) : ∀ (m i : Nat), i ≤ 8 → 8 - i ≤ m →
    ((∃ p, i ≤ p ∧ p < np ∧ ¬ (ls.getD p 0 = -1 ∨ takesP js ks nj np nk p (ls.getD p 0))) ∧ ∃ H', S65_1 (cal (l + 4)) k m (.pointer (some ⟨b5, 0, none⟩)) (.pointer (some ⟨g, 0, none⟩)) (.pointer (some ⟨b9, 0, none⟩)) (.agg ⟨ints (laidL ls np)⟩) (.int .i64 i) H n = some (.tuple ⟨[.pointer none, .agg ⟨ints (List.replicate 8 0)⟩, .int .i64 2]⟩, H', n) ∧ ∀ b, b ≠ b5 → H'.get b = H.get b) ∨
    ((∀ p, i ≤ p → p < np → ls.getD p 0 = -1 ∨ takesP js ks nj np nk p (ls.getD p 0)) ∧ ∃ H', S65_1 (cal (l + 4)) k m (.pointer (some ⟨b5, 0, none⟩)) (.pointer (some ⟨g, 0, none⟩)) (.pointer (some ⟨b9, 0, none⟩)) (.agg ⟨ints (laidL ls np)⟩) (.int .i64 i) H n = some (.tuple ⟨[.pointer (some ⟨g, 0, none⟩), .agg ⟨ints (laidL ls np)⟩, .int .i64 0]⟩, H', n) ∧ ∀ b, b ≠ b5 → H'.get b = H.get b) := by
  obtain ⟨w5, h5, hw5⟩ := h5
  have body : ∀ (b1 : Value → Value → Value → Value → Value → Hp → Nat → Res) (m i : Nat), i ≤ 8 →
      (i < 8 → ((∃ p, i + 1 ≤ p ∧ p < np ∧ ¬ (ls.getD p 0 = -1 ∨ takesP js ks nj np nk p (ls.getD p 0))) ∧ ∃ H', b1 (.pointer (some ⟨b5, 0, none⟩)) (.pointer (some ⟨g, 0, none⟩)) (.pointer (some ⟨b9, 0, none⟩)) (.agg ⟨ints (laidL ls np)⟩) (.int .i64 ((i + 1 : Nat) : Int)) H n = some (.tuple ⟨[.pointer none, .agg ⟨ints (List.replicate 8 0)⟩, .int .i64 2]⟩, H', n) ∧ ∀ b, b ≠ b5 → H'.get b = H.get b) ∨
        ((∀ p, i + 1 ≤ p → p < np → ls.getD p 0 = -1 ∨ takesP js ks nj np nk p (ls.getD p 0)) ∧ ∃ H', b1 (.pointer (some ⟨b5, 0, none⟩)) (.pointer (some ⟨g, 0, none⟩)) (.pointer (some ⟨b9, 0, none⟩)) (.agg ⟨ints (laidL ls np)⟩) (.int .i64 ((i + 1 : Nat) : Int)) H n = some (.tuple ⟨[.pointer (some ⟨g, 0, none⟩), .agg ⟨ints (laidL ls np)⟩, .int .i64 0]⟩, H', n) ∧ ∀ b, b ≠ b5 → H'.get b = H.get b)) →
      ((∃ p, i ≤ p ∧ p < np ∧ ¬ (ls.getD p 0 = -1 ∨ takesP js ks nj np nk p (ls.getD p 0))) ∧ ∃ H', C65_1 (cal (l + 4)) k m b1 (.pointer (some ⟨b5, 0, none⟩)) (.pointer (some ⟨g, 0, none⟩)) (.pointer (some ⟨b9, 0, none⟩)) (.agg ⟨ints (laidL ls np)⟩) (.int .i64 i) H n = some (.tuple ⟨[.pointer none, .agg ⟨ints (List.replicate 8 0)⟩, .int .i64 2]⟩, H', n) ∧ ∀ b, b ≠ b5 → H'.get b = H.get b) ∨
      ((∀ p, i ≤ p → p < np → ls.getD p 0 = -1 ∨ takesP js ks nj np nk p (ls.getD p 0)) ∧ ∃ H', C65_1 (cal (l + 4)) k m b1 (.pointer (some ⟨b5, 0, none⟩)) (.pointer (some ⟨g, 0, none⟩)) (.pointer (some ⟨b9, 0, none⟩)) (.agg ⟨ints (laidL ls np)⟩) (.int .i64 i) H n = some (.tuple ⟨[.pointer (some ⟨g, 0, none⟩), .agg ⟨ints (laidL ls np)⟩, .int .i64 0]⟩, H', n) ∧ ∀ b, b ≠ b5 → H'.get b = H.get b) := by
    intro b1 m i hi ih
    unfold C65_1 B65_1
    rw [binK_some bin_lss, ifK_d]
    have l8 := laidL_len hls hnp
    by_cases hlt : i < 8
    · rw [if_pos (by omega), index121 l8 hlt, bindO_some, binK_some bin_neq]
      have hI : I64 ((i : Int) + 1) := by unfold I64; omega
      have hcast : ((i : Int) + 1) = ((i + 1 : Nat) : Int) := by omega
      have go : (i < np → ls.getD i 0 = -1 ∨ takesP js ks nj np nk i (ls.getD i 0)) → ∀ r : Res, r = b1 (.pointer (some ⟨b5, 0, none⟩)) (.pointer (some ⟨g, 0, none⟩)) (.pointer (some ⟨b9, 0, none⟩)) (.agg ⟨ints (laidL ls np)⟩) (.int .i64 ((i + 1 : Nat) : Int)) H n →
          ((∃ p, i ≤ p ∧ p < np ∧ ¬ (ls.getD p 0 = -1 ∨ takesP js ks nj np nk p (ls.getD p 0))) ∧ ∃ H', r = some (.tuple ⟨[.pointer none, .agg ⟨ints (List.replicate 8 0)⟩, .int .i64 2]⟩, H', n) ∧ ∀ b, b ≠ b5 → H'.get b = H.get b) ∨
          ((∀ p, i ≤ p → p < np → ls.getD p 0 = -1 ∨ takesP js ks nj np nk p (ls.getD p 0)) ∧ ∃ H', r = some (.tuple ⟨[.pointer (some ⟨g, 0, none⟩), .agg ⟨ints (laidL ls np)⟩, .int .i64 0]⟩, H', n) ∧ ∀ b, b ≠ b5 → H'.get b = H.get b) := by
        rintro hok r rfl
        rcases ih hlt with ⟨⟨p, q1, q2, q3⟩, q4⟩ | ⟨q1, q2⟩
        · exact .inl ⟨⟨p, by omega, q2, q3⟩, q4⟩
        · refine .inr ⟨fun p p1 p2 => ?_, q2⟩
          rcases Nat.eq_or_lt_of_le p1 with z | z
          · subst z; exact hok p2
          · exact q1 p z p2
      cases c1 : decide ((laidL ls np).getD i 0 = -1) with
      | true =>
        simp only [Bool.not_true, guardK_ft, guardK_u, pickV_f, bindO_some, ifK_f, binK_some (bin_add hI), hcast]
        refine go (fun hp => .inl ?_) _ rfl
        rw [← laidL_in hls hp]; exact of_decide_eq_true c1
      | false =>
        have hip : i < np := by
          rcases Nat.lt_or_ge i np with q | q
          · exact q
          · exact absurd (laidL_out hls q hlt) (of_decide_eq_false c1)
        have hv := laidL_in hls hip
        obtain ⟨r, hr, hc⟩ := takes_call (ρ := Value × Hp × Nat) l (n := n) hf hs hz hn hks hnp hnk hip ((laidL ls np).getD i 0)
        rw [hv] at hr c1
        simp only [Bool.not_false, guardK_tt, hc]
        cases r with
        | true =>
          simp only [guardK_tt, not_t, bindO_some, pickV_t, ifK_f, binK_some (bin_add hI), hcast]
          exact go (fun _ => .inr (hr.1 rfl)) _ rfl
        | false =>
          simp only [guardK_tt, not_f, bindO_some, pickV_t, ifK_t]
          have hst := storeN_all (vs := ints (List.replicate 8 0)) h5 (by rw [hw5]; rfl) (ints_leaf _)
          rw [build121, bindO_some, storeP_agg sz121 rfl, hst, bindO_some, res65 _ _ (load_all (t := 121) (s := 8) (L := ints (List.replicate 8 0)) (e := 121) (vec := none) (by rw [Tr.get_set, if_pos rfl]) agg121 sz121 rfl)]
          refine .inl ⟨⟨i, Nat.le_refl _, hip, ?_⟩, _, rfl, fun b hb => by rw [Tr.get_set, if_neg hb]⟩
          rintro (h | h)
          · exact of_decide_eq_false c1 h
          · exact absurd (hr.2 h) (by simp)
    · have lens : (ints (laidL ls np)).length = 8 := by rw [ints_length, l8]
      have hst := storeN_all (vs := ints (laidL ls np)) h5 (by rw [hw5, lens]) (ints_leaf _)
      rw [if_neg (by omega), addrV_eq, bindO_some, load_all h9 agg121 sz121 lens, bindO_some, storeP_agg sz121 lens, hst, bindO_some,
        res65 _ _ (load_all (t := 121) (s := 8) (L := ints (laidL ls np)) (e := 121) (vec := none) (by rw [Tr.get_set, if_pos rfl]) agg121 sz121 lens)]
      exact .inr ⟨fun p p1 p2 => by omega, _, rfl, fun b hb => by rw [Tr.get_set, if_neg hb]⟩
  intro m
  induction m with
  | zero => intro i h1 h2; exact body _ 0 i h1 (fun h => by omega)
  | succ m ih => intro i h1 h2; exact body _ (m + 1) i h1 (fun h => ih (i + 1) (by omega) (by omega))
end Go.Proofs.Ytgojjellogiglaa.spec
end
section
namespace Go.Proofs.Ytgojjellogiglaa.spec
open Go Go.Ev Go.Proofs.Ytgojjellogiglaa.nestFits Go.Proofs.Ytgojjellogiglaa.G
set_option maxRecDepth 100000
variable {ρ : Type}
open Classical in
noncomputable def placedN (np nj nk nl : Nat) (ps js ks ls : List Int) : Int := if faultN np nj nk ps js ks ≠ 0 then faultN np nj nk ps js ks else if nl = np ∧ laidOk js ks ls nj np nk then 0 else 2
def NotLaid (r : Res) (n : Nat) (H : Hp) (e : Int) : Prop := ∃ H' n', r = some (.tuple ⟨[.pointer none, .agg ⟨ints (List.replicate 8 0)⟩, .int .i64 e]⟩, H', n') ∧ n ≤ n' ∧ Keep n H H'
def IsLaid (r : Res) (n : Nat) (H : Hp) (v : Value) (np nj nk : Nat) (js ks ls : List Int) : Prop := ∃ (g : Nat) (x y z : Value) (f : Nat → Value) (H' : Hp) (n' : Nat), r = some (.tuple ⟨[.pointer (some ⟨g, 0, none⟩), .agg ⟨ints (laidL ls np)⟩, .int .i64 0]⟩, H', n') ∧ n ≤ n' ∧ Keep n H H' ∧ n ≤ g ∧ g < n' ∧
  v = .agg ⟨[x, y, z]⟩ ∧ CellsF H' g 859 117 f ∧ SiteF f x y z js nj ∧ ∀ p kd, p < np → kd < nk → NestAt f js ks nj np p kd
theorem openLaid_spec (l : Nat) {np nj nk nl : Nat} {ps js ks ls : List Int} {H : Hp} {n : Nat} {v w : Value} (hg : GroveP H n v np nj nk ps js ks) (hw : ListR H n w nl ls) (hnp : np ≤ 1000) (hnj : nj ≤ 1000) (hnk : nk ≤ 1000) :
    (placedN np nj nk nl ps js ks ls ≠ 0 → NotLaid (C65_0 (cal (l + 6)) KK v w H n) n H (placedN np nj nk nl ps js ks ls)) ∧
    (placedN np nj nk nl ps js ks ls = 0 → IsLaid (C65_0 (cal (l + 6)) KK v w H n) n H v np nj nk js ks ls ∧ nl = np ∧ laidOk js ks ls nj np nk ∧ faultN np nj nk ps js ks = 0) := by
  have hg0 := hg
  obtain ⟨x, y, z, rfl, h1, h2, h3⟩ := hg
  unfold C65_0 B65_0
  generalize hS : S65_1 (cal (l + 6)) KK KK = S
  rw [boxK_eq, allocK_eq zero121]
  simp only [cellsV, ptr]
  have hk : Keep n H ((H.set n (some (.cells [x, y, z] 35 false none))).set (n + 1) (some (.cells (ints (List.replicate 8 0)) 121 false none))) := ((Keep.refl n H).set (Nat.le_refl _) _).set (by omega) _
  have hb : CellsAt ((H.set n (some (.cells [x, y, z] 35 false none))).set (n + 1) (some (.cells (ints (List.replicate 8 0)) 121 false none))) n 0 [x, y, z] := CellsAt.new.set (by omega)
  have hr : ((H.set n (some (.cells [x, y, z] 35 false none))).set (n + 1) (some (.cells (ints (List.replicate 8 0)) 121 false none))).get (n + 1) = some (.cells (ints (List.replicate 8 0)) 121 false none) := by rw [Tr.get_set, if_pos rfl]
  generalize (H.set n (some (.cells [x, y, z] 35 false none))).set (n + 1) (some (.cells (ints (List.replicate 8 0)) 121 false none)) = H1 at hk hb hr ⊢
  have lg : loadV P H1 35 ⟨n, 0, none⟩ = some (.agg ⟨[x, y, z]⟩) := loadV_agg (o := 0) (k := 0) hb agg35 sz35 (by simp) (by simp [h1.hole.1, h2.hole.1, h3.hole.1])
  obtain ⟨o1, o2⟩ := open_spec l (hg0.keep hk (show n ≤ n + 1 + 1 by omega)) hnp hnj hnk
  rw [addrV_eq, bindO_some, lg, bindO_some, open_call]
  have bad : ∀ (H2 : Hp) (n2 : Nat) (e : Int), n + 1 + 1 ≤ n2 → Keep (n + 1 + 1) H1 H2 → NotLaid (bindO (storeP P 121 (.pointer (some ⟨n + 1, 0, none⟩)) (.agg ⟨ints (List.replicate 8 0)⟩) H2) fun H_p =>
      bindO (resV P (Tr.set (Tr.set (Tr.set Tr.nil 6 (some (.int .i64 e))) 5 (some (.pointer (some ⟨n + 1, 0, none⟩)))) 4 (some (Value.pointer none))) H_p results65) fun v_r => some (oneV v_r, H_p, n2)) n H e := by
    intro H2 n2 e hn hk2
    have hr2 := (hk2 (n + 1) (by omega)).trans hr
    rw [storeP_agg sz121 rfl, storeN_all hr2 rfl (ints_leaf _), bindO_some, res65 _ _ (load_all (t := 121) (s := 8) (L := ints (List.replicate 8 0)) (e := 121) (vec := none) (by rw [Tr.get_set, if_pos rfl]) agg121 sz121 rfl)]
    exact ⟨_, _, rfl, by omega, (hk.trans hk2 (by omega)).set (by omega) _⟩
  by_cases he : faultN np nj nk ps js ks = 0
  · have good := good_of he
    obtain ⟨g, x', y', z', f, H2, n2, e1, e2, e3, e4, e5, e6, e7, e8, e9⟩ := o2 he
    simp only [Value.agg.injEq, Array.mk.injEq, List.cons.injEq, and_true] at e6
    obtain ⟨rfl, rfl, rfl⟩ := e6
    have t0 : tupV (.tuple ⟨[.pointer (some ⟨g, 0, none⟩), .int .i64 0]⟩) 0 = some (.pointer (some ⟨g, 0, none⟩)) := rfl
    have t1 : tupV (.tuple ⟨[.pointer (some ⟨g, 0, none⟩), .int .i64 0]⟩) 1 = some (.int .i64 0) := rfl
    have d0 : decide ((0 : Int) = 0) = true := rfl
    have lx : loadV P H2 31 ⟨g, 0 + 0 + 0, none⟩ = some x := by
      have := e7.load (P := P) (k := 0) agg31 (by omega)
      rw [e8.x] at this; exact this
    have hlx : lenV P 31 x = some (.int .i64 np) := h1.len_eq und31
    have hlz : lenV P 33 z = some (.int .i64 nk) := h3.len_eq und33
    have kk : Keep n H H2 := hk.trans e3 (by omega)
    have hw2 := hw.keep kk (show n ≤ n2 by omega)
    rw [e1, bindO_some, t0, bindO_some, t1, bindO_some, binK_some bin_neq, d0, Bool.not_true, ifK_f, hw.len_eq, bindO_some, nil_ptr, bindO_some, fa117_0, bindO_some, fa35_0, bindO_some, addrV_eq, bindO_some, lx, bindO_some, hlx, bindO_some, binK_some bin_neq]
    unfold placedN
    rw [if_neg (fun h => h he)]
    by_cases hl : nl = np
    · subst hl
      have dl : decide ((nl : Int) = (nl : Int)) = true := decide_eq_true rfl
      have l8 := laidL_len hw.1 good.np8
      have lens : (ints (laidL ls nl)).length = 8 := by rw [ints_length, l8]
      rw [dl, Bool.not_true, ifK_f, bare_call (l + 5)]
      obtain ⟨H3, k1, k2, k3⟩ := spill (P := P) (ρ := Value × Hp × Nat) (H := H2) (n := n2) (L := ints (List.replicate 8 (-1))) zero121 rfl sz121 rfl (ints_leaf _)
      rw [k3, slice121, bindO_some]
      have hw3 := hw2.keep k1 (show n2 ≤ n2 + 1 by omega)
      unfold stK
      rw [copy_row hw3 (by have := good.np1; omega) good.np8 rfl k2, bindO_some]
      dsimp only [bare]
      have hrow : (H3.set n2 (some (.cells (ints (ls ++ (List.replicate 8 (-1)).drop nl)) 121 false none))).get n2 = some (.cells (ints (laidL ls nl)) 121 false none) := by
        rw [Tr.get_set, if_pos rfl, List.drop_replicate]; rfl
      have kk3 : Keep n2 H2 (H3.set n2 (some (.cells (ints (ls ++ (List.replicate 8 (-1)).drop nl)) 121 false none))) := k1.set (Nat.le_refl _) _
      generalize H3.set n2 (some (.cells (ints (ls ++ (List.replicate 8 (-1)).drop nl)) 121 false none)) = H4 at hrow kk3 ⊢
      rw [addrV_eq, bindO_some, load_all hrow agg121 sz121 lens, bindO_some, ← hS]
      have hf4 := e7.keep kk3 e5
      have hr4 : H4.get (n + 1) = some (.cells (ints (List.replicate 8 0)) 121 false none) := by rw [kk3 _ (by omega), e3 _ (by omega)]; exact hr
      rcases openLaid_loop (l + 2) KK (n := n2 + 1) hf4 e8 hlz e9 good.kinds good.np8 good.nk3 hw.1 ⟨_, hr4, rfl⟩ hrow (by omega) KK 0 (by omega) (by unfold KK; omega) with ⟨⟨p, q1, q2, q3⟩, H5, q4, q5⟩ | ⟨q1, H5, q4, q5⟩
      · have hno : ¬ (nl = nl ∧ laidOk js ks ls nj nl nk) := fun h => q3 (h.2 p q2)
        rw [if_neg hno]
        refine ⟨fun _ => ⟨H5, n2 + 1, q4, by omega, fun b hb => ?_⟩, fun h => by omega⟩
        rw [q5 b (by omega), kk3 b (by omega), kk b hb]
      · have hyes : nl = nl ∧ laidOk js ks ls nj nl nk := ⟨rfl, fun p hp => q1 p (Nat.zero_le _) hp⟩
        rw [if_pos hyes]
        refine ⟨fun h => absurd rfl h, fun _ => ⟨⟨g, x, y, z, f, H5, n2 + 1, q4, by omega, fun b hb => ?_, by omega, by omega, rfl, ?_, e8, e9⟩, rfl, hyes.2, he⟩⟩
        · rw [q5 b (by omega), kk3 b (by omega), kk b hb]
        · obtain ⟨c, a1, a2, a3⟩ := hf4
          exact ⟨c, by rw [q5 g (by omega)]; exact a1, a2, a3⟩
    · have dl : decide ((nl : Int) = (np : Int)) = false := decide_eq_false (by omega)
      have hno : ¬ (nl = np ∧ laidOk js ks ls nj np nk) := fun h => hl h.1
      rw [dl, Bool.not_false, ifK_t, if_neg hno, build121, bindO_some]
      exact ⟨fun _ => bad H2 n2 2 e2 e3, fun h => by omega⟩
  · obtain ⟨H2, n2, e1, e2, e3⟩ := o1 he
    have t0 : tupV (.tuple ⟨[.pointer none, .int .i64 (faultN np nj nk ps js ks)]⟩) 0 = some (.pointer none) := rfl
    have t1 : tupV (.tuple ⟨[.pointer none, .int .i64 (faultN np nj nk ps js ks)]⟩) 1 = some (.int .i64 (faultN np nj nk ps js ks)) := rfl
    unfold placedN
    rw [if_pos he, e1, bindO_some, t0, bindO_some, t1, bindO_some, binK_some bin_neq, decide_eq_false he, Bool.not_false, ifK_t, build121, bindO_some]
    exact ⟨fun _ => bad H2 n2 _ e2 e3, fun h => absurd h he⟩
theorem flat65 : flatF P 65 = false := by kernel_rfl
theorem call65 (l : Nat) (a b : Value) (H : Hp) (n : Nat) : (cal (l + 1)).call 65 [a, b] H n = C65_0 (cal l) KK a b H n := by kernel_rfl
theorem openLaid_call (l : Nat) (v w : Value) (H : Hp) (n : Nat) (k : Value → Hp → Nat → Option ρ) : callFK P (cal (l + 7)) 65 [v, w] H n k = bindO (C65_0 (cal (l + 6)) KK v w H n) fun r => k r.1 r.2.1 r.2.2 := by
  unfold callFK
  rw [flat65, call65]
  rfl
end Go.Proofs.Ytgojjellogiglaa.spec
end
section
namespace Go.Ev
open Go
variable {P : Program} {ρ : Type}
theorem splice_one {a : Int} : ∀ {X : List Int} {o : Nat}, o < X.length → splice (ints X) o [.int .i64 a] = some (ints (X.set o a))
  | [], _, h => by simp at h
  | x :: X, 0, _ => by
    unfold splice
    cases X <;> simp [ints, splice.over]
  | x :: X, o + 1, h => by
    have ih := splice_one (a := a) (X := X) (o := o) (by simpa using h)
    unfold splice
    simp only [ints, List.map_cons, List.set_cons_succ] at ih ⊢
    rw [ih]
theorem store_one {a : Int} {X : List Int} {o g : Nat} {H : Hp} {e : TypeId} {vec : Option Nat} (h : H.get g = some (.cells (ints X) e false vec)) (ho : o < X.length) :
    storeN H ⟨g, o, none⟩ [.int .i64 a] = some (H.set g (some (.cells (ints (X.set o a)) e false vec))) := by
  unfold storeN
  simp only [h, splice_one ho]
  rfl
end Go.Ev
end
section
namespace Go.Proofs.Ytgojjellogiglaa.spec
open Go Go.Ev Go.Proofs.Ytgojjellogiglaa.nestFits Go.Proofs.Ytgojjellogiglaa.G
set_option maxRecDepth 100000
variable {ρ : Type}
theorem res103 (H : Hp) (b : Nat) : resV P (Tr.set Tr.nil 4 (some (.pointer (some ⟨b, 0, none⟩)))) H results103 = (match loadV P H 111 ⟨b, 0, none⟩ with
  | none => none
  | some v => some [v]) := by kernel_rfl
def Mild (X : List Int) : Prop := ∀ k : Nat, -1000000 ≤ X.getD k 0 ∧ X.getD k 0 ≤ 1000000
structure PlusTo (X Y Z : List Int) (i : Nat) : Prop where
  len : Z.length = 16
  below : ∀ p, p < i → Z.getD (p * 2) 0 = X.getD (p * 2) 0 + Y.getD (p * 2) 0 ∧ Z.getD (p * 2 + 1) 0 = X.getD (p * 2 + 1) 0 + Y.getD (p * 2 + 1) 0
  above : ∀ p, i ≤ p → Z.getD (p * 2) 0 = X.getD (p * 2) 0 ∧ Z.getD (p * 2 + 1) 0 = X.getD (p * 2 + 1) 0
theorem load_int_at {H : Hp} {g o : Nat} {X : List Int} {e : TypeId} {ro : Bool} {vec : Option Nat} (h : H.get g = some (.cells (ints X) e ro vec)) (ho : o < X.length) : loadV P H 3 ⟨g, o, none⟩ = some (.int .i64 (X.getD o 0)) := by
  have := loadV_int (P := P) (t := 3) (o := 0) (k := o) (cells_at h) agg3 (ints_get (getD_some ho))
  rw [Nat.zero_add] at this
  exact this
theorem plus_loop (c : Cal) (k : Nat) {X Y : List Int} (hY : Y.length = 16) (mX : Mild X) (mY : Mild Y) (b2 b4 : Nat) (hne : b2 ≠ b4) : ∀ (m i : Nat) (Z : List Int) (H : Hp) (n : Nat), b2 < n → b4 < n → H.get b2 = some (.cells (ints Z) 111 false none) → (∃ w, H.get b4 = some (.cells w 111 false none) ∧ w.length = 16) → PlusTo X Y Z i → i ≤ 8 → 8 - i ≤ m →
    ∃ Z' H' n', S103_1 c k m (.pointer (some ⟨b2, 0, none⟩)) (.pointer (some ⟨b4, 0, none⟩)) (.agg ⟨ints Y⟩) (.int .i64 i) H n = some (.agg ⟨ints Z'⟩, H', n') ∧ PlusTo X Y Z' 8 := by
  have body : ∀ (b1 : Value → Value → Value → Value → Hp → Nat → Res) (m i : Nat) (Z : List Int) (H : Hp) (n : Nat), b2 < n → b4 < n → H.get b2 = some (.cells (ints Z) 111 false none) → (∃ w, H.get b4 = some (.cells w 111 false none) ∧ w.length = 16) → PlusTo X Y Z i → i ≤ 8 →
      (∀ Z2 H2 n2, b2 < n2 → b4 < n2 → H2.get b2 = some (.cells (ints Z2) 111 false none) → (∃ w, H2.get b4 = some (.cells w 111 false none) ∧ w.length = 16) → PlusTo X Y Z2 (i + 1) → i < 8 →
        ∃ Z' H' n', b1 (.pointer (some ⟨b2, 0, none⟩)) (.pointer (some ⟨b4, 0, none⟩)) (.agg ⟨ints Y⟩) (.int .i64 ((i + 1 : Nat) : Int)) H2 n2 = some (.agg ⟨ints Z'⟩, H', n') ∧ PlusTo X Y Z' 8) →
      ∃ Z' H' n', C103_1 c k m b1 (.pointer (some ⟨b2, 0, none⟩)) (.pointer (some ⟨b4, 0, none⟩)) (.agg ⟨ints Y⟩) (.int .i64 i) H n = some (.agg ⟨ints Z'⟩, H', n') ∧ PlusTo X Y Z' 8 := by
    intro b1 m i Z H n hb2 hb4 hg2 hg4 hZ hi ih
    have lZ := hZ.len
    unfold C103_1 B103_1
    rw [binK_some bin_lss, ifK_d]
    by_cases hlt : i < 8
    · obtain ⟨g1, g2⟩ := ints_take (xs := Y) (i := i) (s := 2) (by omega)
      obtain ⟨H1, k1, k2, k3⟩ := spill (P := P) (ρ := Value × Hp × Nat) (H := H) (n := n) zero53 rfl sz53 g1 g2
      rw [if_pos (by omega), index_row hY hlt, bindO_some, k3]
      rw [two_at (show i * 2 + 2 ≤ Y.length by omega)] at k2
      have q2 : H1.get b2 = some (.cells (ints Z) 111 false none) := (k1 b2 hb2).trans hg2
      obtain ⟨a1, a2⟩ := hZ.above i (Nat.le_refl _)
      have z0 : loadV P H1 3 ⟨b2, 0 + i * 2 + 0, none⟩ = some (.int .i64 (X.getD (i * 2) 0)) := by rw [show 0 + i * 2 + 0 = i * 2 by omega, load_int_at q2 (by omega), a1]
      have y0 : loadV P H1 3 ⟨n, 0 + 0, none⟩ = some (.int .i64 (Y.getD (i * 2) 0)) := loadV_int (cells_at k2) agg3 rfl
      obtain ⟨m1, m2⟩ := mX (i * 2)
      obtain ⟨m3, m4⟩ := mY (i * 2)
      obtain ⟨m5, m6⟩ := mX (i * 2 + 1)
      obtain ⟨m7, m8⟩ := mY (i * 2 + 1)
      have hI0 : I64 (X.getD (i * 2) 0 + Y.getD (i * 2) 0) := by unfold I64; omega
      have hI1 : I64 (X.getD (i * 2 + 1) 0 + Y.getD (i * 2 + 1) 0) := by unfold I64; omega
      have hI : I64 ((i : Int) + 1) := by unfold I64; omega
      have hcast : ((i : Int) + 1) = ((i + 1 : Nat) : Int) := by omega
      have s0 := store_one (a := X.getD (i * 2) 0 + Y.getD (i * 2) 0) (o := 0 + i * 2 + 0) q2 (by omega)
      have q3 : (H1.set b2 (some (.cells (ints (Z.set (0 + i * 2 + 0) (X.getD (i * 2) 0 + Y.getD (i * 2) 0))) 111 false none))).get b2 = some (.cells (ints (Z.set (0 + i * 2 + 0) (X.getD (i * 2) 0 + Y.getD (i * 2) 0))) 111 false none) := by rw [Tr.get_set, if_pos rfl]
      have q4 : ∀ b, b ≠ b2 → (H1.set b2 (some (.cells (ints (Z.set (0 + i * 2 + 0) (X.getD (i * 2) 0 + Y.getD (i * 2) 0))) 111 false none))).get b = H1.get b := fun b hb => by rw [Tr.get_set, if_neg hb]
      generalize H1.set b2 (some (.cells (ints (Z.set (0 + i * 2 + 0) (X.getD (i * 2) 0 + Y.getD (i * 2) 0))) 111 false none)) = H2 at s0 q3 q4
      have z1 : loadV P H2 3 ⟨b2, 0 + i * 2 + 1, none⟩ = some (.int .i64 (X.getD (i * 2 + 1) 0)) := by
        rw [load_int_at q3 (by simp; omega), List.getD_eq_getElem?_getD, List.getElem?_set, if_neg (by omega), ← List.getD_eq_getElem?_getD, show 0 + i * 2 + 1 = i * 2 + 1 by omega, a2]
      have y1 : loadV P H2 3 ⟨n, 0 + 1, none⟩ = some (.int .i64 (Y.getD (i * 2 + 1) 0)) := loadV_int (cells_at ((q4 n (by omega)).trans k2)) agg3 rfl
      have s1 := store_one (a := X.getD (i * 2 + 1) 0 + Y.getD (i * 2 + 1) 0) (o := 0 + i * 2 + 1) q3 (by simp; omega)
      simp only [at111 b2 0 hlt, bindO_some, fa53_0, fa53_1, addrV_eq, z0, y0, binK_some (bin_add hI0), storeP_leaf sz3 (show leafV (.int .i64 _) = true from rfl), s0, z1, y1, binK_some (bin_add hI1), s1, binK_some (bin_add hI), hcast]
      obtain ⟨w, w1, w2⟩ := hg4
      refine ih _ _ (n + 1) (by omega) (by omega) (by rw [Tr.get_set, if_pos rfl]) ⟨w, by rw [Tr.get_set, if_neg (Ne.symm hne), q4 _ (Ne.symm hne), k1 b4 hb4]; exact w1, w2⟩ ?_ hlt
      have e0 : 0 + i * 2 + 0 = i * 2 := by omega
      have e1 : 0 + i * 2 + 1 = i * 2 + 1 := by omega
      rw [e0, e1]
      refine ⟨by rw [set_two_len]; exact lZ, fun p hp => ?_, fun p hp => ?_⟩
      · obtain ⟨t1, t2⟩ := set_two_get (q := p) lZ hlt (X.getD (i * 2) 0 + Y.getD (i * 2) 0) (X.getD (i * 2 + 1) 0 + Y.getD (i * 2 + 1) 0)
        rw [t1, t2]
        by_cases e : p = i
        · subst e; rw [if_pos rfl, if_pos rfl]; exact ⟨rfl, rfl⟩
        · rw [if_neg e, if_neg e]; exact hZ.below p (by omega)
      · obtain ⟨t1, t2⟩ := set_two_get (q := p) lZ hlt (X.getD (i * 2) 0 + Y.getD (i * 2) 0) (X.getD (i * 2 + 1) 0 + Y.getD (i * 2 + 1) 0)
        rw [t1, t2, if_neg (by omega), if_neg (by omega)]
        exact hZ.above p (by omega)
    · have hi' : i = 8 := by omega
      subst hi'
      obtain ⟨w, w1, w2⟩ := hg4
      have lens : (ints Z).length = 16 := by rw [ints_length, lZ]
      rw [if_neg (by omega), addrV_eq, bindO_some, load_all hg2 agg111 sz111 lens, bindO_some, storeP_agg sz111 lens, storeN_all w1 (by rw [lens, w2]) (ints_leaf _), bindO_some, res103,
        load_all (t := 111) (s := 16) (L := ints Z) (e := 111) (vec := none) (by rw [Tr.get_set, if_pos rfl]) agg111 sz111 lens]
      exact ⟨Z, _, _, rfl, hZ⟩
  intro m
  induction m with
  | zero =>
    intro i Z H n h1 h2 h3 h4 h5 h6 h7
    exact body _ 0 i Z H n h1 h2 h3 h4 h5 h6 (fun _ _ _ _ _ _ _ _ h => by omega)
  | succ m ih =>
    intro i Z H n h1 h2 h3 h4 h5 h6 h7
    exact body _ (m + 1) i Z H n h1 h2 h3 h4 h5 h6 (fun Z2 H2 n2 q1 q2 q3 q4 q5 q6 => ih (i + 1) Z2 H2 n2 q1 q2 q3 q4 q5 (by omega) (by omega))
theorem plus_spec (c : Cal) {X Y : List Int} (hX : X.length = 16) (hY : Y.length = 16) (mX : Mild X) (mY : Mild Y) :
    ∃ Z H' n', C103_0 c KK (.agg ⟨ints X⟩) (.agg ⟨ints Y⟩) .nil 0 = some (.agg ⟨ints Z⟩, H', n') ∧ PlusTo X Y Z 8 := by
  unfold C103_0 B103_0
  generalize hS : S103_1 c KK KK = S
  rw [boxK_eq, boxK_eq, allocK_eq zero111]
  simp only [cellsV, ptr]
  have g0 : ((((Tr.nil : Hp).set 0 (some (.cells (ints X) 111 false none))).set (0 + 1) (some (.cells (ints Y) 111 false none))).set (0 + 1 + 1) (some (.cells (ints (List.replicate 16 0)) 111 false none))).get 0 = some (.cells (ints X) 111 false none) := by rw [Tr.get_set, if_neg (by omega), Tr.get_set, if_neg (by omega), Tr.get_set, if_pos rfl]
  have g1 : ((((Tr.nil : Hp).set 0 (some (.cells (ints X) 111 false none))).set (0 + 1) (some (.cells (ints Y) 111 false none))).set (0 + 1 + 1) (some (.cells (ints (List.replicate 16 0)) 111 false none))).get (0 + 1) = some (.cells (ints Y) 111 false none) := by rw [Tr.get_set, if_neg (by omega), Tr.get_set, if_pos rfl]
  have g2 : ((((Tr.nil : Hp).set 0 (some (.cells (ints X) 111 false none))).set (0 + 1) (some (.cells (ints Y) 111 false none))).set (0 + 1 + 1) (some (.cells (ints (List.replicate 16 0)) 111 false none))).get (0 + 1 + 1) = some (.cells (ints (List.replicate 16 0)) 111 false none) := by rw [Tr.get_set, if_pos rfl]
  generalize (((Tr.nil : Hp).set 0 (some (.cells (ints X) 111 false none))).set (0 + 1) (some (.cells (ints Y) 111 false none))).set (0 + 1 + 1) (some (.cells (ints (List.replicate 16 0)) 111 false none)) = H1 at g0 g1 g2 ⊢
  rw [addrV_eq, bindO_some, load_all g1 agg111 sz111 (by rw [ints_length, hY]), bindO_some, ← hS]
  exact plus_loop c KK hY mX mY 0 (0 + 1 + 1) (by omega) KK 0 X H1 (0 + 1 + 1 + 1) (by omega) (by omega) g0 ⟨_, g2, rfl⟩ ⟨hX, fun p hp => by omega, fun p _ => ⟨rfl, rfl⟩⟩ (by omega) (by unfold KK; omega)
theorem flat103 : flatF P 103 = true := by kernel_rfl
theorem call103 (l : Nat) (a b : Value) (H : Hp) (n : Nat) : (cal (l + 1)).call 103 [a, b] H n = C103_0 (cal l) KK a b H n :=
  (show (cal (l + 1)).call 103 [a, b] H n = quick ent103 (cal l) [a, b] H n by kernel_rfl).trans (quick_eq ..)
theorem plus_call (l : Nat) {X Y : List Int} (hX : X.length = 16) (hY : Y.length = 16) (mX : Mild X) (mY : Mild Y) : ∃ Z, PlusTo X Y Z 8 ∧ ∀ (H : Hp) (n : Nat) (k : Value → Hp → Nat → Option ρ),
    callFK P (cal (l + 1)) 103 [.agg ⟨ints X⟩, .agg ⟨ints Y⟩] H n k = k (.agg ⟨ints Z⟩) H n := by
  obtain ⟨Z, H', n', e, hZ⟩ := plus_spec (cal l) hX hY mX mY
  refine ⟨Z, hZ, fun H n k => callFK_pure flat103 ?_ ((call103 ..).trans e) ?_⟩
  · simp only [pureL, pureV, pureA, pure_ints, Bool.and_self]
  · simp only [pureV, pureA, pure_ints]
end Go.Proofs.Ytgojjellogiglaa.spec
end
section
namespace Go.Proofs.Ytgojjellogiglaa.spec
open Go Go.Ev Go.Proofs.Ytgojjellogiglaa.nestFits Go.Proofs.Ytgojjellogiglaa.G
set_option maxRecDepth 100000
variable {ρ : Type}
noncomputable def code66 : Code := codeOf 66
noncomputable def results66 : List ResultVar := resOf 66
noncomputable def asg66 : Code := asgOf (cL (cR (cL (cR (cR code66)))))
noncomputable def bod66 : Code := bodOf (cL (cR (cL (cR (cR code66)))))
noncomputable def K66 (c : Cal) (k : Nat) : KC (Value × Hp × Nat) := codeE P c (codeF P c k) none 66 (cR (cR (cR code66))) .leaf (doneK P results66) X0 (doneK P results66)
noncomputable def T66 (v0 v1 v3 v4 v5 v9 v10 : Value) : Tm := ((((((((Tr.nil : Tm).set 0 (some v0)).set 1 (some v1)).set 3 (some v3)).set 4 (some v4)).set 5 (some v5)).set 8 (some v0)).set 9 (some v9)).set 10 (some v10)
theorem pre66 (c : Cal) (k : Nat) (v0 v1 : Value) (H : Hp) (n : Nat) : bodyE P c A (k + 1) 66 [v0, v1] H n =
    (boxK 121 v1 H n fun v3 H n => allocK P 111 H n fun v4 H n => allocK P 111 H n fun v5 H n => bindO (addrV v3) fun a => bindO (loadV P H 121 a) fun v9 => callFK P c 74 [v0, v9] H n fun v10 H n =>
      rangeK P c none 66 v10 #[11, 12] asg66 bod66 (K66 c k) (upX 0 (K66 c k) X0) (doneK P results66) (T66 v0 v1 v3 v4 v5 v9 v10) H n []) := by
  rw [body_eq (fn := Go.Proofs.Try.f66) (c := code66) (rs := results66) (by kernel_rfl) (by kernel_rfl) (by kernel_rfl) (by kernel_rfl)]
  kernel_rfl
theorem post66 (c : Cal) (k : Nat) (v0 v1 v3 v4 v5 v9 v10 : Value) (H : Hp) (n : Nat) (D : List Nat) : K66 c k (T66 v0 v1 v3 v4 v5 v9 v10) H n D =
    (bindO (addrV v5) fun a => bindO (loadV P H 111 a) fun v17 => bindO (storeP P 111 v4 v17 H) fun H => getK (takeD H D) fun H => bindO (resV P ((Tr.nil : Tm).set 4 (some v4)) H results66) fun vs => some (oneV vs, H, n)) := by
  kernel_rfl
theorem call66 (l : Nat) (a b : Value) (H : Hp) (n : Nat) : (cal (l + 1)).call 66 [a, b] H n = bodyE P (cal l) A (KK + 1) 66 [a, b] H n := by kernel_rfl
theorem asg66_eq (l lp : Nat) (v0 v1 v3 v4 v5 v9 v10 p q : Value) (H : Hp) (n : Nat) :
    (cal (l + 1)).body lp 66 asg66 { T := ((T66 v0 v1 v3 v4 v5 v9 v10).set 11 (some p)).set 12 (some q), H, n, D := [] } =
      (allocK P 113 H n fun v7 H n => bindO (storeP P 113 v7 q H) fun H => some (.norm, { T := (((T66 v0 v1 v3 v4 v5 v9 v10).set 11 (some p)).set 12 (some q)).set 7 (some v7), H, n, D := [] })) := by kernel_rfl
theorem bod66_eq (l lp : Nat) (v0 v1 v3 v4 v5 v9 v10 p q v7 : Value) (H : Hp) (n : Nat) :
    (cal (l + 1)).body lp 66 bod66 { T := (((T66 v0 v1 v3 v4 v5 v9 v10).set 11 (some p)).set 12 (some q)).set 7 (some v7), H, n, D := [] } =
      (bindO (addrV v5) fun a => bindO (loadV P H 111 a) fun v13 => bindO (fieldAddrV P 113 v7 2) fun v14 => bindO (addrV v14) fun a => bindO (loadV P H 111 a) fun v15 => callFK P (cal l) 103 [v13, v15] H n fun v16 H n => bindO (storeP P 111 v5 v16 H) fun H =>
        some (.norm, { T := (((((((T66 v0 v1 v3 v4 v5 v9 v10).set 11 (some p)).set 12 (some q)).set 7 (some v7)).set 13 (some v13)).set 14 (some v14)).set 15 (some v15)).set 16 (some v16), H, n, D := [] })) := by kernel_rfl
theorem res66 (H : Hp) (b : Nat) : resV P ((Tr.nil : Tm).set 4 (some (.pointer (some ⟨b, 0, none⟩)))) H results66 = (match loadV P H 111 ⟨b, 0, none⟩ with
  | none => none
  | some v => some [v]) := by kernel_rfl
theorem ntm66 : ntm P 66 = 18 := by kernel_rfl
theorem flat74 : flatF P 74 = false := by kernel_rfl
theorem call74 (l : Nat) (a b : Value) (H : Hp) (n : Nat) : (cal (l + 1)).call 74 [a, b] H n = C74_0 (cal l) KK a b H n := by kernel_rfl
theorem call104 (l : Nat) (a b c : Value) (H : Hp) (n : Nat) : (cal (l + 1)).call 104 [a, b, c] H n = C104_0 (cal l) KK a b c H n := by kernel_rfl
theorem placed_call (l : Nat) (g : Nat) {L : List Int} (H : Hp) (n : Nat) (k : Value → Hp → Nat → Option ρ) : callFK P (cal (l + 1)) 74 [.pointer (some ⟨g, 0, none⟩), .agg ⟨ints L⟩] H n k =
    k (.func (.func 104) ⟨[]⟩ ⟨[.pointer (some ⟨n + 1, 0, none⟩), .pointer (some ⟨n, 0, none⟩)]⟩) ((H.set n (some (.cells [.pointer (some ⟨g, 0, none⟩)] 105 false none))).set (n + 1) (some (.cells (ints L) 121 false none))) (n + 2) := by
  unfold callFK
  rw [flat74, call74]
  rfl
theorem range66 (c : Cal) (a b : Value) (K : KC (Value × Hp × Nat)) (X : XC (Value × Hp × Nat)) (Kr : KC (Value × Hp × Nat)) (T : Tm) (H : Hp) (n : Nat) :
    rangeK P c none 66 (.func (.func 104) ⟨[]⟩ ⟨[a, b]⟩) #[11, 12] asg66 bod66 K X Kr T H n [] =
      callFK P c 104 [.func (.yield (n + 1)) #[] #[], a, b] ((H.set n (some .deferred)).set (n + 1) (some (.loop .ready none 66 T (ntm P 66) #[11, 12] asg66 bod66 n))) (n + 2) fun _ H n' => fin K X Kr (rangeOut (n + 1) { T := T, H, n := n', D := [n] }) := rfl
theorem yield66 (L : Nat) {H : Hp} {n lb b5 d : Nat} {v0 v1 v3 v4 v9 v10 q0 : Value} {X S B : List Int} {y : Int} (hl : H.get lb = some (.loop .ready none 66 (T66 v0 v1 v3 v4 (.pointer (some ⟨b5, 0, none⟩)) v9 v10) (ntm P 66) #[11, 12] asg66 bod66 d))
    (h5 : H.get b5 = some (.cells (ints X) 111 false none)) (hX : X.length = 16) (hS : S.length = 16) (hB : B.length = 16) (mX : Mild X) (mB : Mild B) (n5 : b5 ≠ lb) (hln : lb < n) (h5n : b5 < n) :
    ∃ Z H', PlusTo X B Z 8 ∧ (∀ k : Value → Hp → Nat → Option ρ, callVK P (cal (L + 2)) (.func (.yield lb) #[] #[]) [q0, .agg ⟨ints (nestL y S B)⟩] H n k = k (.bool true) H' (n + 1)) ∧ H'.get lb = H.get lb ∧
      H'.get b5 = some (.cells (ints Z) 111 false none) ∧ ∀ b, b < n → b ≠ lb → b ≠ b5 → H'.get b = H.get b := by
  obtain ⟨Z, hZ, hplus⟩ := plus_call (ρ := Ex × St) L hX hB mX mB
  have lens : (ints (nestL y S B)).length = 33 := by rw [ints_length, nest_cells hS hB]
  have hpar : paramsT (T66 v0 v1 v3 v4 (.pointer (some ⟨b5, 0, none⟩)) v9 v10) (ntm P 66) (#[11, 12] : Array Tmp).toList [q0, .agg ⟨ints (nestL y S B)⟩] = some (((T66 v0 v1 v3 v4 (.pointer (some ⟨b5, 0, none⟩)) v9 v10).set 11 (some q0)).set 12 (some (.agg ⟨ints (nestL y S B)⟩))) := by
    rw [ntm66]; rfl
  generalize hT : T66 v0 v1 v3 v4 (.pointer (some ⟨b5, 0, none⟩)) v9 v10 = T at hl hpar
  obtain ⟨H1, k1, k2, k3⟩ := spill (P := P) (ρ := Ex × St) (H := H) (n := n) (L := ints (nestL y S B)) zero113 (by show (ints (nestL 0 zeros zeros)).length = 33; rw [ints_length, nest_cells zeros_len zeros_len]) sz113 lens (ints_leaf _)
  have hasg : (cal (L + 2)).body lb 66 asg66 { T := (T.set 11 (some q0)).set 12 (some (.agg ⟨ints (nestL y S B)⟩)), H, n, D := [] } = some (.norm, { T := ((T.set 11 (some q0)).set 12 (some (.agg ⟨ints (nestL y S B)⟩))).set 7 (some (.pointer (some ⟨n, 0, none⟩))), H := H1, n := n + 1, D := [] }) := by
    rw [← hT, asg66_eq, k3]
  have hl1 := (k1 lb hln).trans hl
  have h51 := (k1 b5 h5n).trans h5
  have hrdy : isReady H1 lb = true := by unfold isReady; rw [hl1]
  have hpen : pendingOf H1 lb = none := by unfold pendingOf; rw [hl1]
  have hbusy : setLoop H1 lb .busy none = some (H1.set lb (some (.loop .busy none 66 T (ntm P 66) #[11, 12] asg66 bod66 d))) := by unfold setLoop; rw [hl1]
  have g5 : (H1.set lb (some (.loop .busy none 66 T (ntm P 66) #[11, 12] asg66 bod66 d))).get b5 = some (.cells (ints X) 111 false none) := by rw [Tr.get_set, if_neg n5]; exact h51
  have g7 : (H1.set lb (some (.loop .busy none 66 T (ntm P 66) #[11, 12] asg66 bod66 d))).get n = some (.cells (ints (nestL y S B)) 113 false none) := by rw [Tr.get_set, if_neg (by omega)]; exact k2
  have gl : (H1.set lb (some (.loop .busy none 66 T (ntm P 66) #[11, 12] asg66 bod66 d))).get lb = some (.loop .busy none 66 T (ntm P 66) #[11, 12] asg66 bod66 d) := by rw [Tr.get_set, if_pos rfl]
  have ho : ∀ b, b ≠ lb → (H1.set lb (some (.loop .busy none 66 T (ntm P 66) #[11, 12] asg66 bod66 d))).get b = H1.get b := fun b hb => by rw [Tr.get_set, if_neg hb]
  generalize H1.set lb (some (.loop .busy none 66 T (ntm P 66) #[11, 12] asg66 bod66 d)) = H2 at hbusy g5 g7 gl ho
  have hnb : loadV P H2 111 ⟨n, 0 + 17, none⟩ = some (.agg ⟨ints B⟩) := by
    have := loadV_agg (P := P) (k := 17) (cells_at g7) agg111 sz111 (by rw [lens]; omega) (ints_noHole _)
    have e : ((ints (nestL y S B)).drop 17).take 16 = ints B := by
      rw [ints_cut]
      congr 1
      unfold nestL
      rw [List.drop_succ_cons, List.drop_left' hS, ← hB, List.take_length]
    rw [e] at this
    exact this
  have lX : (ints X).length = 16 := by rw [ints_length, hX]
  have lZ : (ints Z).length = 16 := by rw [ints_length, hZ.len]
  have hst := storeN_all (vs := ints Z) g5 (by rw [lX, lZ]) (ints_leaf _)
  have q5 : (H2.set b5 (some (.cells (ints Z) 111 false none))).get b5 = some (.cells (ints Z) 111 false none) := by rw [Tr.get_set, if_pos rfl]
  have ql : (H2.set b5 (some (.cells (ints Z) 111 false none))).get lb = some (.loop .busy none 66 T (ntm P 66) #[11, 12] asg66 bod66 d) := by rw [Tr.get_set, if_neg (Ne.symm n5)]; exact gl
  have qo : ∀ b, b ≠ lb → b ≠ b5 → (H2.set b5 (some (.cells (ints Z) 111 false none))).get b = H1.get b := fun b hb hb5 => by rw [Tr.get_set, if_neg hb5]; exact ho b hb
  have hbody : ∃ T', (cal (L + 2)).body lb 66 bod66 { T := ((T.set 11 (some q0)).set 12 (some (.agg ⟨ints (nestL y S B)⟩))).set 7 (some (.pointer (some ⟨n, 0, none⟩))), H := H2, n := n + 1, D := [] } = some (.norm, { T := T', H := H2.set b5 (some (.cells (ints Z) 111 false none)), n := n + 1, D := [] }) := by
    rw [← hT, bod66_eq (L + 1), addrV_eq, bindO_some, load_all g5 agg111 sz111 lX, bindO_some, fa113_2, bindO_some, addrV_eq, bindO_some, hnb, bindO_some, hplus, storeP_agg sz111 lZ, hst, bindO_some]
    exact ⟨_, rfl⟩
  generalize H2.set b5 (some (.cells (ints Z) 111 false none)) = H3 at q5 ql qo hbody
  obtain ⟨T', hbody⟩ := hbody
  have hend : setLoop H3 lb .ready none = some (H3.set lb (some (.loop .ready none 66 T (ntm P 66) #[11, 12] asg66 bod66 d))) := by unfold setLoop; rw [ql]
  refine ⟨Z, H3.set lb (some (.loop .ready none 66 T (ntm P 66) #[11, 12] asg66 bod66 d)), hZ, fun k => ?_, by rw [Tr.get_set, if_pos rfl, hl], by rw [Tr.get_set, if_neg n5]; exact q5, fun b hbn hb hb5 => by rw [Tr.get_set, if_neg hb, qo b hb hb5]; exact k1 b hbn⟩
  show stK (yieldF (fun | some l => (cal (L + 2)).body l | none => fun _ _ _ => none) P lb [q0, .agg ⟨ints (nestL y S B)⟩] (bare H n)) k = _
  have hy : yieldF (fun | some l => (cal (L + 2)).body l | none => fun _ _ _ => none) P lb [q0, .agg ⟨ints (nestL y S B)⟩] (bare H n) = some (.bool true, { bare H n with H := H3.set lb (some (.loop .ready none 66 T (ntm P 66) #[11, 12] asg66 bod66 d)), n := n + 1 }) := by
    unfold yieldF
    have hb : Nat.beq (ntm P 66) (ntm P 66) = true := Nat.beq_refl _
    have hx : exCode .norm = some none := rfl
    simp only [bare, hl, hb, hpar, hasg, hrdy, hpen, hbusy, hbody, hx, Option.isNone_none, if_true, hend]
  rw [hy]
  rfl
end Go.Proofs.Ytgojjellogiglaa.spec
end
section
namespace Go.Proofs.Ytgojjellogiglaa.spec
open Go Go.Ev Go.Proofs.Ytgojjellogiglaa.nestFits Go.Proofs.Ytgojjellogiglaa.G
set_option maxRecDepth 100000
variable {ρ : Type}
def KindsIn (L : List Int) (np nk : Nat) : Prop := ∀ i, i < 8 → L.getD i 0 = -1 ∨ (i < np ∧ ∃ kd : Nat, kd < nk ∧ L.getD i 0 = kd)
theorem iter104_loop (c : Cal) (k : Nat) (yv : Value) (sb g np nj nk : Nat) (js ks L : List Int) (hL : L.length = 8) (hK : KindsIn L np nk) (hnp : np ≤ 8) (hnk : nk ≤ 3) (Inv : Nat → Hp → Nat → Prop)
    (hR : ∀ i H n, Inv i H n → loadV P H 105 ⟨sb, 0, none⟩ = some (.pointer (some ⟨g, 0, none⟩)) ∧ ∀ p kd, p < np → kd < nk → ∃ B, BoundsTo (ks.getD (kd * 5) 0) (shP js ks nj np p kd) B 8 ∧ loadV P H 113 ⟨g, 0 + 67 + p * 99 + kd * 33, none⟩ = some (.agg ⟨ints (nestL (ks.getD (kd * 5) 0) (shP js ks nj np p kd) B)⟩))
    (hY : ∀ (i : Nat) (H : Hp) (n kd : Nat) (B : List Int), Inv i H n → i < np → kd < nk → L.getD i 0 = kd → BoundsTo (ks.getD (kd * 5) 0) (shP js ks nj np i kd) B 8 →
      ∃ H' n', (∀ k : Value → Hp → Nat → Res, callVK P c yv [.int .i64 i, .agg ⟨ints (nestL (ks.getD (kd * 5) 0) (shP js ks nj np i kd) B)⟩] H n k = k (.bool true) H' n') ∧ Inv (i + 1) H' n')
    (hSkip : ∀ (i : Nat) (H : Hp) (n : Nat), Inv i H n → L.getD i 0 = -1 → Inv (i + 1) H n) : ∀ (m i : Nat) (H : Hp) (n : Nat), Inv i H n → i ≤ 8 → 8 - i ≤ m →
    ∃ H' n', S104_1 c k m yv (.pointer (some ⟨sb, 0, none⟩)) (.agg ⟨ints L⟩) (.int .i64 i) H n = some (.tuple ⟨[]⟩, H', n') ∧ Inv 8 H' n' := by
  have body : ∀ (b1 : Value → Value → Value → Value → Hp → Nat → Res) (m i : Nat) (H : Hp) (n : Nat), Inv i H n → i ≤ 8 →
      (∀ H' n', Inv (i + 1) H' n' → i < 8 → ∃ H2 n2, b1 yv (.pointer (some ⟨sb, 0, none⟩)) (.agg ⟨ints L⟩) (.int .i64 ((i + 1 : Nat) : Int)) H' n' = some (.tuple ⟨[]⟩, H2, n2) ∧ Inv 8 H2 n2) →
      ∃ H' n', C104_1 c k m b1 yv (.pointer (some ⟨sb, 0, none⟩)) (.agg ⟨ints L⟩) (.int .i64 i) H n = some (.tuple ⟨[]⟩, H', n') ∧ Inv 8 H' n' := by
    intro b1 m i H n hI hi ih
    unfold C104_1 B104_1
    rw [binK_some bin_lss, ifK_d]
    by_cases hlt : i < 8
    · have hI1 : I64 ((i : Int) + 1) := by unfold I64; omega
      have hcast : ((i : Int) + 1) = ((i + 1 : Nat) : Int) := by omega
      rw [if_pos (by omega), index121 hL hlt, bindO_some, binK_some bin_neq]
      rcases hK i hlt with h | ⟨hip, kd, hkd, h⟩
      · have hd : decide (L.getD i 0 = -1) = true := decide_eq_true h
        simp only [hd, Bool.not_true, guardK_ft, guardK_u, pickV_f, bindO_some, ifK_f, binK_some (bin_add hI1), hcast]
        exact ih H n (hSkip i H n hI h) hlt
      · have hd : decide (L.getD i 0 = -1) = false := decide_eq_false (by omega)
        obtain ⟨r1, r2⟩ := hR _ _ _ hI
        obtain ⟨B, hB, hn⟩ := r2 i kd hip hkd
        obtain ⟨H1, n1, e1, e2⟩ := hY i H n kd B hI hip hkd h hB
        rw [hd, h]
        simp only [Bool.not_false, guardK_tt, addrV_eq, bindO_some, r1, nil_ptr, fa117_2, at115 _ _ hlt, at114 _ _ (show kd < 3 by omega), hn, e1, not_t, pickV_t, ifK_f, binK_some (bin_add hI1), hcast]
        exact ih H1 n1 e2 hlt
    · rw [if_neg (by omega)]
      have hi' : i = 8 := by omega
      subst hi'
      exact ⟨H, n, rfl, hI⟩
  intro m
  induction m with
  | zero => intro i H n h1 h2 h3; exact body _ 0 i H n h1 h2 (fun _ _ _ h => by omega)
  | succ m ih => intro i H n h1 h2 h3; exact body _ (m + 1) i H n h1 h2 (fun H' n' q1 q2 => ih (i + 1) H' n' q1 (by omega) (by omega))
noncomputable def bsum (js ks L : List Int) (nj np i e q : Nat) : Int := sumTo (fun p => if L.getD p 0 = -1 then 0 else ext (ks.getD ((L.getD p 0).toNat * 5) 0) (shP js ks nj np p (L.getD p 0).toNat) e q) i
theorem ext_mild {y : Int} {S : List Int} (hS : Bounded S) (hy : 0 ≤ y ∧ y ≤ 1000) {e q : Nat} (he : e < 2) : -10000 ≤ ext y S e q ∧ ext y S e q ≤ 10000 := by
  obtain ⟨a1, a2⟩ := hS (q * 2 + e)
  obtain ⟨b1, b2⟩ := hS (q * 2 + (1 - e))
  obtain ⟨c1, c2⟩ := total_range hS (1 - e)
  unfold ext
  match e, he with
  | 0, _ => unfold lim; simp only at *; omega
  | 1, _ => unfold lim; simp only at *; omega
theorem sumTo_mild {f : Nat → Int} {c : Int} (hc : 0 ≤ c) : ∀ {i : Nat}, (∀ k, k < i → -c ≤ f k ∧ f k ≤ c) → -(c * i) ≤ sumTo f i ∧ sumTo f i ≤ c * i
  | 0, _ => by simp [sumTo]
  | i + 1, h => by
    obtain ⟨h1, h2⟩ := sumTo_mild hc (i := i) (fun k hk => h k (by omega))
    obtain ⟨g1, g2⟩ := h i (by omega)
    simp only [sumTo]
    have : c * ((i + 1 : Nat) : Int) = c * i + c := by rw [Int.natCast_add, Int.mul_add]; simp
    omega
theorem bsum_mild {js ks L : List Int} {nj np nk i e q : Nat} (hks : KindsOk ks nk) (hnp : np ≤ 8) (hK : KindsIn L np nk) (hi : i ≤ 8) (he : e < 2) : -1000000 ≤ bsum js ks L nj np i e q ∧ bsum js ks L nj np i e q ≤ 1000000 := by
  have h := sumTo_mild (f := fun p => if L.getD p 0 = -1 then 0 else ext (ks.getD ((L.getD p 0).toNat * 5) 0) (shP js ks nj np p (L.getD p 0).toNat) e q) (c := 10000) (by omega) (i := i) (fun p hp => by
    split
    · omega
    · rename_i hne
      rcases hK p (by omega) with h | ⟨hip, kd, hkd, h⟩
      · exact absurd h hne
      · rw [h, Int.toNat_natCast]
        obtain ⟨y1, _, _⟩ := hks kd hkd
        exact ext_mild (shP_bounded hks hkd hnp hip) y1 he)
  unfold bsum
  omega
def RowIs (X : List Int) (js ks L : List Int) (nj np i : Nat) : Prop := X.length = 16 ∧ ∀ q, q < 8 → X.getD (q * 2) 0 = bsum js ks L nj np i 0 q ∧ X.getD (q * 2 + 1) 0 = bsum js ks L nj np i 1 q
theorem row_mild {X : List Int} (hl : X.length = 16) (h : ∀ q, q < 8 → (-1000000 ≤ X.getD (q * 2) 0 ∧ X.getD (q * 2) 0 ≤ 1000000) ∧ (-1000000 ≤ X.getD (q * 2 + 1) 0 ∧ X.getD (q * 2 + 1) 0 ≤ 1000000)) : Mild X := by
  intro k
  by_cases hk : k < 16
  · obtain ⟨h1, h2⟩ := h (k / 2) (by omega)
    rcases Nat.mod_two_eq_zero_or_one k with z | z
    · rw [show k / 2 * 2 = k by omega] at h1; exact h1
    · rw [show k / 2 * 2 + 1 = k by omega] at h2; exact h2
  · rw [List.getD_eq_getElem?_getD, List.getElem?_eq_none (by omega)]
    simp
theorem bounds_spec (l : Nat) {H : Hp} {n g np nj nk : Nat} {f : Nat → Value} {js ks L : List Int} (hgn : g < n) (hf : CellsF H g 859 117 f) (hn : ∀ p kd, p < np → kd < nk → NestAt f js ks nj np p kd) (hks : KindsOk ks nk) (hnp : np ≤ 8) (hnk : nk ≤ 3) (hL : L.length = 8) (hK : KindsIn L np nk) :
    ∃ X, RowIs X js ks L nj np 8 ∧ Ret ((cal (l + 4)).call 66 [.pointer (some ⟨g, 0, none⟩), .agg ⟨ints L⟩] H n) n H (.agg ⟨ints X⟩) := by
  have lens : (ints L).length = 8 := by rw [ints_length, hL]
  rw [call66, pre66]
  simp only [boxK_eq, allocK_eq zero111, cellsV, ptr]
  generalize hH0 : ((H.set n (some (.cells (ints L) 121 false none))).set (n + 1) (some (.cells (ints (List.replicate 16 0)) 111 false none))).set (n + 1 + 1) (some (.cells (ints (List.replicate 16 0)) 111 false none)) = H0
  have k0 : Keep n H H0 := fun b hb => by rw [← hH0, Tr.get_set, if_neg (by omega), Tr.get_set, if_neg (by omega), Tr.get_set, if_neg (by omega)]
  have p0 : H0.get n = some (.cells (ints L) 121 false none) := by rw [← hH0, Tr.get_set, if_neg (by omega), Tr.get_set, if_neg (by omega), Tr.get_set, if_pos rfl]
  have p1 : H0.get (n + 1) = some (.cells (ints (List.replicate 16 0)) 111 false none) := by rw [← hH0, Tr.get_set, if_neg (by omega), Tr.get_set, if_pos rfl]
  have p2 : H0.get (n + 1 + 1) = some (.cells (ints (List.replicate 16 0)) 111 false none) := by rw [← hH0, Tr.get_set, if_pos rfl]
  clear hH0
  rw [addrV_eq, bindO_some, load_all p0 agg121 sz121 lens, bindO_some, placed_call (l + 2), range66]
  generalize hH1 : (H0.set (n + 1 + 1 + 1) (some (.cells [.pointer (some ⟨g, 0, none⟩)] 105 false none))).set (n + 1 + 1 + 1 + 1) (some (.cells (ints L) 121 false none)) = H1
  have k1 : ∀ b, b < n + 1 + 1 + 1 → H1.get b = H0.get b := fun b hb => by rw [← hH1, Tr.get_set, if_neg (by omega), Tr.get_set, if_neg (by omega)]
  have q3 : H1.get (n + 1 + 1 + 1) = some (.cells [.pointer (some ⟨g, 0, none⟩)] 105 false none) := by rw [← hH1, Tr.get_set, if_neg (by omega), Tr.get_set, if_pos rfl]
  have q4 : H1.get (n + 1 + 1 + 1 + 1) = some (.cells (ints L) 121 false none) := by rw [← hH1, Tr.get_set, if_pos rfl]
  clear hH1
  generalize hT : T66 (.pointer (some ⟨g, 0, none⟩)) (.agg ⟨ints L⟩) (.pointer (some ⟨n, 0, none⟩)) (.pointer (some ⟨n + 1, 0, none⟩)) (.pointer (some ⟨n + 1 + 1, 0, none⟩)) (.agg ⟨ints L⟩) (.func (.func 104) ⟨[]⟩ ⟨[.pointer (some ⟨n + 1 + 1 + 1 + 1, 0, none⟩), .pointer (some ⟨n + 1 + 1 + 1, 0, none⟩)]⟩) = T
  have hc104 : ∀ (a b c : Value) (H : Hp) (n : Nat) (k : Value → Hp → Nat → Res), pureV b = false → callFK P (cal (l + 3)) 104 [a, b, c] H n k = bindO (C104_0 (cal (l + 2)) KK a b c H n) fun r => k r.1 r.2.1 r.2.2 := by
    intro a b c H n k hb
    unfold callFK
    have : (flatF P 104 && pureL [a, b, c]) = false := by simp [pureL, hb]
    rw [this, call104]
  rw [hc104 _ _ _ _ _ _ rfl]
  generalize hH2 : (H1.set (n + 1 + 1 + 1 + 2) (some .deferred)).set (n + 1 + 1 + 1 + 2 + 1) (some (.loop .ready none 66 T (ntm P 66) #[11, 12] asg66 bod66 (n + 1 + 1 + 1 + 2))) = H2
  have r1 : ∀ b, b < n + 1 + 1 + 1 + 2 → H2.get b = H1.get b := fun b hb => by rw [← hH2, Tr.get_set, if_neg (by omega), Tr.get_set, if_neg (by omega)]
  have r2 : H2.get (n + 1 + 1 + 1 + 2) = some .deferred := by rw [← hH2, Tr.get_set, if_neg (by omega), Tr.get_set, if_pos rfl]
  have r3 : H2.get (n + 1 + 1 + 1 + 2 + 1) = some (.loop .ready none 66 T (ntm P 66) #[11, 12] asg66 bod66 (n + 1 + 1 + 1 + 2)) := by rw [← hH2, Tr.get_set, if_pos rfl]
  clear hH2
  have hg2 : H2.get g = H.get g := by rw [r1 _ (by omega), k1 _ (by omega), k0 _ hgn]
  have l104 : loadV P H2 121 ⟨n + 1 + 1 + 1 + 1, 0, none⟩ = some (.agg ⟨ints L⟩) := load_all (by rw [r1 _ (by omega)]; exact q4) agg121 sz121 lens
  have base : RowIs (List.replicate 16 0) js ks L nj np 0 := ⟨rfl, fun q hq => by
    have z : ∀ k : Nat, (List.replicate 16 (0 : Int)).getD k 0 = 0 := by
      intro k
      rw [List.getD_eq_getElem?_getD, List.getElem?_replicate]
      split <;> rfl
    rw [z, z]; exact ⟨rfl, rfl⟩⟩
  obtain ⟨H3, n3, e3, i0, i1, X, i2, i3, i4⟩ := iter104_loop (cal (l + 2)) KK (.func (.yield (n + 1 + 1 + 1 + 2 + 1)) #[] #[]) (n + 1 + 1 + 1) g np nj nk js ks L hL hK hnp hnk
    (fun i Hc nc => n + 1 + 1 + 1 + 2 + 2 ≤ nc ∧ Hc.get (n + 1 + 1 + 1 + 2 + 1) = some (.loop .ready none 66 T (ntm P 66) #[11, 12] asg66 bod66 (n + 1 + 1 + 1 + 2)) ∧ ∃ X, Hc.get (n + 1 + 1) = some (.cells (ints X) 111 false none) ∧ (i ≤ 8 → RowIs X js ks L nj np i) ∧ ∀ b, b < n + 1 + 1 + 1 + 2 + 2 → b ≠ n + 1 + 1 + 1 + 2 + 1 → b ≠ n + 1 + 1 → Hc.get b = H2.get b)
    (fun i Hc nc ⟨_, _, X, _, _, h⟩ => by
      refine ⟨loadV_scalar (o := 0) (k := 0) (cells_at (by rw [h _ (by omega) (by omega) (by omega), r1 _ (by omega)]; exact q3)) agg105 rfl rfl rfl, fun p kd hp hkd => ?_⟩
      have cg : CellsF Hc g 859 117 f := by
        obtain ⟨c, e1, e2, e3⟩ := hf
        exact ⟨c, by rw [h _ (by omega) (by omega) (by omega), hg2]; exact e1, e2, e3⟩
      exact nest_load cg (hn p kd hp hkd) (by omega) (by omega))
    (fun i Hc nc kd B ⟨h1, h2, X, h3, h4, h5⟩ hip hkd hLi hB => by
      have hX := h4 (by omega)
      obtain ⟨y1, _, _⟩ := hks kd hkd
      have hsb := shP_bounded (js := js) (nj := nj) hks hkd hnp hip
      have mX : Mild X := row_mild hX.1 fun q hq => by
        obtain ⟨a, b⟩ := hX.2 q hq
        rw [a, b]; exact ⟨bsum_mild hks hnp hK (by omega) (by omega), bsum_mild hks hnp hK (by omega) (by omega)⟩
      have mB : Mild B := row_mild hB.1 fun q hq => by
        obtain ⟨a, b⟩ := hB.2 q hq
        have e0 := ext_mild hsb y1 (e := 0) (q := q) (by omega)
        have e1 := ext_mild hsb y1 (e := 1) (q := q) (by omega)
        rw [a, b]; omega
      rw [← hT] at h2
      obtain ⟨Z, H', z1, z2, z3, z4, z5⟩ := yield66 (ρ := Value × Hp × Nat) l (n := nc) (q0 := .int .i64 i) (y := ks.getD (kd * 5) 0) h2 h3 hX.1 (shP_len ..) hB.1 mX mB (by omega) (by omega) (by omega)
      refine ⟨H', nc + 1, z2, by omega, by rw [z3, h2, hT], Z, z4, fun _ => ⟨z1.len, fun q hq => ?_⟩, fun b hb hb1 hb2 => (z5 b (by omega) hb1 hb2).trans (h5 b hb hb1 hb2)⟩
      obtain ⟨a1, a2⟩ := z1.below q hq
      obtain ⟨b1, b2⟩ := hX.2 q hq
      obtain ⟨c1, c2⟩ := hB.2 q hq
      have hne : ¬ L.getD i 0 = -1 := by omega
      rw [a1, a2, b1, b2, c1, c2]
      unfold bsum
      simp only [sumTo]
      rw [if_neg hne, if_neg hne, hLi, Int.toNat_natCast]
      exact ⟨rfl, rfl⟩)
    (fun i Hc nc ⟨h1, h2, X, h3, h4, h5⟩ hLi => ⟨h1, h2, X, h3, fun h8 => ⟨(h4 (by omega)).1, fun q hq => by
      obtain ⟨b1, b2⟩ := (h4 (by omega)).2 q hq
      rw [b1, b2]
      unfold bsum
      simp only [sumTo]
      rw [if_pos hLi, if_pos hLi]
      omega⟩, h5⟩)
    KK 0 H2 (n + 1 + 1 + 1 + 2 + 2) ⟨Nat.le_refl _, r3, List.replicate 16 0, by rw [r1 _ (by omega), k1 _ (by omega)]; exact p2, fun _ => base, fun _ _ _ _ => rfl⟩ (by omega) (by unfold KK; omega)
  have e3' : C104_0 (cal (l + 2)) KK (.func (.yield (n + 1 + 1 + 1 + 2 + 1)) #[] #[]) (.pointer (some ⟨n + 1 + 1 + 1 + 1, 0, none⟩)) (.pointer (some ⟨n + 1 + 1 + 1, 0, none⟩)) H2 (n + 1 + 1 + 1 + 2 + 2) = some (.tuple ⟨[]⟩, H3, n3) := by
    unfold C104_0 B104_0
    rw [addrV_eq, bindO_some, l104, bindO_some]
    exact e3
  rw [e3', bindO_some]
  have hout : rangeOut (n + 1 + 1 + 1 + 2 + 1) { T := T, H := H3, n := n3, D := [n + 1 + 1 + 1 + 2] } = some (.norm, { T := T, H := H3.set (n + 1 + 1 + 1 + 2 + 1) (some (.loop .exhausted none 66 T (ntm P 66) #[11, 12] asg66 bod66 (n + 1 + 1 + 1 + 2))), n := n3, D := [n + 1 + 1 + 1 + 2] }) := by
    unfold rangeOut
    simp only [i1]
  rw [hout]
  show ∃ X, RowIs X js ks L nj np 8 ∧ Ret (K66 (cal (l + 3)) KK T (H3.set (n + 1 + 1 + 1 + 2 + 1) (some (.loop .exhausted none 66 T (ntm P 66) #[11, 12] asg66 bod66 (n + 1 + 1 + 1 + 2)))) n3 [n + 1 + 1 + 1 + 2]) n H (.agg ⟨ints X⟩)
  have hRow := i3 (by omega)
  have lX : (ints X).length = 16 := by rw [ints_length, hRow.1]
  generalize hH4 : H3.set (n + 1 + 1 + 1 + 2 + 1) (some (.loop .exhausted none 66 T (ntm P 66) #[11, 12] asg66 bod66 (n + 1 + 1 + 1 + 2))) = H4
  have o1 : ∀ b, b < n + 1 + 1 + 1 + 2 + 2 → b ≠ n + 1 + 1 + 1 + 2 + 1 → b ≠ n + 1 + 1 → H4.get b = H2.get b := fun b hb hb1 hb2 => by rw [← hH4, Tr.get_set, if_neg hb1]; exact i4 b hb hb1 hb2
  have o2 : H4.get (n + 1 + 1) = some (.cells (ints X) 111 false none) := by rw [← hH4, Tr.get_set, if_neg (by omega)]; exact i2
  clear hH4 hout
  have o3 : H4.get (n + 1) = some (.cells (ints (List.replicate 16 0)) 111 false none) := by rw [o1 _ (by omega) (by omega) (by omega), r1 _ (by omega), k1 _ (by omega)]; exact p1
  have o4 : H4.get (n + 1 + 1 + 1 + 2) = some .deferred := by rw [o1 _ (by omega) (by omega) (by omega)]; exact r2
  refine ⟨X, hRow, ?_⟩
  rw [← hT, post66, addrV_eq, bindO_some, load_all o2 agg111 sz111 lX, bindO_some, storeP_agg sz111 lX, storeN_all o3 (by rw [lX]; rfl) (ints_leaf _), bindO_some]
  generalize hH6 : H4.set (n + 1) (some (.cells (ints X) 111 false none)) = H6
  have u1 : H6.get (n + 1) = some (.cells (ints X) 111 false none) := by rw [← hH6, Tr.get_set, if_pos rfl]
  have u2 : ∀ b, b ≠ n + 1 → H6.get b = H4.get b := fun b hb => by rw [← hH6, Tr.get_set, if_neg hb]
  clear hH6
  have ht : takeD H6 [n + 1 + 1 + 1 + 2] = some (H6.set (n + 1 + 1 + 1 + 2) none) := by
    have : H6.get (n + 1 + 1 + 1 + 2) = some .deferred := by rw [u2 _ (by omega)]; exact o4
    unfold takeD
    simp only [this]
    rfl
  rw [ht]
  show Ret (bindO (resV P ((Tr.nil : Tm).set 4 (some (.pointer (some ⟨n + 1, 0, none⟩)))) (H6.set (n + 1 + 1 + 1 + 2) none) results66) fun vs => some (oneV vs, H6.set (n + 1 + 1 + 1 + 2) none, n3)) n H _
  rw [res66, load_all (t := 111) (s := 16) (L := ints X) (e := 111) (vec := none) (by rw [Tr.get_set, if_neg (by omega)]; exact u1) agg111 sz111 lX]
  refine ⟨_, _, rfl, by omega, fun b hb => ?_⟩
  rw [Tr.get_set, if_neg (by omega), u2 _ (by omega), o1 _ (by omega) (by omega) (by omega), r1 _ (by omega), k1 _ (by omega), k0 _ hb]
end Go.Proofs.Ytgojjellogiglaa.spec
end
section
namespace Go.Proofs.Ytgojjellogiglaa.spec
open Go Go.Ev Go.Proofs.Ytgojjellogiglaa.nestFits Go.Proofs.Ytgojjellogiglaa.G
set_option maxRecDepth 100000
variable {ρ : Type}
theorem laid_kinds {js ks ls : List Int} {nj np nk : Nat} (hl : ls.length = np) (hok : laidOk js ks ls nj np nk) : KindsIn (laidL ls np) np nk := by
  intro i hi
  rcases Nat.lt_or_ge i np with h | h
  · rw [laidL_in hl h]
    rcases hok i h with q | ⟨q1, q2, _⟩
    · exact .inl q
    · exact .inr ⟨h, (ls.getD i 0).toNat, by omega, by omega⟩
  · exact .inl (laidL_out hl h hi)
theorem limit_loads {H : Hp} {n g np p : Nat} {f : Nat → Value} {x y z : Value} {ps js X : List Int} {nj b : Nat} (hf : CellsF H g 859 117 f) (hs : SiteF f x y z js nj) (hx : SliceR H n 2 x np ps) (hp : p < np) (hnp : np ≤ 8) (hb : H.get b = some (.cells (ints X) 111 false none)) (hX : X.length = 16) :
    loadV P H 31 ⟨g, 0 + 0 + 0, none⟩ = some x ∧ loadV P H 3 ⟨b, 0 + p * 2 + 0, none⟩ = some (.int .i64 (X.getD (p * 2) 0)) ∧ loadV P H 3 ⟨b, 0 + p * 2 + 1, none⟩ = some (.int .i64 (X.getD (p * 2 + 1) 0)) ∧
      ∃ rb o, indexAddrV P 31 x (.int .i64 p) = some (.pointer (some ⟨rb, o, none⟩)) ∧ loadV P H 3 ⟨rb, o + 0, none⟩ = some (.int .i64 (ps.getD (p * 2) 0)) ∧ loadV P H 3 ⟨rb, o + 1, none⟩ = some (.int .i64 (ps.getD (p * 2 + 1) 0)) := by
  refine ⟨?_, ?_, ?_, ?_⟩
  · have := hf.load (P := P) (k := 0) agg31 (by omega)
    rw [hs.x] at this; exact this
  · rw [show 0 + p * 2 + 0 = p * 2 by omega]; exact load_int_at hb (by omega)
  · rw [show 0 + p * 2 + 1 = p * 2 + 1 by omega]; exact load_int_at hb (by omega)
  · obtain ⟨rb, o, hix, _, hc⟩ := hx.at_ und31 sz90 hp
    have hl : p * 2 + 2 ≤ ps.length := by rw [hx.1]; omega
    refine ⟨rb, o + p * 2, hix, ?_, ?_⟩
    · rw [show o + p * 2 + 0 = o + (p * 2) by omega]; exact loadV_int hc agg3 (ints_get (getD_some (by omega)))
    · rw [show o + p * 2 + 1 = o + (p * 2 + 1) by omega]; exact loadV_int hc agg3 (ints_get (getD_some (by omega)))
theorem call68 (l : Nat) (a b c : Value) (H : Hp) (n : Nat) : (cal (l + 1)).call 68 [a, b, c] H n = C68_0 (cal l) KK a b c H n := by kernel_rfl
theorem call69 (l : Nat) (a b c : Value) (H : Hp) (n : Nat) : (cal (l + 1)).call 69 [a, b, c] H n = C69_0 (cal l) KK a b c H n := by kernel_rfl
theorem missed_call (l : Nat) {H : Hp} {n g np p : Nat} {f : Nat → Value} {x y z : Value} {ps js X : List Int} {nj : Nat} (hgn : g < n) (hf : CellsF H g 859 117 f) (hs : SiteF f x y z js nj) (hx : SliceR H n 2 x np ps) (hp : p < np) (hnp : np ≤ 8) (hX : X.length = 16) :
    ∃ H' n', (∀ k : Value → Hp → Nat → Option ρ, callFK P (cal (l + 1)) 68 [.pointer (some ⟨g, 0, none⟩), .agg ⟨ints X⟩, .int .i64 p] H n k = k (.bool (decide (X.getD (p * 2) 0 < ps.getD (p * 2) 0))) H' n') ∧ n ≤ n' ∧ Keep n H H' := by
  have hk : Keep n H (H.set n (some (.cells (ints X) 111 false none))) := (Keep.refl n H).set (Nat.le_refl _) _
  have hb : (H.set n (some (.cells (ints X) 111 false none))).get n = some (.cells (ints X) 111 false none) := by rw [Tr.get_set, if_pos rfl]
  refine ⟨H.set n (some (.cells (ints X) 111 false none)), n + 1, fun k => ?_, by omega, hk⟩
  unfold callFK
  have : (flatF P 68 && pureL [.pointer (some ⟨g, 0, none⟩), .agg ⟨ints X⟩, .int .i64 p]) = false := by rw [Bool.and_eq_false_iff]; exact .inr rfl
  rw [this, call68]
  unfold C68_0 B68_0
  rw [boxK_eq]
  simp only [cellsV, ptr]
  obtain ⟨a1, a2, a3, rb, o, a4, a5, a6⟩ := limit_loads (hf.keep hk hgn) hs ((hx.keep hk (Nat.le_refl _)).up (show n ≤ n + 1 by omega)) hp hnp hb hX
  rw [at111 n 0 (by omega), bindO_some, fa53_0, bindO_some, addrV_eq, bindO_some, a2, bindO_some, nil_ptr, bindO_some, fa117_0, bindO_some, fa35_0, bindO_some, addrV_eq, bindO_some, a1, bindO_some, a4, bindO_some, fa90_0, bindO_some, addrV_eq, bindO_some, a5, bindO_some, binK_some bin_lss]
  rfl
theorem over_call (l : Nat) {H : Hp} {n g np p : Nat} {f : Nat → Value} {x y z : Value} {ps js X : List Int} {nj : Nat} (hgn : g < n) (hf : CellsF H g 859 117 f) (hs : SiteF f x y z js nj) (hx : SliceR H n 2 x np ps) (hp : p < np) (hnp : np ≤ 8) (hX : X.length = 16) :
    ∃ H' n', (∀ k : Value → Hp → Nat → Option ρ, callFK P (cal (l + 1)) 69 [.pointer (some ⟨g, 0, none⟩), .agg ⟨ints X⟩, .int .i64 p] H n k = k (.bool (decide (ps.getD (p * 2 + 1) 0 < X.getD (p * 2 + 1) 0))) H' n') ∧ n ≤ n' ∧ Keep n H H' := by
  have hk : Keep n H (H.set n (some (.cells (ints X) 111 false none))) := (Keep.refl n H).set (Nat.le_refl _) _
  have hb : (H.set n (some (.cells (ints X) 111 false none))).get n = some (.cells (ints X) 111 false none) := by rw [Tr.get_set, if_pos rfl]
  refine ⟨H.set n (some (.cells (ints X) 111 false none)), n + 1, fun k => ?_, by omega, hk⟩
  unfold callFK
  have : (flatF P 69 && pureL [.pointer (some ⟨g, 0, none⟩), .agg ⟨ints X⟩, .int .i64 p]) = false := by rw [Bool.and_eq_false_iff]; exact .inr rfl
  rw [this, call69]
  unfold C69_0 B69_0
  rw [boxK_eq]
  simp only [cellsV, ptr]
  obtain ⟨a1, a2, a3, rb, o, a4, a5, a6⟩ := limit_loads (hf.keep hk hgn) hs ((hx.keep hk (Nat.le_refl _)).up (show n ≤ n + 1 by omega)) hp hnp hb hX
  rw [at111 n 0 (by omega), bindO_some, fa53_1, bindO_some, addrV_eq, bindO_some, a3, bindO_some, nil_ptr, bindO_some, fa117_0, bindO_some, fa35_0, bindO_some, addrV_eq, bindO_some, a1, bindO_some, a4, bindO_some, fa90_1, bindO_some, addrV_eq, bindO_some, a6, bindO_some, binK_some bin_gtr]
  rfl
theorem bounds_call (l : Nat) {H : Hp} {n g np nj nk : Nat} {f : Nat → Value} {js ks L : List Int} (hgn : g < n) (hf : CellsF H g 859 117 f) (hn : ∀ p kd, p < np → kd < nk → NestAt f js ks nj np p kd) (hks : KindsOk ks nk) (hnp : np ≤ 8) (hnk : nk ≤ 3) (hL : L.length = 8) (hK : KindsIn L np nk) :
    ∃ X H' n', RowIs X js ks L nj np 8 ∧ (∀ k : Value → Hp → Nat → Option ρ, callFK P (cal (l + 4)) 66 [.pointer (some ⟨g, 0, none⟩), .agg ⟨ints L⟩] H n k = k (.agg ⟨ints X⟩) H' n') ∧ n ≤ n' ∧ Keep n H H' := by
  obtain ⟨X, hX, H', n', e, h1, h2⟩ := bounds_spec l hgn hf hn hks hnp hnk hL hK
  refine ⟨X, H', n', hX, fun k => ?_, h1, h2⟩
  unfold callFK
  have : (flatF P 66 && pureL [.pointer (some ⟨g, 0, none⟩), .agg ⟨ints L⟩]) = false := by rw [Bool.and_eq_false_iff]; exact .inr rfl
  rw [this, e]
  rfl
end Go.Proofs.Ytgojjellogiglaa.spec
end
section
namespace Go.Proofs.Ytgojjellogiglaa.spec
open Go Go.Ev Go.Proofs.Ytgojjellogiglaa.nestFits Go.Proofs.Ytgojjellogiglaa.G
set_option maxRecDepth 100000
variable {ρ : Type}
theorem push_int {H : Hp} {base n len : Nat} {u : Value} {xs : List Int} (h : VecAt H base n 1 3 u len xs) (hb : base ≤ n) (hlen : len ≤ 1000) (i : Int) :
    ∃ u' H', (∀ k : Value → Hp → Nat → Option ρ, (rowK P 44 1 [(0, .int .i64 i)] H n fun v H n => stK (appendV P (bare H n) 44 44 u v) k) = k u' H' (n + 1 + 1)) ∧ VecAt H' base (n + 1 + 1) 1 3 u' (len + 1) (xs ++ [i]) ∧
      (∀ b, b < n → ¬ blockIs u b → H'.get b = H.get b) ∧ ∀ b, blockIs u' b → n ≤ b := by
  have hrow : CellsAt (H.set n (some (.cells [.int .i64 i] 3 false none))) n 0 (ints [i]) := CellsAt.new
  have hkn : ∀ b, b < n → (H.set n (some (.cells [.int .i64 i] 3 false none))).get b = H.get b := fun b hb => by rw [Tr.get_set, if_neg (by omega)]
  have hv := h.same (H' := H.set n (some (.cells [.int .i64 i] 3 false none))) (show n ≤ n + 1 by omega) fun b hb _ => hkn b hb
  obtain ⟨H', ea, ev, eo⟩ := append_vec (P := P) (t := 44) (t2 := 44) (cap2 := 1) hv sl44 sl44 sz3 by3 zero3 rfl hrow rfl (by omega) (by omega) (by omega) (by omega)
  refine ⟨_, H', fun k => ?_, ev, fun b hb hn => (eo b (by omega) hn).trans (hkn b hb), fun b hb => by rw [slice_new hb]; omega⟩
  unfold rowK
  rw [row44, bindO_some]
  unfold newK stK
  dsimp only
  rw [ea, bindO_some]
  rfl
def listOf (q : Nat → Bool) (i : Nat) : List Int := ((List.range i).filter q).map fun (p : Nat) => (p : Int)
theorem listOf_next (q : Nat → Bool) (i : Nat) : listOf q (i + 1) = listOf q i ++ if q i = true then [(i : Int)] else [] := by
  unfold listOf
  rw [List.range_succ, List.filter_append, List.map_append]
  congr 1
  simp only [List.filter_cons, List.filter_nil]
  split <;> rfl
theorem listOf_small (q : Nat → Bool) (i : Nat) (hi : i ≤ 1000) : (listOf q i).length ≤ i ∧ ∀ x ∈ listOf q i, I64 x := by
  refine ⟨?_, fun x hx => ?_⟩
  · unfold listOf
    rw [List.length_map]
    exact Nat.le_trans (List.length_filter_le ..) (by simp)
  · unfold listOf at hx
    obtain ⟨p, h1, rfl⟩ := List.mem_map.1 hx
    have := List.mem_range.1 (List.mem_filter.1 h1).1
    unfold I64; omega
def missB (X ps : List Int) (p : Nat) : Bool := decide (X.getD (p * 2) 0 < ps.getD (p * 2) 0)
def overB (X ps : List Int) (p : Nat) : Bool := decide (ps.getD (p * 2 + 1) 0 < X.getD (p * 2 + 1) 0)
structure FL (H : Hp) (base n g b9 : Nat) (f : Nat → Value) (X : List Int) (u4 u5 : Value) (q4 q5 : List Int) : Prop where
  site : CellsF H g 859 117 f
  row : H.get b9 = some (.cells (ints X) 111 false none)
  gl : g < base
  bl : b9 < base
  bn : base ≤ n
  v4 : VecAt H base n 1 3 u4 q4.length q4
  v5 : VecAt H base n 1 3 u5 q5.length q5
  off : ∀ k, blockIs u4 k → ¬ blockIs u5 k
theorem FL.keep {H H' : Hp} {base n m g b9 : Nat} {f : Nat → Value} {X : List Int} {u4 u5 : Value} {q4 q5 : List Int} (h : FL H base n g b9 f X u4 u5 q4 q5) (hk : Keep n H H') (hm : n ≤ m) : FL H' base m g b9 f X u4 u5 q4 q5 := by
  obtain ⟨h1, h2, h3, h4, h5, h6, h7, h8⟩ := h
  exact ⟨h1.keep hk (by omega), (hk b9 (by omega)).trans h2, h3, h4, by omega, h6.same hm fun b hb _ => hk b hb, h7.same hm fun b hb _ => hk b hb, h8⟩
end Go.Proofs.Ytgojjellogiglaa.spec
end
section
namespace Go.Proofs.Ytgojjellogiglaa.spec
open Go Go.Ev Go.Proofs.Ytgojjellogiglaa.nestFits Go.Proofs.Ytgojjellogiglaa.G
set_option maxRecDepth 100000
variable {ρ : Type}
theorem holds_loop (l k : Nat) {g b np nj : Nat} {f : Nat → Value} {x y z : Value} {ps js X : List Int} (hs : SiteF f x y z js nj) (hnp : np ≤ 8) (hX : X.length = 16) : ∀ (m i : Nat) (H : Hp) (n : Nat), g < n → b < n → CellsF H g 859 117 f → H.get b = some (.cells (ints X) 111 false none) → SliceR H n 2 x np ps → i ≤ np → np - i ≤ m →
    ∃ r, Ret (S111_1 (cal (l + 1)) k m (.pointer (some ⟨g, 0, none⟩)) (.pointer (some ⟨b, 0, none⟩)) (.int .i64 np) (.int .i64 i) H n) n H (.bool r) ∧ (r = true ↔ ∀ p, i ≤ p → p < np → overB X ps p = false) := by
  have lX : (ints X).length = 16 := by rw [ints_length, hX]
  have body : ∀ (b1 : Value → Value → Value → Value → Hp → Nat → Res) (m i : Nat) (H : Hp) (n : Nat), g < n → b < n → CellsF H g 859 117 f → H.get b = some (.cells (ints X) 111 false none) → SliceR H n 2 x np ps → i ≤ np →
      (∀ H' n', n ≤ n' → Keep n H H' → i < np → ∃ r, Ret (b1 (.pointer (some ⟨g, 0, none⟩)) (.pointer (some ⟨b, 0, none⟩)) (.int .i64 np) (.int .i64 ((i + 1 : Nat) : Int)) H' n') n' H' (.bool r) ∧ (r = true ↔ ∀ p, i + 1 ≤ p → p < np → overB X ps p = false)) →
      ∃ r, Ret (C111_1 (cal (l + 1)) k m b1 (.pointer (some ⟨g, 0, none⟩)) (.pointer (some ⟨b, 0, none⟩)) (.int .i64 np) (.int .i64 i) H n) n H (.bool r) ∧ (r = true ↔ ∀ p, i ≤ p → p < np → overB X ps p = false) := by
    intro b1 m i H n hg hb hf hbx hx hi ih
    unfold C111_1 B111_1
    rw [binK_some bin_lss, ifK_d]
    by_cases hlt : i < np
    · have hI : I64 ((i : Int) + 1) := by unfold I64; omega
      have hcast : ((i : Int) + 1) = ((i + 1 : Nat) : Int) := by omega
      obtain ⟨H2, n2, c1, c2, c3⟩ := over_call (ρ := Value × Hp × Nat) (l + 0) hg hf hs hx hlt hnp hX
      rw [if_pos (by omega), addrV_eq, bindO_some, load_all hbx agg111 sz111 lX, bindO_some, c1]
      cases hd : overB X ps i with
      | true =>
        have hd' : decide (ps.getD (i * 2 + 1) 0 < X.getD (i * 2 + 1) 0) = true := hd
        rw [hd', ifK_t]
        exact ⟨false, ⟨H2, n2, rfl, c2, c3⟩, ⟨fun h => (by cases h), fun h => absurd (h i (Nat.le_refl _) hlt) (by rw [hd]; simp)⟩⟩
      | false =>
        have hd' : decide (ps.getD (i * 2 + 1) 0 < X.getD (i * 2 + 1) 0) = false := hd
        rw [hd', ifK_f, binK_some (bin_add hI), hcast]
        obtain ⟨r, ⟨H3, n3, e1, e2, e3⟩, e4⟩ := ih H2 n2 c2 c3 hlt
        refine ⟨r, ⟨H3, n3, e1, by omega, c3.trans e3 c2⟩, e4.trans ?_⟩
        refine ⟨fun h p q1 q2 => ?_, fun h p q1 q2 => h p (by omega) q2⟩
        rcases Nat.eq_or_lt_of_le q1 with q | q
        · subst q; exact hd
        · exact h p q q2
    · have hi' : i = np := by omega
      subst hi'
      rw [if_neg (by omega)]
      exact ⟨true, ⟨H, n, rfl, Nat.le_refl _, Keep.refl _ _⟩, ⟨fun _ p q1 q2 => by omega, fun _ => rfl⟩⟩
  intro m
  induction m with
  | zero => intro i H n h1 h2 h3 h4 h5 h6 h7; exact body _ 0 i H n h1 h2 h3 h4 h5 h6 (fun _ _ _ _ h => by omega)
  | succ m ih => intro i H n h1 h2 h3 h4 h5 h6 h7; exact body _ (m + 1) i H n h1 h2 h3 h4 h5 h6 (fun H' n' q1 q2 q3 => ih (i + 1) H' n' (by omega) (by omega) (h3.keep q2 h1) ((q2 b h2).trans h4) ((h5.keep q2 (Nat.le_refl _)).up q1) (by omega) (by omega))
theorem call111 (l : Nat) (a b : Value) (H : Hp) (n : Nat) : (cal (l + 1)).call 111 [a, b] H n = C111_0 (cal l) KK a b H n := by kernel_rfl
theorem holds_call (l : Nat) {H : Hp} {n g np nj : Nat} {f : Nat → Value} {x y z : Value} {ps js X : List Int} (hg : g < n) (hf : CellsF H g 859 117 f) (hs : SiteF f x y z js nj) (hx : SliceR H n 2 x np ps) (hnp : np ≤ 8) (hX : X.length = 16) :
    ∃ (r : Bool) (H' : Hp) (n' : Nat), (r = true ↔ ∀ p, p < np → overB X ps p = false) ∧ (∀ k : Value → Hp → Nat → Option ρ, callFK P (cal (l + 2)) 111 [.pointer (some ⟨g, 0, none⟩), .agg ⟨ints X⟩] H n k = k (.bool r) H' n') ∧ n ≤ n' ∧ Keep n H H' := by
  have hk : Keep n H (H.set n (some (.cells (ints X) 111 false none))) := (Keep.refl n H).set (Nat.le_refl _) _
  have hb : (H.set n (some (.cells (ints X) 111 false none))).get n = some (.cells (ints X) 111 false none) := by rw [Tr.get_set, if_pos rfl]
  obtain ⟨r, ⟨H', n', e1, e2, e3⟩, e4⟩ := holds_loop l KK hs hnp hX KK 0 (H.set n (some (.cells (ints X) 111 false none))) (n + 1) (by omega) (Nat.lt_succ_self n) (hf.keep hk hg) hb ((hx.keep hk (Nat.le_refl _)).up (by omega)) (by omega) (by unfold KK; omega)
  refine ⟨r, H', n', ?_, fun k => ?_, by omega, hk.trans e3 (by omega)⟩
  · exact e4.trans ⟨fun h p hp => h p (Nat.zero_le _) hp, fun h p _ hp => h p hp⟩
  · unfold callFK
    have : (flatF P 111 && pureL [.pointer (some ⟨g, 0, none⟩), .agg ⟨ints X⟩]) = false := by rw [Bool.and_eq_false_iff]; exact .inr rfl
    rw [this, call111]
    unfold C111_0 B111_0
    generalize hS : S111_1 (cal (l + 1)) KK KK = S
    have lx : loadV P (H.set n (some (.cells (ints X) 111 false none))) 31 ⟨g, 0 + 0 + 0, none⟩ = some x := by
      have := (hf.keep hk hg).load (P := P) (k := 0) agg31 (by omega)
      rw [hs.x] at this; exact this
    rw [boxK_eq]
    simp only [cellsV, ptr]
    rw [nil_ptr, bindO_some, fa117_0, bindO_some, fa35_0, bindO_some, addrV_eq, bindO_some, lx, bindO_some, hx.len_eq und31, bindO_some, ← hS]
    exact congrArg (fun r => bindO r _) e1
def RightX (X ps : List Int) (np : Nat) : Prop := ∀ p, p < np → missB X ps p = false ∧ overB X ps p = false
theorem right_loop (l k : Nat) {g b np nj : Nat} {f : Nat → Value} {x y z : Value} {ps js X : List Int} (hs : SiteF f x y z js nj) (hnp : np ≤ 8) (hX : X.length = 16) : ∀ (m i : Nat) (H : Hp) (n : Nat), g < n → b < n → CellsF H g 859 117 f → H.get b = some (.cells (ints X) 111 false none) → SliceR H n 2 x np ps → i ≤ np → np - i ≤ m →
    ∃ r, Ret (S83_1 (cal (l + 3)) k m (.pointer (some ⟨g, 0, none⟩)) (.pointer (some ⟨b, 0, none⟩)) (.int .i64 np) (.int .i64 i) H n) n H (.bool r) ∧ (r = true ↔ (∀ p, i ≤ p → p < np → missB X ps p = false) ∧ ∀ p, p < np → overB X ps p = false) := by
  have lX : (ints X).length = 16 := by rw [ints_length, hX]
  have body : ∀ (b1 : Value → Value → Value → Value → Hp → Nat → Res) (m i : Nat) (H : Hp) (n : Nat), g < n → b < n → CellsF H g 859 117 f → H.get b = some (.cells (ints X) 111 false none) → SliceR H n 2 x np ps → i ≤ np →
      (∀ H' n', n ≤ n' → Keep n H H' → i < np → ∃ r, Ret (b1 (.pointer (some ⟨g, 0, none⟩)) (.pointer (some ⟨b, 0, none⟩)) (.int .i64 np) (.int .i64 ((i + 1 : Nat) : Int)) H' n') n' H' (.bool r) ∧ (r = true ↔ (∀ p, i + 1 ≤ p → p < np → missB X ps p = false) ∧ ∀ p, p < np → overB X ps p = false)) →
      ∃ r, Ret (C83_1 (cal (l + 3)) k m b1 (.pointer (some ⟨g, 0, none⟩)) (.pointer (some ⟨b, 0, none⟩)) (.int .i64 np) (.int .i64 i) H n) n H (.bool r) ∧ (r = true ↔ (∀ p, i ≤ p → p < np → missB X ps p = false) ∧ ∀ p, p < np → overB X ps p = false) := by
    intro b1 m i H n hg hb hf hbx hx hi ih
    unfold C83_1 B83_1
    rw [binK_some bin_lss, ifK_d]
    by_cases hlt : i < np
    · have hI : I64 ((i : Int) + 1) := by unfold I64; omega
      have hcast : ((i : Int) + 1) = ((i + 1 : Nat) : Int) := by omega
      obtain ⟨H2, n2, c1, c2, c3⟩ := missed_call (ρ := Value × Hp × Nat) (l + 2) hg hf hs hx hlt hnp hX
      rw [if_pos (by omega), addrV_eq, bindO_some, load_all hbx agg111 sz111 lX, bindO_some, c1]
      cases hd : missB X ps i with
      | true =>
        have hd' : decide (X.getD (i * 2) 0 < ps.getD (i * 2) 0) = true := hd
        rw [hd', ifK_t]
        exact ⟨false, ⟨H2, n2, rfl, c2, c3⟩, ⟨fun h => (by cases h), fun h => absurd (h.1 i (Nat.le_refl _) hlt) (by rw [hd]; simp)⟩⟩
      | false =>
        have hd' : decide (X.getD (i * 2) 0 < ps.getD (i * 2) 0) = false := hd
        rw [hd', ifK_f, binK_some (bin_add hI), hcast]
        obtain ⟨r, ⟨H3, n3, e1, e2, e3⟩, e4⟩ := ih H2 n2 c2 c3 hlt
        refine ⟨r, ⟨H3, n3, e1, by omega, c3.trans e3 c2⟩, e4.trans ?_⟩
        refine ⟨fun h => ⟨fun p q1 q2 => ?_, h.2⟩, fun h => ⟨fun p q1 q2 => h.1 p (by omega) q2, h.2⟩⟩
        rcases Nat.eq_or_lt_of_le q1 with q | q
        · subst q; exact hd
        · exact h.1 p q q2
    · have hi' : i = np := by omega
      subst hi'
      rw [if_neg (by omega)]
      obtain ⟨r, H2, n2, c0, c1, c2, c3⟩ := holds_call (ρ := Value × Hp × Nat) (l + 1) hg hf hs hx hnp hX
      rw [addrV_eq, bindO_some, load_all hbx agg111 sz111 lX, bindO_some, c1]
      exact ⟨r, ⟨H2, n2, rfl, c2, c3⟩, c0.trans ⟨fun h => ⟨fun p q1 q2 => by omega, h⟩, fun h => h.2⟩⟩
  intro m
  induction m with
  | zero => intro i H n h1 h2 h3 h4 h5 h6 h7; exact body _ 0 i H n h1 h2 h3 h4 h5 h6 (fun _ _ _ _ h => by omega)
  | succ m ih => intro i H n h1 h2 h3 h4 h5 h6 h7; exact body _ (m + 1) i H n h1 h2 h3 h4 h5 h6 (fun H' n' q1 q2 q3 => ih (i + 1) H' n' (by omega) (by omega) (h3.keep q2 h1) ((q2 b h2).trans h4) ((h5.keep q2 (Nat.le_refl _)).up q1) (by omega) (by omega))
theorem call83 (l : Nat) (a b : Value) (H : Hp) (n : Nat) : (cal (l + 1)).call 83 [a, b] H n = C83_0 (cal l) KK a b H n := by kernel_rfl
theorem right_call (l : Nat) {H : Hp} {n g np nj : Nat} {f : Nat → Value} {x y z : Value} {ps js X : List Int} (hg : g < n) (hf : CellsF H g 859 117 f) (hs : SiteF f x y z js nj) (hx : SliceR H n 2 x np ps) (hnp : np ≤ 8) (hX : X.length = 16) :
    ∃ (r : Bool) (H' : Hp) (n' : Nat), (r = true ↔ RightX X ps np) ∧ (∀ k : Value → Hp → Nat → Option ρ, callFK P (cal (l + 4)) 83 [.pointer (some ⟨g, 0, none⟩), .agg ⟨ints X⟩] H n k = k (.bool r) H' n') ∧ n ≤ n' ∧ Keep n H H' := by
  have hk : Keep n H (H.set n (some (.cells (ints X) 111 false none))) := (Keep.refl n H).set (Nat.le_refl _) _
  have hb : (H.set n (some (.cells (ints X) 111 false none))).get n = some (.cells (ints X) 111 false none) := by rw [Tr.get_set, if_pos rfl]
  obtain ⟨r, ⟨H', n', e1, e2, e3⟩, e4⟩ := right_loop l KK hs hnp hX KK 0 (H.set n (some (.cells (ints X) 111 false none))) (n + 1) (by omega) (Nat.lt_succ_self n) (hf.keep hk hg) hb ((hx.keep hk (Nat.le_refl _)).up (by omega)) (by omega) (by unfold KK; omega)
  refine ⟨r, H', n', ?_, fun k => ?_, by omega, hk.trans e3 (by omega)⟩
  · exact e4.trans ⟨fun h p hp => ⟨h.1 p (Nat.zero_le _) hp, h.2 p hp⟩, fun h => ⟨fun p _ hp => (h p hp).1, fun p hp => (h p hp).2⟩⟩
  · unfold callFK
    have : (flatF P 83 && pureL [.pointer (some ⟨g, 0, none⟩), .agg ⟨ints X⟩]) = false := by rw [Bool.and_eq_false_iff]; exact .inr rfl
    rw [this, call83]
    unfold C83_0 B83_0
    generalize hS : S83_1 (cal (l + 3)) KK KK = S
    have lx : loadV P (H.set n (some (.cells (ints X) 111 false none))) 31 ⟨g, 0 + 0 + 0, none⟩ = some x := by
      have := (hf.keep hk hg).load (P := P) (k := 0) agg31 (by omega)
      rw [hs.x] at this; exact this
    rw [boxK_eq]
    simp only [cellsV, ptr]
    rw [nil_ptr, bindO_some, fa117_0, bindO_some, fa35_0, bindO_some, addrV_eq, bindO_some, lx, bindO_some, hx.len_eq und31, bindO_some, ← hS]
    exact congrArg (fun r => bindO r _) e1
end Go.Proofs.Ytgojjellogiglaa.spec
end
section
namespace Go.Proofs.Ytgojjellogiglaa.spec
open Go Go.Ev Go.Proofs.Ytgojjellogiglaa.nestFits Go.Proofs.Ytgojjellogiglaa.G
set_option maxRecDepth 100000
variable {ρ : Type}
noncomputable def code47 : Code := codeOf 47
noncomputable def results47 : List ResultVar := resOf 47
noncomputable def asg47 : Code := asgOf (cL (cR (cL (cR (cR (cR (cR code47)))))))
noncomputable def bod47 : Code := bodOf (cL (cR (cL (cR (cR (cR (cR code47)))))))
noncomputable def K47 (c : Cal) (k : Nat) : KC (Value × Hp × Nat) := codeE P c (codeF P c k) none 47 (cR (cR (cR (cR (cR code47))))) .leaf (doneK P results47) X0 (doneK P results47)
noncomputable def T47 (v0 v1 v2 v13 v15 v16 v17 v18 v6 v7 v20 v9 v22 v23 v24 : Value) : Tm := (((((((((((((((((((((Tr.nil : Tm).set 0 (some v0)).set 1 (some v1)).set 2 (some v2)).set 4 (some (.slice none 0 0))).set 5 (some (.int .i64 0))).set 13 (some v13)).set 14 (some v1)).set 15 (some v15)).set 12 (some v15)).set 16 (some v16)).set 17 (some v17)).set 18 (some v18)).set 6 (some v6)).set 7 (some v7)).set 8 (some v18)).set 19 (some v18)).set 20 (some v20)).set 9 (some v9)).set 22 (some v22)).set 23 (some v23)).set 24 (some v24)
theorem pre47 (c : Cal) (k : Nat) (v0 v1 : Value) (H : Hp) (n : Nat) : bodyE P c A (k + 1) 47 [v0, v1] H n =
    (boxK 35 v0 H n fun v2 H n => bindO (addrV v2) fun a => bindO (loadV P H 35 a) fun v13 => callFK P c 65 [v13, v1] H n fun v15 H n =>
      bindO (tupV v15 0) fun v16 => bindO (tupV v15 1) fun v17 => bindO (tupV v15 2) fun v18 => allocK P 105 H n fun v6 H n => allocK P 121 H n fun v7 H n =>
      bindO (storeP P 105 v6 v16 H) fun H => bindO (storeP P 121 v7 v17 H) fun H => binK P .neq 29 (.tmp 19) (.const (.int .i64 0)) v18 (.int .i64 0) fun v20 =>
      ifK v20 (some (.tuple ⟨[.slice none 0 0, v18]⟩, H, n)) (allocK P 44 H n fun v9 H n =>
      bindO (addrV v6) fun a => bindO (loadV P H 105 a) fun v22 => bindO (addrV v7) fun a => bindO (loadV P H 121 a) fun v23 => callFK P c 74 [v22, v23] H n fun v24 H n =>
      rangeK P c none 47 v24 #[25, 26] asg47 bod47 (K47 c k) (upX 0 (K47 c k) X0) (doneK P results47) (T47 v0 v1 v2 v13 v15 v16 v17 v18 v6 v7 v20 v9 v22 v23 v24) H n [])) := by
  rw [body_eq (fn := Go.Proofs.Try.f47) (c := code47) (rs := results47) (by kernel_rfl) (by kernel_rfl) (by kernel_rfl) (by kernel_rfl)]
  kernel_rfl
theorem post47 (c : Cal) (k : Nat) (v0 v1 v2 v13 v15 v16 v17 v18 v6 v7 v20 v9 v22 v23 v24 : Value) (H : Hp) (n : Nat) (D : List Nat) : K47 c k (T47 v0 v1 v2 v13 v15 v16 v17 v18 v6 v7 v20 v9 v22 v23 v24) H n D =
    (bindO (addrV v9) fun a => bindO (loadV P H 44 a) fun v39 => getK (takeD H D) fun H => bindO (resV P (((Tr.nil : Tm).set 5 (some (.int .i64 0))).set 4 (some v39)) H results47) fun vs => some (oneV vs, H, n)) := by
  kernel_rfl
theorem call47 (l : Nat) (a b : Value) (H : Hp) (n : Nat) : (cal (l + 1)).call 47 [a, b] H n = bodyE P (cal l) A (KK + 1) 47 [a, b] H n := by kernel_rfl
theorem asg47_eq (l lp : Nat) (v0 v1 v2 v13 v15 v16 v17 v18 v6 v7 v20 v9 v22 v23 v24 p q : Value) (H : Hp) (n : Nat) :
    (cal (l + 1)).body lp 47 asg47 { T := ((T47 v0 v1 v2 v13 v15 v16 v17 v18 v6 v7 v20 v9 v22 v23 v24).set 25 (some p)).set 26 (some q), H, n, D := [] } =
      some (.norm, { T := (((T47 v0 v1 v2 v13 v15 v16 v17 v18 v6 v7 v20 v9 v22 v23 v24).set 25 (some p)).set 26 (some q)).set 10 (some p), H, n, D := [] }) := by kernel_rfl
theorem bod47_eq (l lp : Nat) (v0 v1 v2 v13 v15 v16 v17 v18 v6 v7 v20 v9 v22 v23 v24 p q : Value) (H : Hp) (n : Nat) :
    (cal (l + 1)).body lp 47 bod47 { T := (((T47 v0 v1 v2 v13 v15 v16 v17 v18 v6 v7 v20 v9 v22 v23 v24).set 25 (some p)).set 26 (some q)).set 10 (some p), H, n, D := [] } =
      (bindO (addrV v7) fun a => bindO (loadV P H 121 a) fun v27 => allocK P 121 H n fun v11 H n => bindO (storeP P 121 v11 v27 H) fun H =>
        bindO (indexAddrV P 121 v11 p) fun v29 => bindO (storeP P 3 v29 (.int .i64 (-1)) H) fun H =>
        bindO (addrV v6) fun a6 => bindO (loadV P H 105 a6) fun v30 => bindO (addrV v6) fun a => bindO (loadV P H 105 a) fun v31 => bindO (addrV v11) fun a => bindO (loadV P H 121 a) fun v32 =>
        effK P [.l 105 a6] H n (fun H n k => callFK P (cal l) 66 [v31, v32] H n fun u H n => k u H n) fun v33 H n => callFK P (cal l) 83 [v30, v33] H n fun v34 H n =>
        ifK v34 (bindO (addrV v9) fun a => bindO (loadV P H 44 a) fun v35 => rowK P 44 1 [(0, p)] H n fun v37 H n => stK (appendV P (bare H n) 44 44 v35 v37) fun v38 H n => bindO (storeP P 44 v9 v38 H) fun H =>
          some (.norm, { T := ((((((((((((((((T47 v0 v1 v2 v13 v15 v16 v17 v18 v6 v7 v20 v9 v22 v23 v24).set 25 (some p)).set 26 (some q)).set 10 (some p)).set 27 (some v27)).set 11 (some v11)).set 28 (some p)).set 29 (some v29)).set 30 (some v30)).set 31 (some v31)).set 32 (some v32)).set 33 (some v33)).set 34 (some v34)).set 35 (some v35)).set 36 (some p)).set 37 (some v37)).set 38 (some v38), H, n, D := [] }))
          (some (.norm, { T := ((((((((((((T47 v0 v1 v2 v13 v15 v16 v17 v18 v6 v7 v20 v9 v22 v23 v24).set 25 (some p)).set 26 (some q)).set 10 (some p)).set 27 (some v27)).set 11 (some v11)).set 28 (some p)).set 29 (some v29)).set 30 (some v30)).set 31 (some v31)).set 32 (some v32)).set 33 (some v33)).set 34 (some v34), H, n, D := [] }))) := by kernel_rfl
theorem res47 (v : Value) (H : Hp) : resV P (((Tr.nil : Tm).set 5 (some (.int .i64 0))).set 4 (some v)) H results47 = some [v, .int .i64 0] := by kernel_rfl
theorem ntm47 : ntm P 47 = 40 := by kernel_rfl
theorem range47 (c : Cal) (a b : Value) (K : KC (Value × Hp × Nat)) (X : XC (Value × Hp × Nat)) (Kr : KC (Value × Hp × Nat)) (T : Tm) (H : Hp) (n : Nat) :
    rangeK P c none 47 (.func (.func 104) ⟨[]⟩ ⟨[a, b]⟩) #[25, 26] asg47 bod47 K X Kr T H n [] =
      callFK P c 104 [.func (.yield (n + 1)) #[] #[], a, b] ((H.set n (some .deferred)).set (n + 1) (some (.loop .ready none 47 T (ntm P 47) #[25, 26] asg47 bod47 n))) (n + 2) fun _ H n' => fin K X Kr (rangeOut (n + 1) { T := T, H, n := n', D := [n] }) := rfl
end Go.Proofs.Ytgojjellogiglaa.spec
end
section
namespace Go.Proofs.Ytgojjellogiglaa.spec
open Go Go.Ev Go.Proofs.Ytgojjellogiglaa.nestFits Go.Proofs.Ytgojjellogiglaa.G
set_option maxRecDepth 100000
variable {ρ : Type}
theorem guardD_ff {op : KD ρ → Option ρ} {ex : Extra} {H : Hp} {n : Nat} {k : KD ρ} : guardD (.bool false) false op ex H n k = op k := rfl
theorem guardD_tf {op : KD ρ → Option ρ} {ex : Extra} {H : Hp} {n : Nat} {k : KD ρ} : guardD (.bool true) false op ex H n k = k undef ex H n := rfl
theorem guardD_u {w : Bool} {op : KD ρ → Option ρ} {ex : Extra} {H : Hp} {n : Nat} {k : KD ρ} : guardD undef w op ex H n k = k undef ex H n := rfl
theorem isLayout_loop (l k : Nat) {np nj nk : Nat} {ps js ks ls : List Int} (good : Good np nj nk ps js ks) (hjs : js.length = nj * 2) (g : Nat) (x y z w : Value) :
    ∀ (m i : Nat) (H : Hp) (n : Nat), g < n → CellsAt H g 0 [x, y, z] → GroveI H n (.agg ⟨[x, y, z]⟩) np nj nk ps js ks → ListR H n w np ls → i ≤ np → np - i ≤ m →
    ∃ r, Ret (S58_1 (cal (l + 4)) k m w (.pointer (some ⟨g, 0, none⟩)) (.int .i64 i) H n) n H (.bool r) ∧ (r = true ↔ ∀ p, i ≤ p → p < np → ls.getD p 0 = -1 ∨ takesP js ks nj np nk p (ls.getD p 0)) := by
  have body : ∀ (b1 : Value → Value → Value → Hp → Nat → Res) (m i : Nat) (H : Hp) (n : Nat), g < n → CellsAt H g 0 [x, y, z] → GroveI H n (.agg ⟨[x, y, z]⟩) np nj nk ps js ks → ListR H n w np ls → i ≤ np →
      (∀ H' n', n ≤ n' → Keep n H H' → i < np → ∃ r, Ret (b1 w (.pointer (some ⟨g, 0, none⟩)) (.int .i64 ((i + 1 : Nat) : Int)) H' n') n' H' (.bool r) ∧ (r = true ↔ ∀ p, i + 1 ≤ p → p < np → ls.getD p 0 = -1 ∨ takesP js ks nj np nk p (ls.getD p 0))) →
      ∃ r, Ret (C58_1 (cal (l + 4)) k m b1 w (.pointer (some ⟨g, 0, none⟩)) (.int .i64 i) H n) n H (.bool r) ∧ (r = true ↔ ∀ p, i ≤ p → p < np → ls.getD p 0 = -1 ∨ takesP js ks nj np nk p (ls.getD p 0)) := by
    intro b1 m i H n hgn hb hg hw hi ih
    have np8 := good.np8
    have nk3 := good.nk3
    have nj16 := good.nj16
    unfold C58_1 B58_1
    rw [hw.len_eq, bindO_some, binK_some bin_lss, ifK_d]
    by_cases hlt : i < np
    · obtain ⟨rb, o, hix, _, hld⟩ := hw.at_ hlt
      have hI : I64 ((i : Int) + 1) := by unfold I64; omega
      have hcast : ((i : Int) + 1) = ((i + 1 : Nat) : Int) := by omega
      have go : (ls.getD i 0 = -1 ∨ takesP js ks nj np nk i (ls.getD i 0)) → ∀ (H' : Hp) (n' : Nat), n ≤ n' → Keep n H H' →
          ∃ r, Ret (b1 w (.pointer (some ⟨g, 0, none⟩)) (.int .i64 ((i + 1 : Nat) : Int)) H' n') n H (.bool r) ∧ (r = true ↔ ∀ p, i ≤ p → p < np → ls.getD p 0 = -1 ∨ takesP js ks nj np nk p (ls.getD p 0)) := by
        intro hok H' n' h1 h2
        obtain ⟨r, ⟨H2, n2, e1, e2, e3⟩, e4⟩ := ih H' n' h1 h2 hlt
        refine ⟨r, ⟨H2, n2, e1, by omega, h2.trans e3 h1⟩, e4.trans ⟨fun h p q1 q2 => ?_, fun h p q1 q2 => h p (by omega) q2⟩⟩
        rcases Nat.eq_or_lt_of_le q1 with q | q
        · subst q; exact hok
        · exact h p q q2
      have no : ¬ (ls.getD i 0 = -1 ∨ takesP js ks nj np nk i (ls.getD i 0)) → ∀ (H' : Hp) (n' : Nat), n ≤ n' → Keep n H H' →
          ∃ r, Ret (some (Value.bool false, H', n')) n H (.bool r) ∧ (r = true ↔ ∀ p, i ≤ p → p < np → ls.getD p 0 = -1 ∨ takesP js ks nj np nk p (ls.getD p 0)) :=
        fun hno H' n' h1 h2 => ⟨false, ⟨H', n', rfl, h1, h2⟩, ⟨fun h => (by cases h), fun h => absurd (h i (Nat.le_refl _) hlt) hno⟩⟩
      rw [if_pos (by omega), hix, bindO_some, addrV_eq, bindO_some, hld, bindO_some, binK_some bin_neq]
      cases c1 : decide (ls.getD i 0 = -1) with
      | true =>
        simp only [Bool.not_true, guardD_ft, guardD_u, pickV_f, bindO_some, ifK_f, binK_some (bin_add hI), hcast]
        exact go (.inl (of_decide_eq_true c1)) H n (Nat.le_refl _) (Keep.refl _ _)
      | false =>
        have hg0 := hg
        obtain ⟨x', y', z', hxyz, h1, h2, h3⟩ := hg.eq
        cases hxyz
        have lz : loadV P H 24 ⟨g, 0 + 2, none⟩ = some z := loadV_scalar hb agg24 rfl h3.hole.1 h3.hole.2
        have elz : lenV P 24 z = some (.int .i64 nk) := h3.len_eq und24
        have hIk : I64 ((nk : Int) - 1) := by unfold I64; omega
        have l26 := load26 hb h1.hole.1 h2.hole.1 h3.hole.1
        simp only [Bool.not_false, guardD_tt, hix, bindO_some, addrV_eq, hld, fa26_2, lz, elz, binK_some (bin_sub hIk), in_call (l + 3)]
        cases c2 : decide (0 ≤ ls.getD i 0 ∧ ls.getD i 0 ≤ (nk : Int) - 1) with
        | false =>
          simp only [not_f, bindO_some, guardD_tf, pickV_t, ifK_t]
          refine no ?_ H n (Nat.le_refl _) (Keep.refl _ _)
          rintro (h | ⟨q1, q2, _⟩)
          · exact of_decide_eq_false c1 h
          · exact of_decide_eq_false c2 ⟨q1, by omega⟩
        | true =>
          obtain ⟨p1, p2⟩ := of_decide_eq_true c2
          obtain ⟨kd, hkd⟩ : ∃ kd : Nat, ls.getD i 0 = kd := ⟨(ls.getD i 0).toNat, by omega⟩
          have hk : kd < nk := by omega
          obtain ⟨r, H2, n2, d1, d2, d3, d4⟩ := fitsR_call (ρ := Value × Hp × Nat) l (show nj ≤ KK by unfold KK; omega) (show np ≤ 100 by omega) kd hk (i : Int) good.small hg0
          rw [hkd] at c1
          simp only [not_t, bindO_some, guardD_ff, hix, addrV_eq, hld, l26, hkd, d2]
          have ag := fits_agree good hjs hlt hk
          have tk : takesP js ks nj np nk i (kd : Int) ↔ r = true := by
            unfold takesP
            rw [Int.toNat_natCast, ag, d1]
            exact ⟨fun h => h.2.2, fun h => ⟨by omega, by omega, h⟩⟩
          cases r with
          | true =>
            simp only [not_t, bindO_some, pickV_t, pickV_f, ifK_f, binK_some (bin_add hI), hcast]
            refine go ?_ H2 n2 d3 d4
            rw [hkd]; exact .inr (tk.2 rfl)
          | false =>
            simp only [not_f, bindO_some, pickV_t, pickV_f, ifK_t]
            refine no ?_ H2 n2 d3 d4
            rw [hkd]
            rintro (h | h)
            · exact of_decide_eq_false c1 h
            · exact absurd (tk.1 h) (by simp)
    · rw [if_neg (by omega)]
      exact ⟨true, ⟨H, n, rfl, Nat.le_refl _, Keep.refl _ _⟩, ⟨fun _ p q1 q2 => by omega, fun _ => rfl⟩⟩
  intro m
  induction m with
  | zero =>
    intro i H n h1 h2 h3 h4 h5 h6
    exact body _ 0 i H n h1 h2 h3 h4 h5 (fun _ _ _ _ h => by omega)
  | succ m ih =>
    intro i H n h1 h2 h3 h4 h5 h6
    exact body _ (m + 1) i H n h1 h2 h3 h4 h5 (fun H' n' q1 q2 q3 => ih (i + 1) H' n' (by omega) (h2.keep q2 h1) (h3.keep q2 q1) (h4.keep q2 q1) (by omega) (by omega))
theorem isLayout_spec (l : Nat) {np nj nk nl : Nat} {ps js ks ls : List Int} (good : Good np nj nk ps js ks) {H : Hp} {n : Nat} {v w : Value} (hg : GroveI H n v np nj nk ps js ks) (hw : ListR H n w nl ls) :
    ∃ r, Ret (C58_0 (cal (l + 4)) KK v w H n) n H (.bool r) ∧ (r = true ↔ nl = np ∧ laidOk js ks ls nj np nk) := by
  have hg0 := hg
  obtain ⟨x, y, z, rfl, h1, h2, h3⟩ := hg.eq
  unfold C58_0 B58_0
  generalize hS : S58_1 (cal (l + 4)) KK KK = S
  rw [boxK_eq]
  simp only [cellsV, ptr]
  have hk : Keep n H (H.set n (some (.cells [x, y, z] 26 false none))) := (Keep.refl n H).set (Nat.le_refl _) _
  have hb : CellsAt (H.set n (some (.cells [x, y, z] 26 false none))) n 0 [x, y, z] := CellsAt.new
  generalize H.set n (some (.cells [x, y, z] 26 false none)) = H1 at hk hb ⊢
  have lx : loadV P H1 22 ⟨n, 0 + 0, none⟩ = some x := loadV_scalar hb agg22 rfl h1.hole.1 h1.hole.2
  have elx : lenV P 22 x = some (.int .i64 np) := h1.len_eq und22
  rw [hw.len_eq, bindO_some, fa26_0, bindO_some, addrV_eq, bindO_some, lx, bindO_some, elx, bindO_some, binK_some bin_neq]
  cases c1 : decide ((nl : Int) = (np : Int)) with
  | false =>
    rw [Bool.not_false, ifK_t]
    exact ⟨false, ⟨H1, n + 1, rfl, by omega, hk⟩, ⟨fun h => (by cases h), fun h => absurd (by omega) (of_decide_eq_false c1)⟩⟩
  | true =>
    have e : nl = np := by have := of_decide_eq_true c1; omega
    subst e
    rw [Bool.not_true, ifK_f, ← hS]
    obtain ⟨r, ⟨H', n', e1, e2, e3⟩, e4⟩ := isLayout_loop l KK good h2.1 n x y z w KK 0 H1 (n + 1) (by omega) hb (hg0.keep hk (by omega)) (hw.keep hk (by omega)) (by omega) (by have := good.np8; unfold KK; omega)
    exact ⟨r, ⟨H', n', e1, by omega, hk.trans e3 (by omega)⟩, e4.trans ⟨fun h => ⟨rfl, fun p hp => h p (Nat.zero_le _) hp⟩, fun h p _ hp => h.2 p hp⟩⟩
theorem call58 (l : Nat) (a b : Value) (H : Hp) (n : Nat) : (cal (l + 1)).call 58 [a, b] H n = C58_0 (cal l) KK a b H n := by kernel_rfl
theorem isLayout_call (l : Nat) {np nj nk nl : Nat} {ps js ks ls : List Int} (good : Good np nj nk ps js ks) {H : Hp} {n : Nat} {v w : Value} (hg : GroveI H n v np nj nk ps js ks) (hw : ListR H n w nl ls) :
    ∃ (r : Bool) (H' : Hp) (n' : Nat), (r = true ↔ nl = np ∧ laidOk js ks ls nj np nk) ∧ (∀ k : Value → Hp → Nat → Option ρ, callFK P (cal (l + 5)) 58 [v, w] H n k = k (.bool r) H' n') ∧ n ≤ n' ∧ Keep n H H' := by
  obtain ⟨r, H', n', ⟨b, rfl, hb⟩, e1, e2, e3⟩ := callFK_spec (ρ := ρ) (P := P) (cal := cal (l + 5)) (f := 58) (args := [v, w]) (H := H) (n := n)
    (Pre := fun H n => GroveI H n v np nj nk ps js ks ∧ ListR H n w nl ls) (Q := fun r => ∃ b : Bool, r = .bool b ∧ (b = true ↔ nl = np ∧ laidOk js ks ls nj np nk))
    (fun H n h => by
      obtain ⟨r, h1, h2⟩ := isLayout_spec l good h.1 h.2
      exact ⟨.bool r, by rw [call58]; exact h1, r, rfl, h2⟩) (fun r ⟨b, e, _⟩ _ => by subst e; rfl) ⟨hg, hw⟩ (fun hp => by
        simp only [pureL, Bool.and_eq_true] at hp
        exact ⟨hg.nil hp.1, hw.nil hp.2.1⟩)
  exact ⟨b, H', n', hb, e1, e2, e3⟩
theorem placed_spec (l : Nat) {np nj nk nl : Nat} {ps js ks ls : List Int} {H : Hp} {n : Nat} {v w : Value} (hg : GroveI H n v np nj nk ps js ks) (hw : ListR H n w nl ls) :
    Ret (C25_0 (cal (l + 5)) KK v w H n) n H (.int .i64 (placedN np nj nk nl ps js ks ls)) := by
  have hg0 := hg
  obtain ⟨x, y, z, rfl, h1, h2, h3⟩ := hg.eq
  unfold C25_0 B25_0
  rw [boxK_eq]
  simp only [cellsV, ptr]
  have hk : Keep n H (H.set n (some (.cells [x, y, z] 26 false none))) := (Keep.refl n H).set (Nat.le_refl _) _
  have hb : CellsAt (H.set n (some (.cells [x, y, z] 26 false none))) n 0 [x, y, z] := CellsAt.new
  generalize H.set n (some (.cells [x, y, z] 26 false none)) = H1 at hk hb ⊢
  have ld : ∀ H2, CellsAt H2 n 0 [x, y, z] → loadV P H2 26 ⟨n, 0, none⟩ = some (.agg ⟨[x, y, z]⟩) := fun H2 h => load26 h h1.hole.1 h2.hole.1 h3.hole.1
  have hg1 : GroveI H1 (n + 1) (.agg ⟨[x, y, z]⟩) np nj nk ps js ks := hg0.keep hk (by omega)
  obtain ⟨H2, n2, e1, e2, e3⟩ := lawfault_call (ρ := Value × Hp × Nat) (l + 1) hg1
  have kk : Keep n H H2 := hk.trans e3 (by omega)
  rw [addrV_eq, bindO_some, ld H1 hb, bindO_some, e1, binK_some bin_neq]
  unfold placedN
  by_cases he : faultN np nj nk ps js ks = 0
  · have d0 : decide (faultN np nj nk ps js ks = 0) = true := decide_eq_true he
    have good := good_of he
    obtain ⟨r, H3, n3, f1, f2, f3, f4⟩ := isLayout_call (ρ := Value × Hp × Nat) l good (hg1.keep e3 e2) (hw.keep kk (show n ≤ n2 by omega))
    rw [d0, Bool.not_true, ifK_f, bindO_some, ld H2 (hb.keep e3 (by omega)), bindO_some, f2, if_neg (fun h => h he)]
    cases r with
    | true =>
      rw [not_t, bindO_some, ifK_f, if_pos (f1.1 rfl)]
      exact ⟨H3, n3, rfl, by omega, kk.trans f4 (by omega)⟩
    | false =>
      rw [not_f, bindO_some, ifK_t, if_neg (fun h => absurd (f1.2 h) (by simp))]
      exact ⟨H3, n3, rfl, by omega, kk.trans f4 (by omega)⟩
  · have d0 : decide (faultN np nj nk ps js ks = 0) = false := decide_eq_false he
    rw [d0, Bool.not_false, ifK_t, if_pos he]
    exact ⟨H2, n2, rfl, by omega, kk⟩
theorem call25 (l : Nat) (a b : Value) (H : Hp) (n : Nat) : (cal (l + 1)).call 25 [a, b] H n = C25_0 (cal l) KK a b H n := by kernel_rfl
theorem placedN_call (l : Nat) {np nj nk nl : Nat} {ps js ks ls : List Int} {H : Hp} {n : Nat} {v w : Value} (hg : GroveI H n v np nj nk ps js ks) (hw : ListR H n w nl ls) :
    ∃ H' n', (∀ k : Value → Hp → Nat → Option ρ, callFK P (cal (l + 6)) 25 [v, w] H n k = k (.int .i64 (placedN np nj nk nl ps js ks ls)) H' n') ∧ n ≤ n' ∧ Keep n H H' := by
  obtain ⟨r, H', n', rfl, e1, e2, e3⟩ := callFK_spec (ρ := ρ) (P := P) (cal := cal (l + 6)) (f := 25) (args := [v, w]) (H := H) (n := n)
    (Pre := fun H n => GroveI H n v np nj nk ps js ks ∧ ListR H n w nl ls) (Q := fun r => r = .int .i64 (placedN np nj nk nl ps js ks ls))
    (fun H n h => ⟨_, by rw [call25]; exact placed_spec l h.1 h.2, rfl⟩) (fun r e _ => by subst e; rfl) ⟨hg, hw⟩ (fun hp => by
        simp only [pureL, Bool.and_eq_true] at hp
        exact ⟨hg.nil hp.1, hw.nil hp.2.1⟩)
  exact ⟨H', n', e1, e2, e3⟩
end Go.Proofs.Ytgojjellogiglaa.spec
end
section
namespace Go.Ev
open Go
variable {P : Program} {t : TypeId} {x y : Operand} {a b : Int} {ρ : Type}
end Go.Ev
end
section
namespace Go.Proofs.Ytgojjellogiglaa.spec
open Go Go.Ev Go.Proofs.Ytgojjellogiglaa.nestFits Go.Proofs.Ytgojjellogiglaa.G
set_option maxRecDepth 100000
variable {ρ : Type}
theorem list_own (c : Cal) (k : Nat) {H : Hp} {n len : Nat} {v : Value} {xs : List Int} (h : ListR H n v len xs) (h0 : len ≠ 0) (hlen : len ≤ 1000) :
    ∃ b cap H' n', C23_0 c k v H n = some (.slice (some ⟨b, 0, none⟩) len cap, H', n') ∧ n ≤ b ∧ b < n' ∧ Keep n H H' ∧ H'.get b = some (.cells (ints xs) 3 false (some 1)) := by
  unfold C23_0 B23_0 rowK
  rw [row44_0, bindO_some]
  unfold newK
  dsimp only
  have hk : Keep n H (H.set n (some (.cells [] 3 false none))) := (Keep.refl n H).set (Nat.le_refl _) _
  have hg : (H.set n (some (.cells [] 3 false none))).get n = some (.cells [] 3 false none) := by rw [Tr.get_set, if_pos rfl]
  have h1 := h.keep hk (show n ≤ n + 1 by omega)
  generalize H.set n (some (.cells [] 3 false none)) = H1 at hk hg h1 ⊢
  have hold : loadN H1 ⟨n, 0, none⟩ (0 * 1) = some [] := loadN_all (L := []) (cells_at hg) rfl rfl
  have hbig : bigOk (0 + len) 1 8 = true := by unfold bigOk; simp; omega
  have hb1 : Nat.beq (cellsV (.int .i64 0)).length 1 = true := rfl
  have c0 : Nat.blt 0 capV = true := by decide +kernel
  have ha : appendV P (bare H1 (n + 1)) 44 44 (.slice (some ⟨n, 0, none⟩) 0 0) v = some (.slice (some ⟨n + 1, 0, none⟩) len capV, bare (H1.set (n + 1) (some (.cells (ints xs) 3 false (some 1)))) (n + 1 + 1)) := by
    unfold appendV
    have hs : srcCells (bare H1 (n + 1)).H 1 v = some (ints xs, len) := h1.src
    have hold' : loadN (bare H1 (n + 1)).H ⟨n, 0, none⟩ (0 * 1) = some [] := hold
    simp only [sl44, sz3, by3, zero3, hs, hb1, hold', hbig]
    unfold appendTo
    have c1 : Nat.ble len 0 = false := by
      cases len with
      | zero => exact absurd rfl h0
      | succ m => rfl
    simp only [c0, c1, growV, bare, pushB, List.nil_append, Nat.zero_add]
  unfold stK
  dsimp only
  rw [ha, bindO_some]
  dsimp only [bare]
  exact ⟨_, _, _, _, rfl, by omega, by omega, hk.set (by omega) _, by rw [Tr.get_set, if_pos rfl]⟩
theorem list_own_call (l : Nat) {H : Hp} {n len : Nat} {v : Value} {xs : List Int} (h : ListR H n v len xs) (h0 : len ≠ 0) (hlen : len ≤ 1000) :
    ∃ b cap H' n', (∀ k : Value → Hp → Nat → Option ρ, callFK P (cal (l + 1)) 23 [v] H n k = k (.slice (some ⟨b, 0, none⟩) len cap) H' n') ∧ n ≤ b ∧ b < n' ∧ Keep n H H' ∧ H'.get b = some (.cells (ints xs) 3 false (some 1)) := by
  obtain ⟨b, cap, H', n', e, h1, h2, h3, h4⟩ := list_own (cal l) KK h h0 hlen
  refine ⟨b, cap, H', n', fun k => ?_, h1, h2, h3, h4⟩
  unfold callFK
  rw [flat23, call23, e]
  rfl
theorem at44L (b len cap : Nat) {i : Nat} (hi : i < len) : indexAddrV P 44 (.slice (some ⟨b, 0, none⟩) len cap) (.int .i64 i) = some (.pointer (some ⟨b, 0 + i * 1, none⟩)) := by
  unfold indexAddrV
  simp only [und44, idx_lt hi, sz3]
  rfl
theorem store3 (H : Hp) (b o : Nat) (a : Int) : storeP P 3 (.pointer (some ⟨b, o, none⟩)) (.int .i64 a) H = storeN H ⟨b, o, none⟩ [.int .i64 a] := by kernel_rfl
theorem put44 {H : Hp} {n b len cap p : Nat} {xs : List Int} {a : Int} (h : H.get b = some (.cells (ints xs) 3 false (some 1))) (hl : xs.length = len) (hp : p < len) (hb : b < n) (hx : ∀ x ∈ xs, I64 x) (ha : I64 a) :
    ∃ H', storeP P 3 (.pointer (some ⟨b, 0 + p * 1, none⟩)) (.int .i64 a) H = some H' ∧ (∀ q, q ≠ b → H'.get q = H.get q) ∧ ListR H' n (.slice (some ⟨b, 0, none⟩) len cap) len (xs.set p a) := by
  refine ⟨H.set b (some (.cells (ints (xs.set p a)) 3 false (some 1))), ?_, fun q hq => by rw [Tr.get_set, if_neg hq], by simp [hl], fun x hx' => ?_, .inr ⟨b, 0, cap, rfl, hb, cells_at (by rw [Tr.get_set, if_pos rfl])⟩⟩
  · rw [store3, show 0 + p * 1 = p by omega]
    exact store_one h (by omega)
  · rcases List.mem_or_eq_of_mem_set hx' with z | z
    · exact hx x z
    · subst z; exact ha
theorem row_one {X Y js ks L : List Int} {nj np i : Nat} (hX : RowIs X js ks L nj np i) (hY : RowIs Y js ks L nj np i) : X = Y := by
  obtain ⟨l1, h1⟩ := hX
  obtain ⟨l2, h2⟩ := hY
  have key : ∀ k, k < 16 → X.getD k 0 = Y.getD k 0 := fun k hk => by
    obtain ⟨a, b⟩ := h1 (k / 2) (by omega)
    obtain ⟨c, d⟩ := h2 (k / 2) (by omega)
    rcases Nat.mod_two_eq_zero_or_one k with z | z
    · rw [show k = k / 2 * 2 by omega, a, c]
    · rw [show k = k / 2 * 2 + 1 by omega, b, d]
  apply List.ext_getElem?
  intro k
  by_cases hk : k < 16
  · rw [getD_some (by omega), getD_some (by omega), key k hk]
  · rw [List.getElem?_eq_none (by omega), List.getElem?_eq_none (by omega)]
end Go.Proofs.Ytgojjellogiglaa.spec
end
section
namespace Go.Proofs.Ytgojjellogiglaa.spec
open Go Go.Ev Go.Proofs.Ytgojjellogiglaa.nestFits Go.Proofs.Ytgojjellogiglaa.G
set_option maxRecDepth 100000
variable {ρ : Type}
def RightL (js ks ps L : List Int) (nj np : Nat) : Prop := ∀ q, q < np → ¬ bsum js ks L nj np 8 0 q < ps.getD (q * 2) 0 ∧ ¬ ps.getD (q * 2 + 1) 0 < bsum js ks L nj np 8 1 q
theorem right_iff {js ks ps L X : List Int} {nj np : Nat} (hX : RowIs X js ks L nj np 8) (hnp : np ≤ 8) : RightX X ps np ↔ RightL js ks ps L nj np := by
  unfold RightX RightL missB overB
  constructor
  · intro h q hq
    obtain ⟨a, b⟩ := hX.2 q (by omega)
    obtain ⟨c, d⟩ := h q hq
    rw [← a, ← b]
    exact ⟨of_decide_eq_false c, of_decide_eq_false d⟩
  · intro h q hq
    obtain ⟨a, b⟩ := hX.2 q (by omega)
    obtain ⟨c, d⟩ := h q hq
    rw [← a] at c
    rw [← b] at d
    exact ⟨decide_eq_false c, decide_eq_false d⟩
open Classical in
noncomputable def spareB (js ks ps L : List Int) (nj np p : Nat) : Bool := decide (L.getD p 0 ≠ -1 ∧ RightL js ks ps (L.set p (-1)) nj np)
open Classical in
theorem spareB_iff {js ks ps L : List Int} {nj np p : Nat} : spareB js ks ps L nj np p = true ↔ L.getD p 0 ≠ -1 ∧ RightL js ks ps (L.set p (-1)) nj np := by
  unfold spareB
  exact decide_eq_true_iff
theorem at121 (b : Nat) {i : Nat} (hi : i < 8) : indexAddrV P 121 (.pointer (some ⟨b, 0, none⟩)) (.int .i64 i) = some (.pointer (some ⟨b, 0 + i * 1, none⟩)) := by
  unfold indexAddrV
  have : idxIn (.int .i64 (i : Int)) 8 = some i := by
    show idxIn (.int .i64 (.ofNat i)) 8 = some i
    simp [idxIn, hi]
  simp only [und121, this, sz3]
  rfl
theorem agg44 : isAggT P 44 = some false := by kernel_rfl
theorem sz44 : szT P 44 = some 1 := by kernel_rfl
theorem kinds_less {L : List Int} {np nk p : Nat} (hK : KindsIn L np nk) (hL : L.length = 8) (hp : p < 8) : KindsIn (L.set p (-1)) np nk := by
  intro i hi
  by_cases e : i = p
  · subst e
    rw [List.getD_eq_getElem?_getD, List.getElem?_set, if_pos rfl, if_pos (by omega)]
    exact .inl rfl
  · rw [List.getD_eq_getElem?_getD, List.getElem?_set, if_neg (by omega), ← List.getD_eq_getElem?_getD]
    exact hK i hi
theorem push_int2 {H : Hp} {base n len : Nat} {u : Value} {xs : List Int} (h : VecAt H base n 1 3 u len xs) (hb : base ≤ n) (hlen : len ≤ 1000) (i : Int) :
    ∃ u' H1 H', (∀ k : Value → Hp → Nat → Option ρ, rowK P 44 1 [(0, .int .i64 i)] H n k = k (.slice (some ⟨n, 0, none⟩) 1 1) H1 (n + 1)) ∧ (∀ k : Value → Hp → Nat → Option ρ, stK (appendV P (bare H1 (n + 1)) 44 44 u (.slice (some ⟨n, 0, none⟩) 1 1)) k = k u' H' (n + 1 + 1)) ∧ VecAt H' base (n + 1 + 1) 1 3 u' (len + 1) (xs ++ [i]) ∧
      (∀ b, b < n → ¬ blockIs u b → H'.get b = H.get b) ∧ ∀ b, blockIs u' b → n ≤ b := by
  have hrow : CellsAt (H.set n (some (.cells [.int .i64 i] 3 false none))) n 0 (ints [i]) := CellsAt.new
  have hkn : ∀ b, b < n → (H.set n (some (.cells [.int .i64 i] 3 false none))).get b = H.get b := fun b hb => by rw [Tr.get_set, if_neg (by omega)]
  have hv := h.same (H' := H.set n (some (.cells [.int .i64 i] 3 false none))) (show n ≤ n + 1 by omega) fun b hb _ => hkn b hb
  obtain ⟨H', ea, ev, eo⟩ := append_vec (P := P) (t := 44) (t2 := 44) (cap2 := 1) hv sl44 sl44 sz3 by3 zero3 rfl hrow rfl (by omega) (by omega) (by omega) (by omega)
  refine ⟨_, H.set n (some (.cells [.int .i64 i] 3 false none)), H', fun k => ?_, fun k => ?_, ev, fun b hb hn => (eo b (by omega) hn).trans (hkn b hb), fun b hb => by rw [slice_new hb]; omega⟩
  · unfold rowK
    rw [row44, bindO_some]
    rfl
  · unfold stK
    rw [ea, bindO_some]
    rfl
theorem yield47 (l : Nat) {H : Hp} {n lb g b6 b7 b9 d base np nj nk p n0 len : Nat} {f : Nat → Value} {x y z : Value} {ps js ks L xs : List Int} {v0 v1 v2 v13 v15 v16 v17 v18 v20 v22 v23 v24 q0 u : Value}
    (hl : H.get lb = some (.loop .ready none 47 (T47 v0 v1 v2 v13 v15 v16 v17 v18 (.pointer (some ⟨b6, 0, none⟩)) (.pointer (some ⟨b7, 0, none⟩)) v20 (.pointer (some ⟨b9, 0, none⟩)) v22 v23 v24) (ntm P 47) #[25, 26] asg47 bod47 d))
    (h6 : H.get b6 = some (.cells [.pointer (some ⟨g, 0, none⟩)] 105 false none)) (h7 : H.get b7 = some (.cells (ints L) 121 false none)) (h9 : H.get b9 = some (.cells [u] 44 false none)) (hu : VecAt H base n 1 3 u len xs) (hlen : len ≤ 100)
    (hf : CellsF H g 859 117 f) (hs : SiteF f x y z js nj) (hn : ∀ p kd, p < np → kd < nk → NestAt f js ks nj np p kd) (hks : KindsOk ks nk) (hnp : np ≤ 8) (hnk : nk ≤ 3) (hx : SliceR H n0 2 x np ps) (hL : L.length = 8) (hK : KindsIn L np nk) (hp : p < np) (hpL : L.getD p 0 ≠ -1)
    (bn : base ≤ n) (hlb : lb < base) (hg : g < base) (hb6 : b6 < base) (hb9 : b9 < base) (hn0 : n0 ≤ lb) (e6 : b6 ≠ lb) (e7 : b7 ≠ lb) (e9 : b9 ≠ lb) (eg : g ≠ lb) (eg6 : g ≠ b6) :
    ∃ u' H' n', (∀ k : Value → Hp → Nat → Option ρ, callVK P (cal (l + 5)) (.func (.yield lb) #[] #[]) [.int .i64 p, q0] H n k = k (.bool true) H' n') ∧ n ≤ n' ∧ H'.get lb = H.get lb ∧ H'.get b9 = some (.cells [u'] 44 false none) ∧
      (if spareB js ks ps L nj np p = true then VecAt H' base n' 1 3 u' (len + 1) (xs ++ [(p : Int)]) else VecAt H' base n' 1 3 u' len xs) ∧ ∀ b, b < base → b ≠ lb → b ≠ b9 → H'.get b = H.get b := by
  generalize hT : T47 v0 v1 v2 v13 v15 v16 v17 v18 (.pointer (some ⟨b6, 0, none⟩)) (.pointer (some ⟨b7, 0, none⟩)) v20 (.pointer (some ⟨b9, 0, none⟩)) v22 v23 v24 = T at hl
  have lens : (ints L).length = 8 := by rw [ints_length, hL]
  have hpar : paramsT T (ntm P 47) (#[25, 26] : Array Tmp).toList [.int .i64 p, q0] = some ((T.set 25 (some (.int .i64 p))).set 26 (some q0)) := by
    rw [ntm47]; rfl
  have hasg : (cal (l + 5)).body lb 47 asg47 { T := (T.set 25 (some (.int .i64 p))).set 26 (some q0), H, n, D := [] } = some (.norm, { T := ((T.set 25 (some (.int .i64 p))).set 26 (some q0)).set 10 (some (.int .i64 p)), H := H, n := n, D := [] }) := by
    rw [← hT, asg47_eq]
  have hrdy : isReady H lb = true := by unfold isReady; rw [hl]
  have hpen : pendingOf H lb = none := by unfold pendingOf; rw [hl]
  have hbusy : setLoop H lb .busy none = some (H.set lb (some (.loop .busy none 47 T (ntm P 47) #[25, 26] asg47 bod47 d))) := by unfold setLoop; rw [hl]
  have ho : ∀ b, b ≠ lb → (H.set lb (some (.loop .busy none 47 T (ntm P 47) #[25, 26] asg47 bod47 d))).get b = H.get b := fun b hb => by rw [Tr.get_set, if_neg hb]
  have gl : (H.set lb (some (.loop .busy none 47 T (ntm P 47) #[25, 26] asg47 bod47 d))).get lb = some (.loop .busy none 47 T (ntm P 47) #[25, 26] asg47 bod47 d) := by rw [Tr.get_set, if_pos rfl]
  generalize H.set lb (some (.loop .busy none 47 T (ntm P 47) #[25, 26] asg47 bod47 d)) = H2 at hbusy ho gl
  have g6 := (ho b6 e6).trans h6
  have g7 := (ho b7 e7).trans h7
  have g9 := (ho b9 e9).trans h9
  have hu2 : VecAt H2 base n 1 3 u len xs := hu.same (Nat.le_refl _) fun b hb q => ho b (by have := (hu.low q).1; omega)
  have hf2 : CellsF H2 g 859 117 f := by
    obtain ⟨c, a1, a2, a3⟩ := hf
    exact ⟨c, (ho g eg).trans a1, a2, a3⟩
  have hx2 : SliceR H2 n0 2 x np ps := hx.keep (fun b hb => ho b (by omega)) (Nat.le_refl _)
  obtain ⟨H3, k1, k2, k3⟩ := spill (P := P) (ρ := Ex × St) (H := H2) (n := n) (L := ints L) zero121 rfl sz121 lens (ints_leaf _)
  have hst : storeP P 3 (.pointer (some ⟨n, 0 + p * 1, none⟩)) (.int .i64 (-1)) H3 = some (H3.set n (some (.cells (ints (L.set p (-1))) 121 false none))) := by
    rw [store3, show 0 + p * 1 = p by omega]
    exact store_one k2 (by omega)
  have q1 : ∀ b, b < n → (H3.set n (some (.cells (ints (L.set p (-1))) 121 false none))).get b = H2.get b := fun b hb => by rw [Tr.get_set, if_neg (by omega), k1 b hb]
  have q2 : (H3.set n (some (.cells (ints (L.set p (-1))) 121 false none))).get n = some (.cells (ints (L.set p (-1))) 121 false none) := by rw [Tr.get_set, if_pos rfl]
  generalize H3.set n (some (.cells (ints (L.set p (-1))) 121 false none)) = H4 at hst q1 q2
  have hL' : (L.set p (-1)).length = 8 := by simp [hL]
  have lens' : (ints (L.set p (-1))).length = 8 := by rw [ints_length, hL']
  have i6 := (q1 b6 (by omega)).trans g6
  have hld : ∀ b, ldOf [.l 105 ⟨b6, 0, none⟩] b → b = b6 := by
    rintro b ⟨t, a, h1, h2⟩
    simp only [List.mem_cons, List.not_mem_nil, or_false] at h1
    cases h1
    exact h2.symm
  have hf4 : CellsF H4 g 859 117 f := by
    obtain ⟨c, a1, a2, a3⟩ := hf2
    exact ⟨c, (q1 g (by omega)).trans a1, a2, a3⟩
  have l6 : loadV P H4 105 ⟨b6, 0, none⟩ = some (.pointer (some ⟨g, 0, none⟩)) := loadV_scalar (o := 0) (k := 0) (cells_at i6) agg105 rfl rfl rfl
  obtain ⟨X, hX⟩ : ∃ X, RowIs X js ks (L.set p (-1)) nj np 8 := by
    obtain ⟨X, _, _, h, _⟩ := bounds_call (ρ := Ex × St) l (n := n + 1) (by omega) hf4 hn hks hnp hnk hL' (kinds_less hK hL (by omega))
    exact ⟨X, h⟩
  obtain ⟨H5, H5', n5, m1, ⟨m2, m3⟩, m4, m5⟩ := effK_gen (P := P) (ρ := Ex × St) (ex := [.l 105 ⟨b6, 0, none⟩]) (H := H4) (n := n + 1) (v := .agg ⟨ints X⟩)
    (op := fun H n k => callFK P (cal (l + 4)) 66 [.pointer (some ⟨g, 0, none⟩), .agg ⟨ints (L.set p (-1))⟩] H n fun u H n => k u H n)
    (R := fun H' n' => n + 1 ≤ n' ∧ ∀ b, b < n + 1 → ¬ ldOf [.l 105 ⟨b6, 0, none⟩] b → H'.get b = H4.get b)
    (fun q hq => by
      simp only [List.mem_cons, List.not_mem_nil, or_false] at hq
      subst hq
      exact ⟨_, _, rfl, .inl ⟨_, _, _, _, i6⟩⟩)
    (fun Hm hm => by
      have hfm : CellsF Hm g 859 117 f := by
        obtain ⟨c, a1, a2, a3⟩ := hf4
        exact ⟨c, (hm g (fun h => eg6 (hld g h))).trans a1, a2, a3⟩
      obtain ⟨X', H', n', r1, r2, r3, r4⟩ := bounds_call (ρ := Ex × St) l (n := n + 1) (by omega) hfm hn hks hnp hnk hL' (kinds_less hK hL (by omega))
      have : X' = X := row_one r1 hX
      subst this
      exact ⟨H', n', fun k => r2 _, fun b hb => r4 b (by have := hld b hb; omega), r3, fun b hb hnb => by rw [r4 b hb, hm b hnb]⟩)
  have o5 : ∀ b, b < n + 1 → H5.get b = H4.get b := fun b hb => by
    by_cases c : ldOf [.l 105 ⟨b6, 0, none⟩] b
    · exact m4 b c
    · rw [m5 b c, m3 b hb c]
  have hf5 : CellsF H5 g 859 117 f := by
    obtain ⟨c, a1, a2, a3⟩ := hf4
    exact ⟨c, (o5 g (by omega)).trans a1, a2, a3⟩
  have hx5 : SliceR H5 n5 2 x np ps := (hx2.keep (fun b hb => by rw [o5 b (by omega), q1 b (by omega)]) (Nat.le_refl _)).up (by omega)
  obtain ⟨r, H6, n6, r0, r1, r2, r3⟩ := right_call (ρ := Ex × St) l (show g < n5 by omega) hf5 hs hx5 hnp hX.1
  have o6 : ∀ b, b < n → H6.get b = H2.get b := fun b hb => by rw [r3 b (by omega), o5 b (by omega), q1 b hb]
  have i9 := (o6 b9 (by omega)).trans g9
  have hu6 : VecAt H6 base n6 1 3 u len xs := hu2.same (by omega) fun b hb _ => o6 b hb
  have hr : r = true ↔ spareB js ks ps L nj np p = true := by
    rw [r0, right_iff hX hnp, spareB_iff]
    exact ⟨fun h => ⟨hpL, h⟩, fun h => h.2⟩
  have hbody : ∃ T' u' H7 n7, (cal (l + 5)).body lb 47 bod47 { T := ((T.set 25 (some (.int .i64 p))).set 26 (some q0)).set 10 (some (.int .i64 p)), H := H2, n := n, D := [] } = some (.norm, { T := T', H := H7, n := n7, D := [] }) ∧ n6 ≤ n7 ∧ H7.get b9 = some (.cells [u'] 44 false none) ∧
      (if spareB js ks ps L nj np p = true then VecAt H7 base n7 1 3 u' (len + 1) (xs ++ [(p : Int)]) else VecAt H7 base n7 1 3 u' len xs) ∧ ∀ b, b < base → b ≠ b9 → H7.get b = H6.get b := by
    rw [← hT, bod47_eq (l + 4), addrV_eq, bindO_some, load_all g7 agg121 sz121 lens, bindO_some, k3, at121 _ (by omega), bindO_some, hst, bindO_some, addrV_eq, bindO_some, l6, bindO_some, bindO_some, l6, bindO_some, addrV_eq, bindO_some, load_all q2 agg121 sz121 lens', bindO_some, m1, r1]
    cases r with
    | false =>
      rw [ifK_f]
      refine ⟨_, u, H6, n6, rfl, Nat.le_refl _, i9, ?_, fun _ _ _ => rfl⟩
      rw [if_neg (fun h => absurd (hr.2 h) (by simp))]
      exact hu6
    | true =>
      have l9 : loadV P H6 44 ⟨b9, 0, none⟩ = some u := loadV_scalar (o := 0) (k := 0) (cells_at i9) agg44 rfl hu6.leaf.2.1 hu6.leaf.2.2
      obtain ⟨u', Hr, H7, d0, d1, d2, d3, d4⟩ := push_int2 (ρ := Ex × St) hu6 (by omega) (by omega) (p : Int)
      have j9 : H7.get b9 = some (.cells [u] 44 false none) := (d3 b9 (by omega) (fun q => by have := (hu6.low q).1; omega)).trans i9
      have hs9 := storeN_all (vs := [u']) j9 rfl (by simp [d2.leaf.1])
      rw [ifK_t, addrV_eq, bindO_some, l9, bindO_some, d0, d1, storeP_leaf sz44 d2.leaf.1, hs9, bindO_some]
      refine ⟨_, u', _, _, rfl, by omega, by rw [Tr.get_set, if_pos rfl], ?_, fun b hb hne => ?_⟩
      · rw [if_pos (hr.1 rfl)]
        exact d2.same (Nat.le_refl _) fun b hb q => by rw [Tr.get_set, if_neg (by have := (d2.low q).1; omega)]
      · rw [Tr.get_set, if_neg hne]
        exact d3 b (by omega) (fun q => by have := (hu6.low q).1; omega)
  obtain ⟨T', u', H7, n7, hbody, c1, c2, c3, c4⟩ := hbody
  have g7l : H7.get lb = some (.loop .busy none 47 T (ntm P 47) #[25, 26] asg47 bod47 d) := by rw [c4 lb hlb (Ne.symm e9), o6 lb (by omega)]; exact gl
  have hend : setLoop H7 lb .ready none = some (H7.set lb (some (.loop .ready none 47 T (ntm P 47) #[25, 26] asg47 bod47 d))) := by unfold setLoop; rw [g7l]
  refine ⟨u', H7.set lb (some (.loop .ready none 47 T (ntm P 47) #[25, 26] asg47 bod47 d)), n7, fun k => ?_, by omega, by rw [Tr.get_set, if_pos rfl, hl], by rw [Tr.get_set, if_neg e9]; exact c2, ?_, fun b hb h1 h2 => by rw [Tr.get_set, if_neg h1, c4 b hb h2, o6 b (by omega), ho b h1]⟩
  · show stK (yieldF (fun | some l' => (cal (l + 5)).body l' | none => fun _ _ _ => none) P lb [.int .i64 p, q0] (bare H n)) k = _
    have hy : yieldF (fun | some l' => (cal (l + 5)).body l' | none => fun _ _ _ => none) P lb [.int .i64 p, q0] (bare H n) = some (.bool true, { bare H n with H := H7.set lb (some (.loop .ready none 47 T (ntm P 47) #[25, 26] asg47 bod47 d)), n := n7 }) := by
      unfold yieldF
      have hb : Nat.beq (ntm P 47) (ntm P 47) = true := Nat.beq_refl _
      have hx : exCode .norm = some none := rfl
      simp only [bare, hl, hb, hpar, hasg, hrdy, hpen, hbusy, hbody, hx, Option.isNone_none, if_true, hend]
    rw [hy]
    rfl
  · by_cases hsp : spareB js ks ps L nj np p = true
    · rw [if_pos hsp] at c3 ⊢
      exact c3.same (Nat.le_refl _) fun b hb q => by rw [Tr.get_set, if_neg (by have := (c3.low q).1; omega)]
    · rw [if_neg hsp] at c3 ⊢
      exact c3.same (Nat.le_refl _) fun b hb q => by rw [Tr.get_set, if_neg (by have := (c3.low q).1; omega)]
end Go.Proofs.Ytgojjellogiglaa.spec
end
section
namespace Go.Proofs.Ytgojjellogiglaa.spec
open Go Go.Ev Go.Proofs.Ytgojjellogiglaa.nestFits Go.Proofs.Ytgojjellogiglaa.G
set_option maxRecDepth 100000
variable {ρ : Type}
theorem zero105 : zeroT P 105 = some (.pointer none) := by kernel_rfl
theorem sz105 : szT P 105 = some 1 := by kernel_rfl
theorem zero44 : zeroT P 44 = some (.slice none 0 0) := by kernel_rfl
theorem Spare_spec (l : Nat) {np nj nk nl : Nat} {ps js ks ls : List Int} {H : Hp} {n : Nat} {v w : Value} (hg : GroveP H n v np nj nk ps js ks) (hw : ListR H n w nl ls) (hnp : np ≤ 1000) (hnj : nj ≤ 1000) (hnk : nk ≤ 1000) :
    (placedN np nj nk nl ps js ks ls ≠ 0 → Ret ((cal (l + 8)).call 47 [v, w] H n) n H (.tuple ⟨[.slice none 0 0, .int .i64 (placedN np nj nk nl ps js ks ls)]⟩)) ∧
    (placedN np nj nk nl ps js ks ls = 0 → ∃ u H' n', (cal (l + 8)).call 47 [v, w] H n = some (.tuple ⟨[u, .int .i64 0]⟩, H', n') ∧ n ≤ n' ∧ Keep n H H' ∧ ListR H' n' u (listOf (spareB js ks ps (laidL ls np) nj np) 8).length (listOf (spareB js ks ps (laidL ls np) nj np) 8)) := by
  have hg0 := hg
  obtain ⟨x, y, z, rfl, h1, h2, h3⟩ := hg
  rw [call47, pre47, boxK_eq]
  simp only [cellsV, ptr]
  have hk : Keep n H (H.set n (some (.cells [x, y, z] 35 false none))) := (Keep.refl n H).set (Nat.le_refl _) _
  have hb : CellsAt (H.set n (some (.cells [x, y, z] 35 false none))) n 0 [x, y, z] := CellsAt.new
  generalize H.set n (some (.cells [x, y, z] 35 false none)) = H1 at hk hb ⊢
  have lg : loadV P H1 35 ⟨n, 0, none⟩ = some (.agg ⟨[x, y, z]⟩) := loadV_agg (o := 0) (k := 0) hb agg35 sz35 (by simp) (by simp [h1.hole.1, h2.hole.1, h3.hole.1])
  obtain ⟨o1, o2⟩ := openLaid_spec l (hg0.keep hk (show n ≤ n + 1 by omega)) (hw.keep hk (show n ≤ n + 1 by omega)) hnp hnj hnk
  rw [addrV_eq, bindO_some, lg, bindO_some, openLaid_call]
  have cells : ∀ (H2 : Hp) (n2 : Nat) (q : Option Addr) (L : List Int), L.length = 8 → ∃ H3, Keep n2 H2 H3 ∧ H3.get n2 = some (.cells [.pointer q] 105 false none) ∧ H3.get (n2 + 1) = some (.cells (ints L) 121 false none) ∧
      ∀ k : Value → Value → Hp → Nat → Res, (allocK P 105 H2 n2 fun v6 H n => allocK P 121 H n fun v7 H n => bindO (storeP P 105 v6 (.pointer q) H) fun H => bindO (storeP P 121 v7 (.agg ⟨ints L⟩) H) fun H => k v6 v7 H n) = k (.pointer (some ⟨n2, 0, none⟩)) (.pointer (some ⟨n2 + 1, 0, none⟩)) H3 (n2 + 1 + 1) := by
    intro H2 n2 q L hL
    have lens : (ints L).length = 8 := by rw [ints_length, hL]
    have e1 : ((H2.set n2 (some (.cells [.pointer none] 105 false none))).set (n2 + 1) (some (.cells (ints (List.replicate 8 0)) 121 false none))).get n2 = some (.cells [.pointer none] 105 false none) := by rw [Tr.get_set, if_neg (by omega), Tr.get_set, if_pos rfl]
    have e2 : ((H2.set n2 (some (.cells [.pointer none] 105 false none))).set (n2 + 1) (some (.cells (ints (List.replicate 8 0)) 121 false none))).get (n2 + 1) = some (.cells (ints (List.replicate 8 0)) 121 false none) := by rw [Tr.get_set, if_pos rfl]
    have e3 : Keep n2 H2 ((H2.set n2 (some (.cells [.pointer none] 105 false none))).set (n2 + 1) (some (.cells (ints (List.replicate 8 0)) 121 false none))) := ((Keep.refl n2 H2).set (Nat.le_refl _) _).set (by omega) _
    have ha : ∀ k : Value → Value → Hp → Nat → Res, (allocK P 105 H2 n2 fun v6 H n => allocK P 121 H n fun v7 H n => k v6 v7 H n) = k (.pointer (some ⟨n2, 0, none⟩)) (.pointer (some ⟨n2 + 1, 0, none⟩)) ((H2.set n2 (some (.cells [.pointer none] 105 false none))).set (n2 + 1) (some (.cells (ints (List.replicate 8 0)) 121 false none))) (n2 + 1 + 1) := by
      intro k
      rw [allocK_eq zero105, allocK_eq zero121]
      rfl
    generalize (H2.set n2 (some (.cells [.pointer none] 105 false none))).set (n2 + 1) (some (.cells (ints (List.replicate 8 0)) 121 false none)) = H3 at e1 e2 e3 ha
    have s1 := storeN_all (vs := [.pointer q]) e1 rfl rfl
    have f2 : (H3.set n2 (some (.cells [.pointer q] 105 false none))).get (n2 + 1) = some (.cells (ints (List.replicate 8 0)) 121 false none) := by rw [Tr.get_set, if_neg (by omega)]; exact e2
    have s2 := storeN_all (vs := ints L) f2 (by rw [lens]; rfl) (ints_leaf _)
    refine ⟨_, (e3.set (Nat.le_refl _) (some (.cells [.pointer q] 105 false none))).set (show n2 ≤ n2 + 1 by omega) (some (.cells (ints L) 121 false none)), by rw [Tr.get_set, if_neg (by omega), Tr.get_set, if_pos rfl], by rw [Tr.get_set, if_pos rfl], fun k => ?_⟩
    rw [ha, storeP_leaf sz105 rfl, s1, bindO_some, storeP_agg sz121 lens, s2, bindO_some]
  constructor
  · intro hne
    obtain ⟨H2, n2, e1, e2, e3⟩ := o1 hne
    have t0 : tupV (.tuple ⟨[.pointer none, .agg ⟨ints (List.replicate 8 0)⟩, .int .i64 (placedN np nj nk nl ps js ks ls)]⟩) 0 = some (.pointer none) := rfl
    have t1 : tupV (.tuple ⟨[.pointer none, .agg ⟨ints (List.replicate 8 0)⟩, .int .i64 (placedN np nj nk nl ps js ks ls)]⟩) 1 = some (.agg ⟨ints (List.replicate 8 0)⟩) := rfl
    have t2 : tupV (.tuple ⟨[.pointer none, .agg ⟨ints (List.replicate 8 0)⟩, .int .i64 (placedN np nj nk nl ps js ks ls)]⟩) 2 = some (.int .i64 (placedN np nj nk nl ps js ks ls)) := rfl
    obtain ⟨H3, k1, _, _, k4⟩ := cells H2 n2 none (List.replicate 8 0) rfl
    rw [e1, bindO_some, t0, bindO_some, t1, bindO_some, t2, bindO_some]
    dsimp only
    rw [k4, binK_some bin_neq, decide_eq_false hne, Bool.not_false, ifK_t]
    exact ⟨H3, n2 + 1 + 1, rfl, by omega, (hk.trans e3 (by omega)).trans k1 (by omega)⟩
  · intro he
    obtain ⟨⟨g, x', y', z', f, H2, n2, e1, e2, e3, e4, e5, e6, e7, e8, e9⟩, hnl, hok, hft⟩ := o2 he
    simp only [Value.agg.injEq, Array.mk.injEq, List.cons.injEq, and_true] at e6
    obtain ⟨rfl, rfl, rfl⟩ := e6
    have good := good_of hft
    subst hnl
    have np8 := good.np8
    have nk3 := good.nk3
    have l8 := laidL_len hw.1 good.np8
    generalize hLL : laidL ls nl = L at *
    have hK : KindsIn L nl nk := by rw [← hLL]; exact laid_kinds hw.1 hok
    have lens : (ints L).length = 8 := by rw [ints_length, l8]
    have t0 : tupV (.tuple ⟨[.pointer (some ⟨g, 0, none⟩), .agg ⟨ints L⟩, .int .i64 0]⟩) 0 = some (.pointer (some ⟨g, 0, none⟩)) := rfl
    have t1 : tupV (.tuple ⟨[.pointer (some ⟨g, 0, none⟩), .agg ⟨ints L⟩, .int .i64 0]⟩) 1 = some (.agg ⟨ints L⟩) := rfl
    have t2 : tupV (.tuple ⟨[.pointer (some ⟨g, 0, none⟩), .agg ⟨ints L⟩, .int .i64 0]⟩) 2 = some (.int .i64 0) := rfl
    have d0 : decide ((0 : Int) = 0) = true := rfl
    obtain ⟨H3, k1, k2, k3, k4⟩ := cells H2 n2 (some ⟨g, 0, none⟩) L l8
    rw [e1, bindO_some, t0, bindO_some, t1, bindO_some, t2, bindO_some]
    dsimp only
    rw [k4, binK_some bin_neq, d0, Bool.not_true, ifK_f, allocK_eq zero44]
    simp only [cellsV, ptr]
    have p6 : (H3.set (n2 + 1 + 1) (some (.cells [.slice none 0 0] 44 false none))).get n2 = some (.cells [.pointer (some ⟨g, 0, none⟩)] 105 false none) := by rw [Tr.get_set, if_neg (by omega)]; exact k2
    have p7 : (H3.set (n2 + 1 + 1) (some (.cells [.slice none 0 0] 44 false none))).get (n2 + 1) = some (.cells (ints L) 121 false none) := by rw [Tr.get_set, if_neg (by omega)]; exact k3
    have p9 : (H3.set (n2 + 1 + 1) (some (.cells [.slice none 0 0] 44 false none))).get (n2 + 1 + 1) = some (.cells [.slice none 0 0] 44 false none) := by rw [Tr.get_set, if_pos rfl]
    have kk : Keep n2 H2 (H3.set (n2 + 1 + 1) (some (.cells [.slice none 0 0] 44 false none))) := k1.set (by omega) _
    generalize H3.set (n2 + 1 + 1) (some (.cells [.slice none 0 0] 44 false none)) = H4 at p6 p7 p9 kk ⊢
    have l6 : loadV P H4 105 ⟨n2, 0, none⟩ = some (.pointer (some ⟨g, 0, none⟩)) := loadV_scalar (o := 0) (k := 0) (cells_at p6) agg105 rfl rfl rfl
    rw [addrV_eq, bindO_some, l6, bindO_some, addrV_eq, bindO_some, load_all p7 agg121 sz121 lens, bindO_some, placed_call (l + 6), range47]
    generalize hH5 : (H4.set (n2 + 1 + 1 + 1) (some (.cells [.pointer (some ⟨g, 0, none⟩)] 105 false none))).set (n2 + 1 + 1 + 1 + 1) (some (.cells (ints L) 121 false none)) = H5
    have q1 : ∀ b, b < n2 + 1 + 1 + 1 → H5.get b = H4.get b := fun b hb => by rw [← hH5, Tr.get_set, if_neg (by omega), Tr.get_set, if_neg (by omega)]
    have q3 : H5.get (n2 + 1 + 1 + 1) = some (.cells [.pointer (some ⟨g, 0, none⟩)] 105 false none) := by rw [← hH5, Tr.get_set, if_neg (by omega), Tr.get_set, if_pos rfl]
    have q4 : H5.get (n2 + 1 + 1 + 1 + 1) = some (.cells (ints L) 121 false none) := by rw [← hH5, Tr.get_set, if_pos rfl]
    clear hH5
    generalize hT : T47 (.agg ⟨[x, y, z]⟩) w (.pointer (some ⟨n, 0, none⟩)) (.agg ⟨[x, y, z]⟩) (.tuple ⟨[.pointer (some ⟨g, 0, none⟩), .agg ⟨ints L⟩, .int .i64 0]⟩) (.pointer (some ⟨g, 0, none⟩)) (.agg ⟨ints L⟩) (.int .i64 0) (.pointer (some ⟨n2, 0, none⟩)) (.pointer (some ⟨n2 + 1, 0, none⟩)) (.bool false) (.pointer (some ⟨n2 + 1 + 1, 0, none⟩)) (.pointer (some ⟨g, 0, none⟩)) (.agg ⟨ints L⟩) (.func (.func 104) ⟨[]⟩ ⟨[.pointer (some ⟨n2 + 1 + 1 + 1 + 1, 0, none⟩), .pointer (some ⟨n2 + 1 + 1 + 1, 0, none⟩)]⟩) = T
    have hc104 : ∀ (a b c : Value) (H : Hp) (n : Nat) (k : Value → Hp → Nat → Res), pureV b = false → callFK P (cal (l + 7)) 104 [a, b, c] H n k = bindO (C104_0 (cal (l + 6)) KK a b c H n) fun r => k r.1 r.2.1 r.2.2 := by
      intro a b c H n k hb
      unfold callFK
      have : (flatF P 104 && pureL [a, b, c]) = false := by simp [pureL, hb]
      rw [this, call104]
    rw [hc104 _ _ _ _ _ _ rfl]
    generalize hH6 : (H5.set (n2 + 1 + 1 + 1 + 2) (some .deferred)).set (n2 + 1 + 1 + 1 + 2 + 1) (some (.loop .ready none 47 T (ntm P 47) #[25, 26] asg47 bod47 (n2 + 1 + 1 + 1 + 2))) = H6
    have r1 : ∀ b, b < n2 + 1 + 1 + 1 + 2 → H6.get b = H5.get b := fun b hb => by rw [← hH6, Tr.get_set, if_neg (by omega), Tr.get_set, if_neg (by omega)]
    have r2 : H6.get (n2 + 1 + 1 + 1 + 2) = some .deferred := by rw [← hH6, Tr.get_set, if_neg (by omega), Tr.get_set, if_pos rfl]
    have r3 : H6.get (n2 + 1 + 1 + 1 + 2 + 1) = some (.loop .ready none 47 T (ntm P 47) #[25, 26] asg47 bod47 (n2 + 1 + 1 + 1 + 2)) := by rw [← hH6, Tr.get_set, if_pos rfl]
    clear hH6
    have low : ∀ b, b < n2 → H6.get b = H2.get b := fun b hb => by rw [r1 _ (by omega), q1 _ (by omega), kk _ hb]
    have l104 : loadV P H6 121 ⟨n2 + 1 + 1 + 1 + 1, 0, none⟩ = some (.agg ⟨ints L⟩) := load_all (by rw [r1 _ (by omega)]; exact q4) agg121 sz121 lens
    have hx6 : SliceR H6 (n + 1) 2 x nl ps := (h1.keep (fun b hb => by rw [low b (by omega), e3 b (by omega), hk b hb]) (Nat.le_refl _)).up (by omega)
    have hf6 : CellsF H6 g 859 117 f := by
      obtain ⟨c, a1, a2, a3⟩ := e7
      exact ⟨c, (low g e5).trans a1, a2, a3⟩
    generalize hsp : spareB js ks ps L nj nl = sp
    obtain ⟨H7, n7, i0, i1, i2, u, i3, i4, i5⟩ := iter104_loop (cal (l + 6)) KK (.func (.yield (n2 + 1 + 1 + 1 + 2 + 1)) #[] #[]) (n2 + 1 + 1 + 1) g nl nj nk js ks L l8 hK good.np8 good.nk3
      (fun i Hc nc => n2 + 1 + 1 + 1 + 2 + 2 ≤ nc ∧ Hc.get (n2 + 1 + 1 + 1 + 2 + 1) = some (.loop .ready none 47 T (ntm P 47) #[25, 26] asg47 bod47 (n2 + 1 + 1 + 1 + 2)) ∧ ∃ u, Hc.get (n2 + 1 + 1) = some (.cells [u] 44 false none) ∧ VecAt Hc (n2 + 1 + 1 + 1 + 2 + 2) nc 1 3 u (listOf sp i).length (listOf sp i) ∧ ∀ b, b < n2 + 1 + 1 + 1 + 2 + 2 → b ≠ n2 + 1 + 1 + 1 + 2 + 1 → b ≠ n2 + 1 + 1 → Hc.get b = H6.get b)
      (fun i Hc nc ⟨_, _, u, _, _, h⟩ => by
        refine ⟨loadV_scalar (o := 0) (k := 0) (cells_at (by rw [h _ (by omega) (by omega) (by omega), r1 _ (by omega)]; exact q3)) agg105 rfl rfl rfl, fun p kd hp hkd => ?_⟩
        have cg : CellsF Hc g 859 117 f := by
          obtain ⟨c, a1, a2, a3⟩ := hf6
          exact ⟨c, by rw [h _ (by omega) (by omega) (by omega)]; exact a1, a2, a3⟩
        exact nest_load cg (e9 p kd hp hkd) (by omega) (by omega))
      (fun i Hc nc kd B ⟨j1, j2, u, j3, j4, j5⟩ hip hkd hLi hB => by
        have hsm := (listOf_small sp i (by omega)).1
        rw [← hT] at j2
        obtain ⟨u', H', n', z1, z2, z3, z4, z5, z6⟩ := yield47 (ρ := Value × Hp × Nat) (l + 1) (n := nc) (n0 := n + 1) (ps := ps) (js := js) (ks := ks) (np := nl) (nj := nj) (nk := nk) (p := i) (x := x) (y := y) (z := z) (f := f) (g := g) (q0 := .agg ⟨ints (nestL (ks.getD (kd * 5) 0) (shP js ks nj nl i kd) B)⟩) j2
          (by rw [j5 _ (by omega) (by omega) (by omega), r1 _ (by omega), q1 _ (by omega)]; exact p6) (by rw [j5 _ (by omega) (by omega) (by omega), r1 _ (by omega), q1 _ (by omega)]; exact p7) j3 j4 (by omega)
          (by
            obtain ⟨c, a1, a2, a3⟩ := hf6
            exact ⟨c, by rw [j5 _ (by omega) (by omega) (by omega)]; exact a1, a2, a3⟩) e8 e9 good.kinds good.np8 good.nk3 (hx6.keep (fun b hb => j5 b (by omega) (by omega) (by omega)) (Nat.le_refl _)) l8 hK hip (by omega)
          j1 (by omega) (by omega) (by omega) (by omega) (by omega) (by omega) (by omega) (by omega) (by omega) (by omega)
        refine ⟨H', n', z1, by omega, by rw [z3, j2, hT], u', z4, ?_, fun b hb hb1 hb2 => (z6 b hb hb1 hb2).trans (j5 b hb hb1 hb2)⟩
        rw [hsp] at z5
        rw [listOf_next sp]
        by_cases c : sp i = true
        · rw [if_pos c] at z5 ⊢
          rw [List.length_append]
          exact z5
        · rw [if_neg c] at z5 ⊢
          rw [List.append_nil]
          exact z5)
      (fun i Hc nc ⟨j1, j2, u, j3, j4, j5⟩ hLi => ⟨j1, j2, u, j3, by
        have : ¬ sp i = true := by
          rw [← hsp, spareB_iff]
          exact fun h => h.1 hLi
        rw [listOf_next sp, if_neg this, List.append_nil]
        exact j4, j5⟩)
      KK 0 H6 (n2 + 1 + 1 + 1 + 2 + 2) ⟨Nat.le_refl _, r3, .slice none 0 0, by rw [r1 _ (by omega), q1 _ (by omega)]; exact p9, ⟨rfl, .inl ⟨rfl, rfl⟩⟩, fun _ _ _ _ => rfl⟩ (by omega) (by unfold KK; omega)
    have e3' : C104_0 (cal (l + 6)) KK (.func (.yield (n2 + 1 + 1 + 1 + 2 + 1)) #[] #[]) (.pointer (some ⟨n2 + 1 + 1 + 1 + 1, 0, none⟩)) (.pointer (some ⟨n2 + 1 + 1 + 1, 0, none⟩)) H6 (n2 + 1 + 1 + 1 + 2 + 2) = some (.tuple ⟨[]⟩, H7, n7) := by
      unfold C104_0 B104_0
      rw [addrV_eq, bindO_some, l104, bindO_some]
      exact i0
    rw [e3', bindO_some]
    have hout : rangeOut (n2 + 1 + 1 + 1 + 2 + 1) { T := T, H := H7, n := n7, D := [n2 + 1 + 1 + 1 + 2] } = some (.norm, { T := T, H := H7.set (n2 + 1 + 1 + 1 + 2 + 1) (some (.loop .exhausted none 47 T (ntm P 47) #[25, 26] asg47 bod47 (n2 + 1 + 1 + 1 + 2))), n := n7, D := [n2 + 1 + 1 + 1 + 2] }) := by
      unfold rangeOut
      simp only [i2]
    rw [hout]
    show ∃ u H' n', K47 (cal (l + 7)) KK T (H7.set (n2 + 1 + 1 + 1 + 2 + 1) (some (.loop .exhausted none 47 T (ntm P 47) #[25, 26] asg47 bod47 (n2 + 1 + 1 + 1 + 2)))) n7 [n2 + 1 + 1 + 1 + 2] = some (.tuple ⟨[u, .int .i64 0]⟩, H', n') ∧ n ≤ n' ∧ Keep n H H' ∧ ListR H' n' u (listOf sp 8).length (listOf sp 8)
    generalize hH8 : H7.set (n2 + 1 + 1 + 1 + 2 + 1) (some (.loop .exhausted none 47 T (ntm P 47) #[25, 26] asg47 bod47 (n2 + 1 + 1 + 1 + 2))) = H8
    have o8 : ∀ b, b ≠ n2 + 1 + 1 + 1 + 2 + 1 → H8.get b = H7.get b := fun b hb => by rw [← hH8, Tr.get_set, if_neg hb]
    clear hH8 hout
    have o9 := (o8 (n2 + 1 + 1) (by omega)).trans i3
    have l9 : loadV P H8 44 ⟨n2 + 1 + 1, 0, none⟩ = some u := loadV_scalar (o := 0) (k := 0) (cells_at o9) agg44 rfl i4.leaf.2.1 i4.leaf.2.2
    have ht : takeD H8 [n2 + 1 + 1 + 1 + 2] = some (H8.set (n2 + 1 + 1 + 1 + 2) none) := by
      have : H8.get (n2 + 1 + 1 + 1 + 2) = some .deferred := by rw [o8 _ (by omega), i5 _ (by omega) (by omega) (by omega)]; exact r2
      unfold takeD
      simp only [this]
      rfl
    have hkeep : Keep n H (H8.set (n2 + 1 + 1 + 1 + 2) none) := fun b hb => by
      rw [Tr.get_set, if_neg (by omega), o8 _ (by omega), i5 _ (by omega) (by omega) (by omega), low _ (by omega), e3 _ (by omega), hk _ hb]
    have hv9 : VecAt (H8.set (n2 + 1 + 1 + 1 + 2) none) (n2 + 1 + 1 + 1 + 2 + 2) n7 1 3 u (listOf sp 8).length (listOf sp 8) := i4.same (Nat.le_refl _) fun b hb q => by
      have := (i4.low q).1
      rw [Tr.get_set, if_neg (by omega), o8 b (by omega)]
    rw [← hT, post47, addrV_eq, bindO_some, l9, bindO_some, ht]
    refine ⟨u, H8.set (n2 + 1 + 1 + 1 + 2) none, n7, ?_, by omega, hkeep, VecAt.list hv9 (listOf_small sp 8 (by omega)).2⟩
    show (bindO (resV P (((Tr.nil : Tm).set 5 (some (.int .i64 0))).set 4 (some u)) (H8.set (n2 + 1 + 1 + 1 + 2) none) results47) fun vs => some (oneV vs, H8.set (n2 + 1 + 1 + 1 + 2) none, n7)) = _
    rw [res47]
    rfl
theorem flat47 : flatF P 47 = false := by kernel_rfl
theorem Spare_call (c : Cal) (v w : Value) (H : Hp) (n : Nat) (k : Value → Hp → Nat → Option ρ) : callFK P c 47 [v, w] H n k = bindO (c.call 47 [v, w] H n) fun r => k r.1 r.2.1 r.2.2 := by
  unfold callFK
  rw [flat47]
  rfl
end Go.Proofs.Ytgojjellogiglaa.spec
end
section
namespace Go.Proofs.Ytgojjellogiglaa.spec
open Go Go.Ev Go.Proofs.Ytgojjellogiglaa.nestFits Go.Proofs.Ytgojjellogiglaa.G
set_option maxRecDepth 100000
variable {ρ : Type}
theorem min70 (a b : Int) (H : Hp) (n : Nat) (k : Value → Hp → Nat → Option ρ) :
    builtinK P .min [3, 3] (Go.Call.mk (Go.Callee.builtin Go.Builtin.min) #[(Go.Operand.tmp 33), (Go.Operand.tmp 34)] #[3, 3]) 3 [.int .i64 a, .int .i64 b] H n k = k (.int .i64 (min a b)) H n := by
  have h : min a b = if b < a then b else a := by omega
  rw [h]
  rfl
theorem build55v (a b : Int) : buildP P 55 [(0, .int .i64 a), (1, .int .i64 b)] = some (.agg ⟨[.int .i64 a, .int .i64 b]⟩) := by kernel_rfl
theorem res70 (H : Hp) (b : Nat) : resV P (Tr.set Tr.nil 8 (some (.pointer (some ⟨b, 0, none⟩)))) H results70 = (match loadV P H 55 ⟨b, 0, none⟩ with
  | some v => some [v]
  | none => none) := by kernel_rfl
theorem end70 {H : Hp} {n b : Nat} {u w : Int} {c : List Value} (hg : H.get b = some (.cells c 55 false none)) (hc : c.length = 2) :
    (bindO (storeP P 55 (.pointer (some ⟨b, 0, none⟩)) (.agg ⟨[.int .i64 u, .int .i64 w]⟩) H) fun H' => bindO (resV P (Tr.set Tr.nil 8 (some (.pointer (some ⟨b, 0, none⟩)))) H' results70) fun vs => some (oneV vs, H', n)) =
      some (.agg ⟨[.int .i64 u, .int .i64 w]⟩, H.set b (some (.cells [.int .i64 u, .int .i64 w] 55 false none)), n) := by
  have hst := storeN_whole (vs := [.int .i64 u, .int .i64 w]) hg (by rw [hc]; rfl) rfl
  have hld : loadV P (H.set b (some (.cells [.int .i64 u, .int .i64 w] 55 false none))) 55 ⟨b, 0, none⟩ = some (.agg ⟨[.int .i64 u, .int .i64 w]⟩) :=
    loadV_agg (o := 0) (k := 0) (CellsAt.new (n := b)) agg55 sz55 (by simp) rfl
  rw [store55, hst, bindO_some, res70, hld]
  rfl
theorem cells_of {H : Hp} {b : Nat} {vs : List Value} {e : TypeId} {ro : Bool} {vec : Option Nat} (h : H.get b = some (.cells vs e ro vec)) : CellsAt H b 0 vs :=
  ⟨_, vs, h, rfl, fun k v h => by simpa using h⟩
structure PartAt (H0 H : Hp) (base n g : Nat) (x y z : Value) (lo hi r1 r2 : Int) : Prop where
  keep : Keep base H0 H
  below : base + 3 ≤ g
  top : g < n
  box : H.get base = some (.cells [x, y, z] 26 false none)
  res : H.get (base + 1) = some (.cells [.int .i64 0, .int .i64 0] 55 false none)
  out : H.get (base + 2) = some (.cells [.int .i64 lo, .int .i64 hi] 55 false none)
  row : H.get g = some (.cells [.int .i64 r1, .int .i64 r2] 55 false none)
theorem PartAt.go {H0 H H' : Hp} {base n n' g : Nat} {x y z : Value} {lo hi r1 r2 : Int} (h : PartAt H0 H base n g x y z lo hi r1 r2) (hk : Keep n H H') (hn : n ≤ n') : PartAt H0 H' base n' g x y z lo hi r1 r2 := by
  have := h.below
  have := h.top
  exact ⟨h.keep.trans hk (by omega), h.below, by omega, (hk _ (by omega)).trans h.box, (hk _ (by omega)).trans h.res, (hk _ (by omega)).trans h.out, (hk _ (by omega)).trans h.row⟩
theorem PartAt.put {H0 H : Hp} {base n g : Nat} {x y z : Value} {lo hi r1 r2 : Int} (h : PartAt H0 H base n g x y z lo hi r1 r2) (u w : Int) : PartAt H0 (H.set (base + 2) (some (.cells [.int .i64 u, .int .i64 w] 55 false none))) base n g x y z u w r1 r2 := by
  have := h.below
  refine ⟨h.keep.set (by omega) _, h.below, h.top, ?_, ?_, ?_, ?_⟩
  · rw [Tr.get_set, if_neg (by omega)]; exact h.box
  · rw [Tr.get_set, if_neg (by omega)]; exact h.res
  · rw [Tr.get_set, if_pos rfl]
  · rw [Tr.get_set, if_neg (by omega)]; exact h.row
def PartTo (A B a lo hi lo' hi' : Int) : Prop := (max a A ≤ B ∧ lo' = min lo (max a A) ∧ hi' = B) ∨ (B < max a A ∧ lo' = lo ∧ hi' = hi)
theorem part_loop (l k : Nat) {np nj nk : Nat} {ps js ks : List Int} (hnj : nj ≤ KK) (hnp : np ≤ 100) (kind : Nat) (hk : kind < nk) (at_ pad : Int) (hs : Small ks nk) {H0 : Hp} {base g : Nat} {x y z : Value} {r1 r2 A B : Int} (hr : r2 ≤ 1000) (hB : B ≤ r2)
    (hg : GroveI H0 base (.agg ⟨[x, y, z]⟩) np nj nk ps js ks) (hAB : ∀ a, 0 ≤ a → a ≤ r2 → r1 ≤ a → (someB js ks nj np kind at_ pad a ↔ A ≤ a ∧ a ≤ B)) :
    ∀ (m : Nat) (a lo hi : Int) (H : Hp) (n : Nat), PartAt H0 H base n g x y z lo hi r1 r2 → 0 ≤ a → r1 ≤ a → a ≤ r2 + 1 → r2 + 1 - a ≤ m →
    ∃ lo' hi', PartTo A B a lo hi lo' hi' ∧ Ret (S70_1 (cal (l + 3)) k m (.int .i64 kind) (.int .i64 at_) (.int .i64 pad) (.pointer (some ⟨base, 0, none⟩)) (.pointer (some ⟨base + 1, 0, none⟩)) (.pointer (some ⟨base + 2, 0, none⟩)) (.pointer (some ⟨g, 0, none⟩)) (.int .i64 a) H n) base H0 (.agg ⟨[.int .i64 lo', .int .i64 hi']⟩) := by
  have body : ∀ (b1 : Value → Value → Value → Value → Value → Value → Value → Value → Hp → Nat → Res) (m : Nat) (a lo hi : Int) (H : Hp) (n : Nat), PartAt H0 H base n g x y z lo hi r1 r2 → 0 ≤ a → r1 ≤ a → a ≤ r2 + 1 →
      (∀ H' n' lo2 hi2, PartAt H0 H' base n' g x y z lo2 hi2 r1 r2 → a ≤ r2 → ∃ lo' hi', PartTo A B (a + 1) lo2 hi2 lo' hi' ∧
        Ret (b1 (.int .i64 kind) (.int .i64 at_) (.int .i64 pad) (.pointer (some ⟨base, 0, none⟩)) (.pointer (some ⟨base + 1, 0, none⟩)) (.pointer (some ⟨base + 2, 0, none⟩)) (.pointer (some ⟨g, 0, none⟩)) (.int .i64 (a + 1)) H' n') base H0 (.agg ⟨[.int .i64 lo', .int .i64 hi']⟩)) →
      ∃ lo' hi', PartTo A B a lo hi lo' hi' ∧ Ret (C70_1 (cal (l + 3)) k m b1 (.int .i64 kind) (.int .i64 at_) (.int .i64 pad) (.pointer (some ⟨base, 0, none⟩)) (.pointer (some ⟨base + 1, 0, none⟩)) (.pointer (some ⟨base + 2, 0, none⟩)) (.pointer (some ⟨g, 0, none⟩)) (.int .i64 a) H n) base H0 (.agg ⟨[.int .i64 lo', .int .i64 hi']⟩) := by
    intro b1 m a lo hi H n st ha har ha2 ih
    have hbel := st.below
    have htop := st.top
    have lr : loadV P H 3 ⟨g, 0 + 1, none⟩ = some (.int .i64 r2) := loadV_int (cells_of st.row) agg3 rfl
    obtain ⟨x', y', z', hxyz, h1, h2, h3⟩ := hg.eq
    cases hxyz
    unfold C70_1 B70_1
    rw [fa55_1, bindO_some, addrV_eq, bindO_some, lr, bindO_some, binK_some bin_leq, ifK_d]
    by_cases hle : a ≤ r2
    · have hI : I64 (a + 1) := by unfold I64; omega
      rw [if_pos hle, addrV_eq, bindO_some, load26 (cells_of st.box) h1.hole.1 h2.hole.1 h3.hole.1, bindO_some]
      obtain ⟨r, H1, n1, hrr, e, e2, e3⟩ := some_call (ρ := Value × Hp × Nat) l hnj hnp kind hk at_ pad a (by omega) hs (hg.keep st.keep (show base ≤ n by omega))
      have s1 := st.go e3 e2
      rw [e]
      have hq := hAB a ha hle har
      cases r with
      | true =>
        have hin := hq.1 (hrr.1 rfl)
        obtain ⟨lo', hi', p1, p2⟩ := ih _ n1 (min lo a) a (s1.put (min lo a) a) hle
        have l0 : loadV P H1 3 ⟨base + 2, 0 + 0, none⟩ = some (.int .i64 lo) := loadV_int (cells_of s1.out) agg3 rfl
        rw [ifK_t, fa55_0, bindO_some, addrV_eq, bindO_some, l0, bindO_some, min70, build55v, bindO_some, store55, storeN_whole (c := [.int .i64 lo, .int .i64 hi]) (vs := [.int .i64 (min lo a), .int .i64 a]) (e := 55) (vec := none) s1.out rfl rfl, bindO_some]
        unfold C70_2 B70_2
        rw [binK_some (bin_add hI)]
        refine ⟨lo', hi', ?_, p2⟩
        unfold PartTo at p1 ⊢
        omega
      | false =>
        have hout : ¬ (A ≤ a ∧ a ≤ B) := fun h => absurd (hrr.2 (hq.2 h)) (by simp)
        obtain ⟨lo', hi', p1, p2⟩ := ih H1 n1 lo hi s1 hle
        rw [ifK_f]
        unfold C70_2 B70_2
        rw [binK_some (bin_add hI)]
        refine ⟨lo', hi', ?_, p2⟩
        unfold PartTo at p1 ⊢
        omega
    · have lo9 : loadV P H 55 ⟨base + 2, 0, none⟩ = some (.agg ⟨[.int .i64 lo, .int .i64 hi]⟩) := loadV_agg (o := 0) (k := 0) (cells_of st.out) agg55 sz55 (by simp) rfl
      rw [if_neg hle, addrV_eq, bindO_some, lo9, bindO_some, end70 st.res rfl]
      refine ⟨lo, hi, ?_, _, _, rfl, by omega, st.keep.set (by omega) _⟩
      unfold PartTo
      omega
  intro m
  induction m with
  | zero =>
    intro a lo hi H n h1 h2 h3 h4 h5
    exact body _ 0 a lo hi H n h1 h2 h3 h4 (fun _ _ _ _ _ h => by omega)
  | succ m ih =>
    intro a lo hi H n h1 h2 h3 h4 h5
    exact body _ (m + 1) a lo hi H n h1 h2 h3 h4 (fun H' n' lo2 hi2 q1 q2 => ih (a + 1) lo2 hi2 H' n' q1 (by omega) (by omega) (by omega) (by omega))
theorem part_spec (l : Nat) {np nj nk : Nat} {ps js ks : List Int} (hnj : nj ≤ KK) (hnp : np ≤ 100) (kind : Nat) (hk : kind < nk) (at_ pad : Int) (hs : Small ks nk) {A B : Int}
    (hAB : ∀ a, 0 ≤ a → a ≤ (reach js ks nj kind at_ pad).2 → (reach js ks nj kind at_ pad).1 ≤ a → (someB js ks nj np kind at_ pad a ↔ A ≤ a ∧ a ≤ B)) (hA : (reach js ks nj kind at_ pad).1 ≤ A) (hle : A ≤ B) (hB : B ≤ (reach js ks nj kind at_ pad).2)
    {H : Hp} {n : Nat} {v : Value} (hg : GroveI H n v np nj nk ps js ks) :
    Ret (C70_0 (cal (l + 3)) KK v (.int .i64 kind) (.int .i64 at_) (.int .i64 pad) H n) n H (.agg ⟨[.int .i64 A, .int .i64 B]⟩) := by
  have hg0 := hg
  obtain ⟨x, y, z, rfl, h1, h2, h3⟩ := hg.eq
  obtain ⟨r1, r2, r3⟩ := reach_small (js := js) (nj := nj) hs hk at_ pad
  unfold C70_0 B70_0
  generalize hS : S70_1 (cal (l + 3)) KK KK = S
  rw [boxK_eq, allocK_eq zero55, build55v, bindO_some, allocK_eq zero55, ptr, ptr, ptr, store55]
  simp only [cellsV]
  rw [storeN_whole (c := [.int .i64 0, .int .i64 0]) (vs := [.int .i64 2000, .int .i64 (-1)]) (e := 55) (vec := none) (by rw [Tr.get_set, if_pos rfl]) rfl rfl, bindO_some]
  generalize hH1 : (((H.set n (some (.cells [x, y, z] 26 false none))).set (n + 1) (some (.cells [.int .i64 0, .int .i64 0] 55 false none))).set (n + 1 + 1) (some (.cells [.int .i64 0, .int .i64 0] 55 false none))).set (n + 1 + 1) (some (.cells [.int .i64 2000, .int .i64 (-1)] 55 false none)) = H1
  have k1 : Keep n H H1 := fun b hb => by rw [← hH1, Tr.get_set, if_neg (by omega), Tr.get_set, if_neg (by omega), Tr.get_set, if_neg (by omega), Tr.get_set, if_neg (by omega)]
  have p0 : H1.get n = some (.cells [x, y, z] 26 false none) := by rw [← hH1, Tr.get_set, if_neg (by omega), Tr.get_set, if_neg (by omega), Tr.get_set, if_neg (by omega), Tr.get_set, if_pos rfl]
  have p1 : H1.get (n + 1) = some (.cells [.int .i64 0, .int .i64 0] 55 false none) := by rw [← hH1, Tr.get_set, if_neg (by omega), Tr.get_set, if_neg (by omega), Tr.get_set, if_pos rfl]
  have p2 : H1.get (n + 2) = some (.cells [.int .i64 2000, .int .i64 (-1)] 55 false none) := by rw [← hH1, Tr.get_set, if_pos rfl]
  clear hH1
  rw [addrV_eq, bindO_some, load26 (cells_of p0) h1.hole.1 h2.hole.1 h3.hole.1, bindO_some]
  obtain ⟨H2, n2, e, e2, e3⟩ := reach_call (ρ := Value × Hp × Nat) (l + 1) (hg0.keep k1 (show n ≤ n + 1 + 1 + 1 by omega)) hnj kind hk at_ pad
  rw [e, box55]
  have hk55 := keep55 (H := H2) (n := n2) (a := some (.cells [.int .i64 0, .int .i64 0] 55 false none)) (b := some (.cells [.int .i64 (reach js ks nj kind at_ pad).1, .int .i64 (reach js ks nj kind at_ pad).2] 55 false none))
  have hnew : ((H2.set n2 (some (.cells [.int .i64 0, .int .i64 0] 55 false none))).set n2 (some (.cells [.int .i64 (reach js ks nj kind at_ pad).1, .int .i64 (reach js ks nj kind at_ pad).2] 55 false none))).get n2 = some (.cells [.int .i64 (reach js ks nj kind at_ pad).1, .int .i64 (reach js ks nj kind at_ pad).2] 55 false none) := by rw [Tr.get_set, if_pos rfl]
  generalize (H2.set n2 (some (.cells [.int .i64 0, .int .i64 0] 55 false none))).set n2 (some (.cells [.int .i64 (reach js ks nj kind at_ pad).1, .int .i64 (reach js ks nj kind at_ pad).2] 55 false none)) = H3 at hk55 hnew ⊢
  have k13 : Keep (n + 1 + 1 + 1) H1 H3 := e3.trans hk55 e2
  have st : PartAt H H3 n (n2 + 1) n2 x y z 2000 (-1) (reach js ks nj kind at_ pad).1 (reach js ks nj kind at_ pad).2 :=
    ⟨k1.trans k13 (by omega), by omega, by omega, (k13 _ (by omega)).trans p0, (k13 _ (by omega)).trans p1, (k13 _ (by omega)).trans p2, hnew⟩
  have l0 : loadV P H3 3 ⟨n2, 0 + 0, none⟩ = some (.int .i64 (reach js ks nj kind at_ pad).1) := loadV_int (cells_of hnew) agg3 rfl
  rw [fa55_0, bindO_some, addrV_eq, bindO_some, l0, bindO_some, ← hS]
  obtain ⟨lo', hi', q1, q2⟩ := part_loop l KK hnj hnp kind hk at_ pad hs r3 hB hg0 hAB KK (reach js ks nj kind at_ pad).1 2000 (-1) H3 (n2 + 1) st r1 (Int.le_refl _) (by omega) (by unfold KK; omega)
  unfold PartTo at q1
  rw [show A = lo' by omega, show B = hi' by omega]
  exact q2
end Go.Proofs.Ytgojjellogiglaa.spec
end
section
namespace Go.Proofs.Ytgojjellogiglaa.spec
open Go Go.Ev Go.Proofs.Ytgojjellogiglaa.nestFits Go.Proofs.Ytgojjellogiglaa.G
set_option maxRecDepth 100000
variable {ρ : Type}
theorem part_ext {np nj nk p q kd : Nat} {ps js ks : List Int} (good : Good np nj nk ps js ks) (hjs : js.length = nj * 2) (hp : p < np) (hq : q < np) (hkd : kd < nk) (hfit : fitsB js ks nj np kd p) :
    (reach js ks nj kd p q).1 ≤ ext (ks.getD (kd * 5) 0) (shP js ks nj np p kd) 0 q ∧ ext (ks.getD (kd * 5) 0) (shP js ks nj np p kd) 0 q ≤ ext (ks.getD (kd * 5) 0) (shP js ks nj np p kd) 1 q ∧ ext (ks.getD (kd * 5) 0) (shP js ks nj np p kd) 1 q ≤ (reach js ks nj kd p q).2 ∧
    ∀ a, 0 ≤ a → a ≤ (reach js ks nj kd p q).2 → (reach js ks nj kd p q).1 ≤ a → (someB js ks nj np kd p q a ↔ ext (ks.getD (kd * 5) 0) (shP js ks nj np p kd) 0 q ≤ a ∧ a ≤ ext (ks.getD (kd * 5) 0) (shP js ks nj np p kd) 1 q) := by
  have hi := good.inner hjs
  have np8 := good.np8
  obtain ⟨g1, g2⟩ := share_reach (ks := ks) (kd := kd) hi np8 hp q
  have t0 : total (shP js ks nj np p kd) 0 = sumTo (fun q => (reach js ks nj kd p q).1) 8 := sumTo_same (fun q _ => (share_reach hi np8 hp q).1)
  have t1 : total (shP js ks nj np p kd) 1 = sumTo (fun q => (reach js ks nj kd p q).2) 8 := sumTo_same (fun q _ => (share_reach hi np8 hp q).2)
  have e0 : sumTo (fun q => (reach js ks nj kd p q).1) 8 = sumTo (fun q => (reach js ks nj kd p q).1) np := sumTo_zero np8 fun k h1 _ => by rw [reach_far hi hp h1]
  have e1 : sumTo (fun q => (reach js ks nj kd p q).2) 8 = sumTo (fun q => (reach js ks nj kd p q).2) np := sumTo_zero np8 fun k h1 _ => by rw [reach_far hi hp h1]
  have l0 := lows_sum js ks nj kd p q np
  have l1 := highs_sum js ks nj kd p q np
  rw [if_pos hq] at l0 l1
  obtain ⟨f0, f1⟩ := (fitsB_iff8 good.small hkd hp hi np8).1 hfit
  obtain ⟨r0, r1, _⟩ := reach_small (js := js) (nj := nj) good.small hkd p q
  obtain ⟨s0, s1, _⟩ := lows_small (js := js) (nj := nj) good.small hkd p q np
  have x0 : ext (ks.getD (kd * 5) 0) (shP js ks nj np p kd) 0 q = max (reach js ks nj kd p q).1 (ks.getD (kd * 5) 0 - highs js ks nj kd p q np) := by
    show max ((shP js ks nj np p kd).getD (q * 2) 0) (ks.getD (kd * 5) 0 - (total (shP js ks nj np p kd) 1 - (shP js ks nj np p kd).getD (q * 2 + 1) 0)) = _
    rw [g1, g2, t1, e1, l1]
    congr 1
    omega
  have x1 : ext (ks.getD (kd * 5) 0) (shP js ks nj np p kd) 1 q = min (reach js ks nj kd p q).2 (ks.getD (kd * 5) 0 - lows js ks nj kd p q np) := by
    show min ((shP js ks nj np p kd).getD (q * 2 + 1) 0) (ks.getD (kd * 5) 0 - (total (shP js ks nj np p kd) 0 - (shP js ks nj np p kd).getD (q * 2) 0)) = _
    rw [g1, g2, t0, e0, l0]
    congr 1
    omega
  rw [x0, x1]
  rw [e0, l0] at f0
  rw [e1, l1] at f1
  refine ⟨by omega, by omega, by omega, fun a h0 h1 h2 => ?_⟩
  unfold someB
  omega
theorem call70 (l : Nat) (a b c d : Value) (H : Hp) (n : Nat) : (cal (l + 1)).call 70 [a, b, c, d] H n = C70_0 (cal l) KK a b c d H n := by kernel_rfl
theorem part_call (l : Nat) {np nj nk p q kd : Nat} {ps js ks : List Int} (good : Good np nj nk ps js ks) (hjs : js.length = nj * 2) (hp : p < np) (hq : q < np) (hkd : kd < nk) (hfit : fitsB js ks nj np kd p)
    {H : Hp} {n : Nat} {v : Value} (hg : GroveI H n v np nj nk ps js ks) :
    ∃ H' n', (∀ k : Value → Hp → Nat → Option ρ, callFK P (cal (l + 4)) 70 [v, .int .i64 kd, .int .i64 p, .int .i64 q] H n k =
      k (.agg ⟨[.int .i64 (ext (ks.getD (kd * 5) 0) (shP js ks nj np p kd) 0 q), .int .i64 (ext (ks.getD (kd * 5) 0) (shP js ks nj np p kd) 1 q)]⟩) H' n') ∧ n ≤ n' ∧ Keep n H H' := by
  obtain ⟨x0, x1, x2, x3⟩ := part_ext good hjs hp hq hkd hfit
  have np8 := good.np8
  have nj16 := good.nj16
  obtain ⟨r, H', n', rfl, e1, e2, e3⟩ := callFK_spec (ρ := ρ) (P := P) (cal := cal (l + 4)) (f := 70) (args := [v, .int .i64 kd, .int .i64 p, .int .i64 q]) (H := H) (n := n)
    (Pre := fun H n => GroveI H n v np nj nk ps js ks) (Q := fun r => r = .agg ⟨[.int .i64 (ext (ks.getD (kd * 5) 0) (shP js ks nj np p kd) 0 q), .int .i64 (ext (ks.getD (kd * 5) 0) (shP js ks nj np p kd) 1 q)]⟩)
    (fun H n h => ⟨_, by rw [call70]; exact part_spec l (show nj ≤ KK by unfold KK; omega) (show np ≤ 100 by omega) kd hkd p q good.small x3 x0 x1 x2 h, rfl⟩) (fun r e _ => by subst e; rfl) hg (fun hp => hg.nil (by simp only [pureL, Bool.and_eq_true] at hp; exact hp.1))
  exact ⟨H', n', e1, e2, e3⟩
theorem effK_a {H : Hp} {n id : Nat} {c : List Value} {e : TypeId} {op : Hp → Nat → (Value → Hp → Nat → Option ρ) → Option ρ} {k : Value → Hp → Nat → Option ρ} :
    effK P [.a id c e] H n op k = op (H.set id none) n (fun v H2 n2 => k v (H2.set id (H.get id)) n2) := rfl
theorem res27 (H : Hp) (b : Nat) : resV P (Tr.set Tr.nil 6 (some (.pointer (some ⟨b, 0, none⟩)))) H results27 = (match loadV P H 55 ⟨b, 0, none⟩ with
  | some v => some [v]
  | none => none) := by kernel_rfl
theorem end27 {H : Hp} {n b : Nat} {u w : Int} {c : List Value} (hg : H.get b = some (.cells c 55 false none)) (hc : c.length = 2) :
    (bindO (storeP P 55 (.pointer (some ⟨b, 0, none⟩)) (.agg ⟨[.int .i64 u, .int .i64 w]⟩) H) fun H' => bindO (resV P (Tr.set Tr.nil 6 (some (.pointer (some ⟨b, 0, none⟩)))) H' results27) fun vs => some (oneV vs, H', n)) =
      some (.agg ⟨[.int .i64 u, .int .i64 w]⟩, H.set b (some (.cells [.int .i64 u, .int .i64 w] 55 false none)), n) := by
  have hst := storeN_whole (vs := [.int .i64 u, .int .i64 w]) hg (by rw [hc]; rfl) rfl
  have hld : loadV P (H.set b (some (.cells [.int .i64 u, .int .i64 w] 55 false none))) 55 ⟨b, 0, none⟩ = some (.agg ⟨[.int .i64 u, .int .i64 w]⟩) :=
    loadV_agg (o := 0) (k := 0) (CellsAt.new (n := b)) agg55 sz55 (by simp) rfl
  rw [store55, hst, bindO_some, res27, hld]
  rfl
structure SumAt (H0 H : Hp) (base n : Nat) (x y z : Value) (lo hi : Int) : Prop where
  keep : Keep base H0 H
  top : base + 3 ≤ n
  box : H.get base = some (.cells [x, y, z] 26 false none)
  res : H.get (base + 1) = some (.cells [.int .i64 0, .int .i64 0] 55 false none)
  out : H.get (base + 2) = some (.cells [.int .i64 lo, .int .i64 hi] 55 false none)
theorem SumAt.go {H0 H H' : Hp} {base n n' : Nat} {x y z : Value} {lo hi : Int} (h : SumAt H0 H base n x y z lo hi) (hk : Keep n H H') (hn : n ≤ n') : SumAt H0 H' base n' x y z lo hi := by
  have := h.top
  exact ⟨h.keep.trans hk (by omega), by omega, (hk _ (by omega)).trans h.box, (hk _ (by omega)).trans h.res, (hk _ (by omega)).trans h.out⟩
theorem SumAt.put {H0 H : Hp} {base n : Nat} {x y z : Value} {lo hi : Int} (h : SumAt H0 H base n x y z lo hi) (u w : Int) : SumAt H0 (H.set (base + 2) (some (.cells [.int .i64 u, .int .i64 w] 55 false none))) base n x y z u w := by
  refine ⟨h.keep.set (by omega) _, h.top, ?_, ?_, ?_⟩
  · rw [Tr.get_set, if_neg (by omega)]; exact h.box
  · rw [Tr.get_set, if_neg (by omega)]; exact h.res
  · rw [Tr.get_set, if_pos rfl]
theorem bsum_next (js ks L : List Int) (nj np i e q : Nat) : bsum js ks L nj np (i + 1) e q = bsum js ks L nj np i e q + if L.getD i 0 = -1 then 0 else ext (ks.getD ((L.getD i 0).toNat * 5) 0) (shP js ks nj np i (L.getD i 0).toNat) e q := rfl
theorem bsum_laid {js ks ls : List Int} {nj np e q : Nat} (hl : ls.length = np) {i : Nat} (hi : i ≤ np) : bsum js ks ls nj np i e q = bsum js ks (laidL ls np) nj np i e q :=
  sumTo_same fun k hk => by rw [laidL_in hl (by omega)]
theorem rbounds_loop (l k : Nat) {np nj nk q : Nat} {ps js ks ls : List Int} (good : Good np nj nk ps js ks) (hjs : js.length = nj * 2) (hok : laidOk js ks ls nj np nk) (hq : q < np) (hls : ls.length = np) {H0 : Hp} {base : Nat} {x y z w : Value}
    (hg : GroveI H0 base (.agg ⟨[x, y, z]⟩) np nj nk ps js ks) (hw : ListR H0 base w np ls) :
    ∀ (m i : Nat) (H : Hp) (n : Nat), SumAt H0 H base n x y z (bsum js ks ls nj np i 0 q) (bsum js ks ls nj np i 1 q) → i ≤ np → np - i ≤ m →
    Ret (S27_1 (cal (l + 4)) k m w (.int .i64 q) (.pointer (some ⟨base, 0, none⟩)) (.pointer (some ⟨base + 1, 0, none⟩)) (.pointer (some ⟨base + 2, 0, none⟩)) (.int .i64 i) H n) base H0 (.agg ⟨[.int .i64 (bsum js ks ls nj np np 0 q), .int .i64 (bsum js ks ls nj np np 1 q)]⟩) := by
  have np8 := good.np8
  have body : ∀ (b1 : Value → Value → Value → Value → Value → Value → Hp → Nat → Res) (m i : Nat) (H : Hp) (n : Nat), SumAt H0 H base n x y z (bsum js ks ls nj np i 0 q) (bsum js ks ls nj np i 1 q) → i ≤ np →
      (∀ H' n', SumAt H0 H' base n' x y z (bsum js ks ls nj np (i + 1) 0 q) (bsum js ks ls nj np (i + 1) 1 q) → i < np →
        Ret (b1 w (.int .i64 q) (.pointer (some ⟨base, 0, none⟩)) (.pointer (some ⟨base + 1, 0, none⟩)) (.pointer (some ⟨base + 2, 0, none⟩)) (.int .i64 ((i + 1 : Nat) : Int)) H' n') base H0 (.agg ⟨[.int .i64 (bsum js ks ls nj np np 0 q), .int .i64 (bsum js ks ls nj np np 1 q)]⟩)) →
      Ret (C27_1 (cal (l + 4)) k m b1 w (.int .i64 q) (.pointer (some ⟨base, 0, none⟩)) (.pointer (some ⟨base + 1, 0, none⟩)) (.pointer (some ⟨base + 2, 0, none⟩)) (.int .i64 i) H n) base H0 (.agg ⟨[.int .i64 (bsum js ks ls nj np np 0 q), .int .i64 (bsum js ks ls nj np np 1 q)]⟩) := by
    intro b1 m i H n st hi ih
    have htop := st.top
    obtain ⟨x', y', z', hxyz, h1, h2, h3⟩ := hg.eq
    cases hxyz
    have hwH := hw.keep st.keep (show base ≤ n by omega)
    unfold C27_1 B27_1
    rw [hwH.len_eq, bindO_some, binK_some bin_lss, ifK_d]
    by_cases hlt : i < np
    · have hI : I64 ((i : Int) + 1) := by unfold I64; omega
      have hcast : ((i : Int) + 1) = ((i + 1 : Nat) : Int) := by omega
      obtain ⟨rb, o, hix, hrb, hld⟩ := hwH.at_ hlt
      rw [if_pos (by omega), hix, bindO_some, addrV_eq, bindO_some, hld, bindO_some, binK_some bin_geq, ifK_d]
      by_cases hge : 0 ≤ ls.getD i 0
      · rcases hok i hlt with hm | ⟨_, p2, p3⟩
        · omega
        obtain ⟨kd, hkd⟩ : ∃ kd : Nat, ls.getD i 0 = kd := ⟨(ls.getD i 0).toNat, by omega⟩
        rw [hkd] at p2 p3
        have hkn : kd < nk := by omega
        rw [Int.toNat_natCast] at p3
        have hfit := (fits_agree good hjs hlt hkn).1 p3
        rw [if_pos (by omega), addrV_eq, bindO_some, load26 (cells_of st.box) h1.hole.1 h2.hole.1 h3.hole.1, bindO_some]
        simp only [bindO_some, addrV_eq, hld, hkd, zero55, newK, effK_a]
        have kA : Keep n H ((H.set n (some (.cells (cellsV (.agg #[.int .i64 0, .int .i64 0])) 55 false none))).set n none) := ((Keep.refl n H).set (Nat.le_refl _) _).set (Nat.le_refl _) _
        obtain ⟨H2, n2, e, e2, e3⟩ := part_call (ρ := Value × Hp × Nat) l good hjs hlt hq hkn hfit (hg.keep (st.keep.trans kA (by omega)) (show base ≤ n + 1 by omega))
        rw [e]
        have hget : (H2.set n ((H.set n (some (.cells (cellsV (.agg #[.int .i64 0, .int .i64 0])) 55 false none))).get n)).get n = some (.cells [.int .i64 0, .int .i64 0] 55 false none) := by
          rw [Tr.get_set, if_pos rfl, Tr.get_set, if_pos rfl]; rfl
        have kB : Keep n H (H2.set n ((H.set n (some (.cells (cellsV (.agg #[.int .i64 0, .int .i64 0])) 55 false none))).get n)) := (kA.trans e3 (by omega)).set (Nat.le_refl _) _
        generalize (H2.set n ((H.set n (some (.cells (cellsV (.agg #[.int .i64 0, .int .i64 0])) 55 false none))).get n)) = H3 at hget kB ⊢
        have n0 := bsum_next js ks ls nj np i 0 q
        have n1 := bsum_next js ks ls nj np i 1 q
        rw [hkd, Int.toNat_natCast, if_neg (by omega)] at n0 n1
        have kin : KindsIn (laidL ls np) np nk := laid_kinds hls hok
        have m0 := bsum_mild (js := js) (nj := nj) (q := q) (i := i + 1) (e := 0) good.kinds np8 kin (by omega) (by omega)
        have m1 := bsum_mild (js := js) (nj := nj) (q := q) (i := i + 1) (e := 1) good.kinds np8 kin (by omega) (by omega)
        rw [← bsum_laid hls (by omega), n0] at m0
        rw [← bsum_laid hls (by omega), n1] at m1
        generalize ext (ks.getD (kd * 5) 0) (shP js ks nj np i kd) 0 q = E0 at n0 m0 ⊢
        generalize ext (ks.getD (kd * 5) 0) (shP js ks nj np i kd) 1 q = E1 at n1 m1 ⊢
        have i0 : I64 (bsum js ks ls nj np i 0 q + E0) := by unfold I64; omega
        have i1 : I64 (bsum js ks ls nj np i 1 q + E1) := by unfold I64; omega
        rw [ptr, store55, storeN_whole (c := [.int .i64 0, .int .i64 0]) (vs := [.int .i64 E0, .int .i64 E1]) (e := 55) (vec := none) hget rfl rfl, bindO_some]
        have hnew : (H3.set n (some (.cells [.int .i64 E0, .int .i64 E1] 55 false none))).get n = some (.cells [.int .i64 E0, .int .i64 E1] 55 false none) := by rw [Tr.get_set, if_pos rfl]
        have st4 : SumAt H0 (H3.set n (some (.cells [.int .i64 E0, .int .i64 E1] 55 false none))) base n2 x y z (bsum js ks ls nj np i 0 q) (bsum js ks ls nj np i 1 q) := st.go (kB.set (Nat.le_refl _) _) (by omega)
        generalize H3.set n (some (.cells [.int .i64 E0, .int .i64 E1] 55 false none)) = H4 at hnew st4 ⊢
        have a0 : loadV P H4 3 ⟨base + 2, 0 + 0, none⟩ = some (.int .i64 (bsum js ks ls nj np i 0 q)) := loadV_int (cells_of st4.out) agg3 rfl
        have a1 : loadV P H4 3 ⟨base + 2, 0 + 1, none⟩ = some (.int .i64 (bsum js ks ls nj np i 1 q)) := loadV_int (cells_of st4.out) agg3 rfl
        have c0 : loadV P H4 3 ⟨n, 0 + 0, none⟩ = some (.int .i64 E0) := loadV_int (cells_of hnew) agg3 rfl
        have c1 : loadV P H4 3 ⟨n, 0 + 1, none⟩ = some (.int .i64 E1) := loadV_int (cells_of hnew) agg3 rfl
        rw [fa55_0, bindO_some, addrV_eq, bindO_some, a0, bindO_some, fa55_0, bindO_some, addrV_eq, bindO_some, c0, bindO_some, binK_some (bin_add i0), fa55_1, bindO_some, addrV_eq, bindO_some, a1, bindO_some, fa55_1, bindO_some, addrV_eq, bindO_some, c1, bindO_some, binK_some (bin_add i1),
          build55v, bindO_some, store55, storeN_whole (c := [.int .i64 (bsum js ks ls nj np i 0 q), .int .i64 (bsum js ks ls nj np i 1 q)]) (vs := [.int .i64 (bsum js ks ls nj np i 0 q + E0), .int .i64 (bsum js ks ls nj np i 1 q + E1)]) (e := 55) (vec := none) st4.out rfl rfl, bindO_some, ← n0, ← n1]
        unfold C27_2 B27_2
        rw [binK_some (bin_add hI), hcast]
        exact ih _ n2 (st4.put _ _) hlt
      · rcases hok i hlt with hm | ⟨p1, _, _⟩
        · have n0 := bsum_next js ks ls nj np i 0 q
          have n1 := bsum_next js ks ls nj np i 1 q
          rw [if_pos hm, Int.add_zero] at n0 n1
          rw [if_neg (by omega)]
          unfold C27_2 B27_2
          rw [binK_some (bin_add hI), hcast]
          exact ih H n (by rw [n0, n1]; exact st) hlt
        · omega
    · have e : i = np := by omega
      subst e
      have lo9 : loadV P H 55 ⟨base + 2, 0, none⟩ = some (.agg ⟨[.int .i64 (bsum js ks ls nj i i 0 q), .int .i64 (bsum js ks ls nj i i 1 q)]⟩) := loadV_agg (o := 0) (k := 0) (cells_of st.out) agg55 sz55 (by simp) rfl
      rw [if_neg (by omega), addrV_eq, bindO_some, lo9, bindO_some, end27 st.res rfl]
      exact ⟨_, _, rfl, by omega, st.keep.set (by omega) _⟩
  intro m
  induction m with
  | zero =>
    intro i H n h1 h2 h3
    exact body _ 0 i H n h1 h2 (fun _ _ _ h => by omega)
  | succ m ih =>
    intro i H n h1 h2 h3
    exact body _ (m + 1) i H n h1 h2 (fun H' n' q1 q2 => ih (i + 1) H' n' q1 (by omega) (by omega))
theorem rbounds_spec (l : Nat) {np nj nk q : Nat} {ps js ks ls : List Int} (good : Good np nj nk ps js ks) (hok : laidOk js ks ls nj np nk) (hq : q < np) {H : Hp} {n : Nat} {v w : Value} (hg : GroveI H n v np nj nk ps js ks) (hw : ListR H n w np ls) :
    Ret (C27_0 (cal (l + 4)) KK v w (.int .i64 q) H n) n H (.agg ⟨[.int .i64 (bsum js ks (laidL ls np) nj np 8 0 q), .int .i64 (bsum js ks (laidL ls np) nj np 8 1 q)]⟩) := by
  have hg0 := hg
  have np8 := good.np8
  have hls := hw.1
  obtain ⟨x, y, z, rfl, h1, h2, h3⟩ := hg.eq
  have fin : ∀ e, bsum js ks (laidL ls np) nj np 8 e q = bsum js ks ls nj np np e q := fun e => by
    rw [bsum_laid hls (Nat.le_refl _)]
    refine sumTo_zero np8 fun k k1 k2 => ?_
    have kin : KindsIn (laidL ls np) np nk := laid_kinds hls hok
    rcases kin k (by omega) with h | h
    · rw [if_pos h]
    · omega
  unfold C27_0 B27_0
  generalize hS : S27_1 (cal (l + 4)) KK KK = S
  rw [boxK_eq, allocK_eq zero55, allocK_eq zero55, ptr, ptr, ptr]
  simp only [cellsV]
  generalize hH1 : ((H.set n (some (.cells [x, y, z] 26 false none))).set (n + 1) (some (.cells [.int .i64 0, .int .i64 0] 55 false none))).set (n + 1 + 1) (some (.cells [.int .i64 0, .int .i64 0] 55 false none)) = H1
  have st : SumAt H H1 n (n + 1 + 1 + 1) x y z (bsum js ks ls nj np 0 0 q) (bsum js ks ls nj np 0 1 q) := by
    refine ⟨fun b hb => ?_, by omega, ?_, ?_, ?_⟩
    · rw [← hH1, Tr.get_set, if_neg (by omega), Tr.get_set, if_neg (by omega), Tr.get_set, if_neg (by omega)]
    · rw [← hH1, Tr.get_set, if_neg (by omega), Tr.get_set, if_neg (by omega), Tr.get_set, if_pos rfl]
    · rw [← hH1, Tr.get_set, if_neg (by omega), Tr.get_set, if_pos rfl]
    · rw [← hH1, Tr.get_set, if_pos rfl]; rfl
  rw [← hS, fin 0, fin 1]
  exact rbounds_loop l KK good h2.1 hok hq hls hg0 hw KK 0 H1 _ st (by omega) (by unfold KK; omega)
theorem call27 (l : Nat) (a b c : Value) (H : Hp) (n : Nat) : (cal (l + 1)).call 27 [a, b, c] H n = C27_0 (cal l) KK a b c H n := by kernel_rfl
theorem rbounds_call (l : Nat) {np nj nk q : Nat} {ps js ks ls : List Int} (good : Good np nj nk ps js ks) (hok : laidOk js ks ls nj np nk) (hq : q < np) {H : Hp} {n : Nat} {v w : Value} (hg : GroveI H n v np nj nk ps js ks) (hw : ListR H n w np ls) :
    ∃ H' n', (∀ k : Value → Hp → Nat → Option ρ, callFK P (cal (l + 5)) 27 [v, w, .int .i64 q] H n k = k (.agg ⟨[.int .i64 (bsum js ks (laidL ls np) nj np 8 0 q), .int .i64 (bsum js ks (laidL ls np) nj np 8 1 q)]⟩) H' n') ∧ n ≤ n' ∧ Keep n H H' := by
  obtain ⟨r, H', n', rfl, e1, e2, e3⟩ := callFK_spec (ρ := ρ) (P := P) (cal := cal (l + 5)) (f := 27) (args := [v, w, .int .i64 q]) (H := H) (n := n)
    (Pre := fun H n => GroveI H n v np nj nk ps js ks ∧ ListR H n w np ls) (Q := fun r => r = .agg ⟨[.int .i64 (bsum js ks (laidL ls np) nj np 8 0 q), .int .i64 (bsum js ks (laidL ls np) nj np 8 1 q)]⟩)
    (fun H n h => ⟨_, by rw [call27]; exact rbounds_spec l good hok hq h.1 h.2, rfl⟩) (fun r e _ => by subst e; rfl) ⟨hg, hw⟩ (fun hp => by
        simp only [pureL, Bool.and_eq_true] at hp
        exact ⟨hg.nil hp.1, hw.nil hp.2.1⟩)
  exact ⟨H', n', e1, e2, e3⟩
end Go.Proofs.Ytgojjellogiglaa.spec
end
