import Derived.Test.YtakjjillnllocaaN2
import Derived.Test.YtakjjillnllocaaEv37
import Derived.Test.YtakjjillnllocaaEv38
namespace Go.Proofs.Ytakjjillnllocaa.spec
open Go.Ev Go.Proofs.Ytakjjillnllocaa.nestFits Go.Proofs.Ytakjjillnllocaa.G
set_option maxRecDepth 100000
variable {ρ : Type}
theorem und111 : P.underlying 111 = some (.array 8 53) := by kernel_rfl
theorem agg111 : isAggT P 111 = some true := by kernel_rfl
theorem sz111 : szT P 111 = some 16 := by kernel_rfl
theorem agg113 : isAggT P 113 = some true := by kernel_rfl
theorem sz113 : szT P 113 = some 33 := by kernel_rfl
theorem fa113_0 (b o : Nat) : fieldAddrV P 113 (.pointer (some ⟨b, o, none⟩)) 0 = some (.pointer (some ⟨b, o + 0, none⟩)) := by kernel_rfl
theorem fa113_1 (b o : Nat) : fieldAddrV P 113 (.pointer (some ⟨b, o, none⟩)) 1 = some (.pointer (some ⟨b, o + 1, none⟩)) := by kernel_rfl
theorem fa113_2 (b o : Nat) : fieldAddrV P 113 (.pointer (some ⟨b, o, none⟩)) 2 = some (.pointer (some ⟨b, o + 17, none⟩)) := by kernel_rfl
theorem low_spec (c : Cal) (k : Nat) (a b : Int) : ∃ H' n', C72_0 c k (.agg ⟨[.int .i64 a, .int .i64 b]⟩) .nil 0 = some (.int .i64 a, H', n') := by
  unfold C72_0 B72_0
  simp only [boxK_eq, cellsV, ptr]
  have h0 : CellsAt ((Tr.nil : Hp).set 0 (some (.cells [.int .i64 a, .int .i64 b] 53 false none))) 0 0 [.int .i64 a, .int .i64 b] := CellsAt.new
  have l0 : loadV P ((Tr.nil : Hp).set 0 (some (.cells [.int .i64 a, .int .i64 b] 53 false none))) 3 ⟨0, 0 + 0, none⟩ = some (.int .i64 a) := loadV_int h0 agg3 rfl
  simp only [fa53_0, bindO_some, addrV_eq, l0]
  exact ⟨_, _, rfl⟩
theorem high_spec (c : Cal) (k : Nat) (a b : Int) : ∃ H' n', C73_0 c k (.agg ⟨[.int .i64 a, .int .i64 b]⟩) .nil 0 = some (.int .i64 b, H', n') := by
  unfold C73_0 B73_0
  simp only [boxK_eq, cellsV, ptr]
  have h0 : CellsAt ((Tr.nil : Hp).set 0 (some (.cells [.int .i64 a, .int .i64 b] 53 false none))) 0 0 [.int .i64 a, .int .i64 b] := CellsAt.new
  have l0 : loadV P ((Tr.nil : Hp).set 0 (some (.cells [.int .i64 a, .int .i64 b] 53 false none))) 3 ⟨0, 0 + 1, none⟩ = some (.int .i64 b) := loadV_int h0 agg3 rfl
  simp only [fa53_1, bindO_some, addrV_eq, l0]
  exact ⟨_, _, rfl⟩
theorem flat72 : flatF P 72 = true := by kernel_rfl
theorem flat73 : flatF P 73 = true := by kernel_rfl
theorem call72 (l : Nat) (a : Value) (H : Hp) (n : Nat) : (cal (l + 1)).call 72 [a] H n = C72_0 (cal l) KK a H n := by kernel_rfl
theorem call73 (l : Nat) (a : Value) (H : Hp) (n : Nat) : (cal (l + 1)).call 73 [a] H n = C73_0 (cal l) KK a H n := by kernel_rfl
noncomputable def endF (e : Nat) : Value := match e with
  | 0 => .func (.func 72) #[] #[]
  | _ => .func (.func 73) #[] #[]
theorem end_call (l : Nat) {e : Nat} (he : e < 2) (L : List Int) (i : Nat) (hi : i + 2 ≤ L.length) (H : Hp) (n : Nat) (k : Value → Hp → Nat → Option ρ) :
    callVK P (cal (l + 1)) (endF e) [.agg ⟨((ints L).drop i).take 2⟩] H n k = k (.int .i64 (L.getD (i + e) 0)) H n := by
  rw [two_at hi]
  match e, he with
  | 0, _ =>
    obtain ⟨H', n', h⟩ := low_spec (cal l) KK (L.getD i 0) (L.getD (i + 1) 0)
    exact callFK_pure flat72 rfl ((call72 ..).trans h) rfl
  | 1, _ =>
    obtain ⟨H', n', h⟩ := high_spec (cal l) KK (L.getD i 0) (L.getD (i + 1) 0)
    exact callFK_pure flat73 rfl ((call73 ..).trans h) rfl
theorem index_row {L : List Int} (hL : L.length = 16) {i : Nat} (hi : i < 8) : indexV P 111 (.agg ⟨ints L⟩) (.int .i64 i) = some (.agg ⟨((ints L).drop (i * 2)).take 2⟩) := by
  unfold indexV
  have : idxIn (.int .i64 (i : Int)) 8 = some i := by
    show idxIn (.int .i64 (.ofNat i)) 8 = some i
    simp [idxIn, hi]
  simp only [und111, this, sz53, partV, agg53]
  have hc : cut (ints L) (i * 2) 2 = some (((ints L).drop (i * 2)).take 2) := by
    unfold cut
    simp only
    rw [if_pos (by simp [ints_length]; omega)]
  simp only [hc]
noncomputable def nestL (y : Int) (L B : List Int) : List Int := y :: (L ++ B)
noncomputable def total (L : List Int) (e : Nat) : Int := sumTo (fun p => L.getD (p * 2 + e) 0) 8
def Bounded (L : List Int) : Prop := ∀ k : Nat, 0 ≤ L.getD k 0 ∧ L.getD k 0 ≤ 1000
theorem pure_ints (L : List Int) : pureL (ints L) = true := by
  unfold ints
  induction L with
  | nil => rfl
  | cons x L ih => simp only [List.map_cons, pureL, ih, pureV, Bool.and_self]
theorem sum_loop (l k : Nat) {e : Nat} (he : e < 2) {L : List Int} (hL : L.length = 16) (hB : Bounded L) : ∀ (m i : Nat) (H : Hp) (n : Nat), i ≤ 8 → 8 - i ≤ m →
    ∃ H' n', S98_1 (cal (l + 1)) k m (endF e) (.int .i64 (sumTo (fun p => L.getD (p * 2 + e) 0) i)) (.agg ⟨ints L⟩) (.int .i64 i) H n = some (.int .i64 (total L e), H', n') := by
  have body : ∀ (b1 : Value → Value → Value → Value → Hp → Nat → Res) (m i : Nat) (H : Hp) (n : Nat), i ≤ 8 →
      (∀ H' n', i < 8 → ∃ H'' n'', b1 (endF e) (.int .i64 (sumTo (fun p => L.getD (p * 2 + e) 0) (i + 1))) (.agg ⟨ints L⟩) (.int .i64 ((i + 1 : Nat) : Int)) H' n' = some (.int .i64 (total L e), H'', n'')) →
      ∃ H' n', C98_1 (cal (l + 1)) k m b1 (endF e) (.int .i64 (sumTo (fun p => L.getD (p * 2 + e) 0) i)) (.agg ⟨ints L⟩) (.int .i64 i) H n = some (.int .i64 (total L e), H', n') := by
    intro b1 m i H n hi ih
    unfold C98_1 B98_1
    simp only [binK_some bin_lss, ifK_d]
    by_cases hlt : i < 8
    · rw [if_pos (by omega)]
      have hl2 : i * 2 + 2 ≤ L.length := by omega
      obtain ⟨g1, g2⟩ := ints_take hl2
      obtain ⟨H1, k1, k2, k3⟩ := spill (P := P) (ρ := Value × Hp × Nat) (H := H) (n := n) zero53 rfl sz53 g1 g2
      simp only [index_row hL hlt, bindO_some]
      rw [k3]
      have hback := load_all k2 agg53 sz53 g1
      simp only [addrV_eq, bindO_some, hback]
      rw [end_call l he L (i * 2) hl2]
      obtain ⟨s1, s2⟩ := sumTo_range (f := fun p => L.getD (p * 2 + e) 0) (c := 1000) (i := i) (fun p _ => hB _)
      obtain ⟨t1, t2⟩ := hB (i * 2 + e)
      have hI : I64 (sumTo (fun p => L.getD (p * 2 + e) 0) i + L.getD (i * 2 + e) 0) := by unfold I64; omega
      have hI2 : I64 ((i : Int) + 1) := by unfold I64; omega
      have hcast : ((i : Int) + 1) = ((i + 1 : Nat) : Int) := by omega
      simp only [binK_some (bin_add hI), binK_some (bin_add hI2), hcast]
      exact ih H1 (n + 1) hlt
    · rw [if_neg (by omega)]
      have hi' : i = 8 := by omega
      subst hi'
      exact ⟨_, _, rfl⟩
  intro m
  induction m with
  | zero =>
    intro i H n h1 h2
    exact body _ 0 i H n h1 (fun _ _ h => by omega)
  | succ m ih =>
    intro i H n h1 h2
    exact body _ (m + 1) i H n h1 (fun H' n' q => ih (i + 1) H' n' (by omega) (by omega))
theorem nest_cells {y : Int} {L B : List Int} (hL : L.length = 16) (hB : B.length = 16) : (nestL y L B).length = 33 := by simp [nestL, hL, hB]
theorem nest_shares {y : Int} {L B : List Int} (hL : L.length = 16) : ((ints (nestL y L B)).drop 1).take 16 = ints L := by
  rw [ints_cut]
  congr 1
  unfold nestL
  rw [List.drop_succ_cons, List.drop_zero, ← hL, List.take_left']
  rfl
end Go.Proofs.Ytakjjillnllocaa.spec
namespace Go.Proofs.Ytakjjillnllocaa.spec
open Go.Ev Go.Proofs.Ytakjjillnllocaa.nestFits Go.Proofs.Ytakjjillnllocaa.G
set_option maxRecDepth 100000
variable {ρ : Type}
theorem sum_spec (l : Nat) {e : Nat} (he : e < 2) {y : Int} {L B : List Int} (hL : L.length = 16) (hB : B.length = 16) (hb : Bounded L) :
    ∃ H' n', C98_0 (cal (l + 1)) KK (.agg ⟨ints (nestL y L B)⟩) (endF e) .nil 0 = some (.int .i64 (total L e), H', n') := by
  unfold C98_0 B98_0
  generalize hS : S98_1 (cal (l + 1)) KK KK = S
  simp only [boxK_eq, cellsV, ptr]
  have h0 : CellsAt ((Tr.nil : Hp).set 0 (some (.cells (ints (nestL y L B)) 113 false none))) 0 0 (ints (nestL y L B)) := CellsAt.new
  have hl := loadV_agg (P := P) (k := 1) h0 agg111 sz111 (by rw [ints_length, nest_cells hL hB]; omega) (ints_noHole _)
  rw [nest_shares hL] at hl
  generalize (Tr.nil : Hp).set 0 (some (.cells (ints (nestL y L B)) 113 false none)) = H1 at hl ⊢
  rw [fa113_1, bindO_some, addrV_eq, bindO_some, hl, bindO_some]
  have h := sum_loop l KK he hL hb KK 0 H1 (0 + 1) (by omega) (by unfold KK; omega)
  have e0 : sumTo (fun p => L.getD (p * 2 + e) 0) 0 = 0 := rfl
  rw [e0, hS] at h
  exact h
theorem flat98 : flatF P 98 = true := by kernel_rfl
theorem call98 (l : Nat) (a b : Value) (H : Hp) (n : Nat) : (cal (l + 1)).call 98 [a, b] H n = C98_0 (cal l) KK a b H n :=
  (show (cal (l + 1)).call 98 [a, b] H n = quick ent98 (cal l) [a, b] H n by kernel_rfl).trans (quick_eq ..)
theorem sum_call (l : Nat) {e : Nat} (he : e < 2) {y : Int} {L B : List Int} (hL : L.length = 16) (hB : B.length = 16) (hb : Bounded L) (H : Hp) (n : Nat) (k : Value → Hp → Nat → Option ρ) :
    callFK P (cal (l + 2)) 98 [.agg ⟨ints (nestL y L B)⟩, endF e] H n k = k (.int .i64 (total L e)) H n := by
  obtain ⟨H', n', h⟩ := sum_spec l he (y := y) hL hB hb
  refine callFK_pure flat98 ?_ ((call98 ..).trans h) rfl
  have : pureV (endF e) = true := by unfold endF; split <;> rfl
  simp only [pureL, pureV, pureA, pure_ints, this, Bool.and_self]
theorem in_range_spec (c : Cal) (k : Nat) (a b y : Int) : ∃ H' n', C99_0 c k (.agg ⟨[.int .i64 a, .int .i64 b]⟩) (.int .i64 y) .nil 0 = some (.bool (decide (a ≤ y ∧ y ≤ b)), H', n') := by
  unfold C99_0 B99_0
  simp only [boxK_eq, cellsV, ptr]
  have h0 : CellsAt ((Tr.nil : Hp).set 0 (some (.cells [.int .i64 a, .int .i64 b] 53 false none))) 0 0 [.int .i64 a, .int .i64 b] := CellsAt.new
  generalize (Tr.nil : Hp).set 0 (some (.cells [.int .i64 a, .int .i64 b] 53 false none)) = H1 at h0 ⊢
  have l0 : loadV P H1 3 ⟨0, 0 + 0, none⟩ = some (.int .i64 a) := loadV_int h0 agg3 rfl
  have l1 : loadV P H1 3 ⟨0, 0 + 1, none⟩ = some (.int .i64 b) := loadV_int h0 agg3 rfl
  simp only [fa53_0, fa53_1, bindO_some, addrV_eq, l0, binK_some bin_leq]
  cases c1 : decide (a ≤ y) <;> cases c2 : decide (y ≤ b) <;>
    simp only [guardK_tt, guardK_ft, guardK_u, bindO_some, pickV_t, pickV_f, c2, addrV_eq, l1, binK_some bin_leq] <;>
    refine ⟨_, _, bool_eq ?_⟩ <;> simp only [decide_eq_true_eq, decide_eq_false_iff_not] at c1 c2 <;> simp [c1, c2]
theorem flat99 : flatF P 99 = true := by kernel_rfl
theorem call99 (l : Nat) (a b : Value) (H : Hp) (n : Nat) : (cal (l + 1)).call 99 [a, b] H n = C99_0 (cal l) KK a b H n := by kernel_rfl
theorem in_range_call (l : Nat) (a b y : Int) (H : Hp) (n : Nat) (k : Value → Hp → Nat → Option ρ) :
    callFK P (cal (l + 1)) 99 [.agg ⟨[.int .i64 a, .int .i64 b]⟩, .int .i64 y] H n k = k (.bool (decide (a ≤ y ∧ y ≤ b))) H n := by
  obtain ⟨H', n', h⟩ := in_range_spec (cal l) KK a b y
  exact callFK_pure flat99 rfl ((call99 ..).trans h) rfl
theorem fit_spec (l : Nat) {y : Int} {L B : List Int} (hL : L.length = 16) (hB : B.length = 16) (hb : Bounded L) :
    ∃ H' n', C62_0 (cal (l + 2)) KK (.agg ⟨ints (nestL y L B)⟩) .nil 0 = some (.bool (decide (total L 0 ≤ y ∧ y ≤ total L 1)), H', n') := by
  unfold C62_0 B62_0
  simp only [boxK_eq, cellsV, ptr]
  have hg : ((Tr.nil : Hp).set 0 (some (.cells (ints (nestL y L B)) 113 false none))).get 0 = some (.cells (ints (nestL y L B)) 113 false none) := by rw [Tr.get_set, if_pos rfl]
  generalize (Tr.nil : Hp).set 0 (some (.cells (ints (nestL y L B)) 113 false none)) = H1 at hg ⊢
  have hl := load_all hg agg113 sz113 (by rw [ints_length, nest_cells hL hB])
  have h0 : CellsAt H1 0 0 (ints (nestL y L B)) := cells_at hg
  have l0 : loadV P H1 3 ⟨0, 0 + 0, none⟩ = some (.int .i64 y) := loadV_int h0 agg3 (by simp [ints, nestL])
  simp only [bindO_some, addrV_eq, hl, fa113_0, l0]
  have ok : ∀ H : Hp, H.get 0 = H1.get 0 → ∀ ex : List Extra, (∀ q ∈ ex, q = .l 3 ⟨0, 0 + 0, none⟩ ∨ q = .l 113 ⟨0, 0, none⟩) → ExOk H ex := by
    intro H hH ex hex
    refine ⟨fun q hq => .inl ?_, fun t a id c e h1 h2 => ?_⟩
    · rcases hex q hq with rfl | rfl
      · exact ⟨_, _, rfl, .inl ⟨_, _, _, _, hH.trans hg⟩⟩
      · exact ⟨_, _, rfl, .inl ⟨_, _, _, _, hH.trans hg⟩⟩
    · rcases hex _ h2 with q | q <;> cases q
  obtain ⟨H2, s2, e2⟩ := effK_still (P := P) (ρ := Value × Hp × Nat) (ex := [.l 3 ⟨0, 0 + 0, none⟩, .l 113 ⟨0, 0, none⟩]) (H := H1) (n := 0 + 1) (v := .int .i64 (total L 0))
    (op := fun H n k => callFK P (cal (l + 2)) 98 [.agg ⟨ints (nestL y L B)⟩, .func (.func 72) #[] #[]] H n fun v H n => k v H n) (ok H1 rfl _ (by simp)) (fun H k => sum_call l (e := 0) (by omega) hL hB hb H _ _)
  rw [e2]
  obtain ⟨H3, s3, e3⟩ := effK_still (P := P) (ρ := Value × Hp × Nat) (ex := [.l 3 ⟨0, 0 + 0, none⟩]) (H := H2) (n := 0 + 1) (v := .int .i64 (total L 1))
    (op := fun H n k => callFK P (cal (l + 2)) 98 [.agg ⟨ints (nestL y L B)⟩, .func (.func 73) #[] #[]] H n fun v H n => k v H n) (ok H2 (s2 0) _ (by simp)) (fun H k => sum_call l (e := 1) (by omega) hL hB hb H _ _)
  rw [e3]
  simp only [build53, bindO_some, in_range_call]
  exact ⟨_, _, rfl⟩
theorem flat62 : flatF P 62 = true := by kernel_rfl
theorem call62 (l : Nat) (a : Value) (H : Hp) (n : Nat) : (cal (l + 1)).call 62 [a] H n = C62_0 (cal l) KK a H n :=
  (show (cal (l + 1)).call 62 [a] H n = quick ent62 (cal l) [a] H n by kernel_rfl).trans (quick_eq ..)
theorem fit_call (l : Nat) {y : Int} {L B : List Int} (hL : L.length = 16) (hB : B.length = 16) (hb : Bounded L) (H : Hp) (n : Nat) (k : Value → Hp → Nat → Option ρ) :
    callFK P (cal (l + 3)) 62 [.agg ⟨ints (nestL y L B)⟩] H n k = k (.bool (decide (total L 0 ≤ y ∧ y ≤ total L 1))) H n := by
  obtain ⟨H', n', h⟩ := fit_spec l (y := y) hL hB hb
  refine callFK_pure flat62 ?_ ((call62 ..).trans h) rfl
  simp only [pureL, pureV, pureA, pure_ints, Bool.and_self]
end Go.Proofs.Ytakjjillnllocaa.spec
namespace Go.Proofs.Ytakjjillnllocaa.spec
open Go.Ev Go.Proofs.Ytakjjillnllocaa.nestFits Go.Proofs.Ytakjjillnllocaa.G
set_option maxRecDepth 100000
variable {ρ : Type}
theorem max_k (a b : Int) (H : Hp) (n : Nat) (k : Value → Hp → Nat → Option ρ) :
    builtinK P .max [3, 3] (Go.Call.mk (Go.Callee.builtin Go.Builtin.max) #[(Go.Operand.tmp 13), (Go.Operand.tmp 14)] #[3, 3]) 3 [.int .i64 a, .int .i64 b] H n k = k (.int .i64 (max a b)) H n := by
  have h : max a b = if b > a then b else a := by omega
  rw [h]
  rfl
theorem min_k (a b : Int) (H : Hp) (n : Nat) (k : Value → Hp → Nat → Option ρ) :
    builtinK P .min [3, 3] (Go.Call.mk (Go.Callee.builtin Go.Builtin.min) #[(Go.Operand.tmp 13), (Go.Operand.tmp 14)] #[3, 3]) 3 [.int .i64 a, .int .i64 b] H n k = k (.int .i64 (min a b)) H n := by
  have h : min a b = if b < a then b else a := by omega
  rw [h]
  rfl
theorem len44 (b : Nat) : lenV P 44 (.slice (some ⟨b, 0, none⟩) 1 1) = some (.int .i64 1) := by kernel_rfl
theorem at44 (b : Nat) : indexAddrV P 44 (.slice (some ⟨b, 0, none⟩) 1 1) (.int .i64 0) = some (.pointer (some ⟨b, 0 + 0, none⟩)) := by kernel_rfl
theorem i01 : decide ((0 : Int) < 1) = true := rfl
theorem i11 : decide ((1 : Int) < 1) = false := rfl
theorem most_spec (c : Cal) (a x : Int) {H : Hp} {n b : Nat} (hx : CellsAt H b 0 [.int .i64 x]) : C106_0 c KK (.int .i64 a) (.slice (some ⟨b, 0, none⟩) 1 1) H n = some (.int .i64 (max a x), H, n) := by
  unfold C106_0 B106_0
  rw [len44, bindO_some]
  have hl : loadV P H 3 ⟨b, 0 + 0, none⟩ = some (.int .i64 x) := loadV_int hx agg3 rfl
  have s1 : ∀ m, S106_1 c KK (m + 1) = C106_1 c KK (m + 1) (S106_1 c KK m) := fun _ => rfl
  have hk : KK = 3998 + 1 + 1 := rfl
  have e : S106_1 c KK KK = S106_1 c KK (3998 + 1 + 1) := by rw [← hk]
  rw [e, s1]
  generalize hS : S106_1 c KK (3998 + 1) = S
  unfold C106_1 B106_1
  have hI : I64 ((0 : Int) + 1) := by unfold I64; omega
  rw [binK_some bin_lss, i01, ifK_t, at44, bindO_some, addrV_eq, bindO_some, hl, bindO_some, max_k, binK_some (bin_add hI), ← hS, s1]
  generalize S106_1 c KK 3998 = S'
  unfold C106_1 B106_1
  rw [binK_some bin_lss, show ((0 : Int) + 1) = 1 from rfl, i11, ifK_f]
theorem least_spec (c : Cal) (a x : Int) {H : Hp} {n b : Nat} (hx : CellsAt H b 0 [.int .i64 x]) : C105_0 c KK (.int .i64 a) (.slice (some ⟨b, 0, none⟩) 1 1) H n = some (.int .i64 (min a x), H, n) := by
  unfold C105_0 B105_0
  rw [len44, bindO_some]
  have hl : loadV P H 3 ⟨b, 0 + 0, none⟩ = some (.int .i64 x) := loadV_int hx agg3 rfl
  have s1 : ∀ m, S105_1 c KK (m + 1) = C105_1 c KK (m + 1) (S105_1 c KK m) := fun _ => rfl
  have hk : KK = 3998 + 1 + 1 := rfl
  have e : S105_1 c KK KK = S105_1 c KK (3998 + 1 + 1) := by rw [← hk]
  rw [e, s1]
  generalize hS : S105_1 c KK (3998 + 1) = S
  unfold C105_1 B105_1
  have hI : I64 ((0 : Int) + 1) := by unfold I64; omega
  rw [binK_some bin_lss, i01, ifK_t, at44, bindO_some, addrV_eq, bindO_some, hl, bindO_some, min_k, binK_some (bin_add hI), ← hS, s1]
  generalize S105_1 c KK 3998 = S'
  unfold C105_1 B105_1
  rw [binK_some bin_lss, show ((0 : Int) + 1) = 1 from rfl, i11, ifK_f]
theorem call105 (l : Nat) (a b : Value) (H : Hp) (n : Nat) : (cal (l + 1)).call 105 [a, b] H n = C105_0 (cal l) KK a b H n := by kernel_rfl
theorem call106 (l : Nat) (a b : Value) (H : Hp) (n : Nat) : (cal (l + 1)).call 106 [a, b] H n = C106_0 (cal l) KK a b H n := by kernel_rfl
noncomputable def withF (e : Nat) : Value := match e with
  | 0 => .func (.func 106) #[] #[]
  | _ => .func (.func 105) #[] #[]
def lim (e : Nat) (a x : Int) : Int := match e with
  | 0 => max a x
  | _ => min a x
theorem with_call (l : Nat) {e : Nat} (he : e < 2) (a x : Int) {H : Hp} {n b : Nat} (hx : CellsAt H b 0 [.int .i64 x]) (k : Value → Hp → Nat → Option ρ) :
    callVK P (cal (l + 1)) (withF e) [.int .i64 a, .slice (some ⟨b, 0, none⟩) 1 1] H n k = k (.int .i64 (lim e a x)) H n := by
  match e, he with
  | 0, _ =>
    show callFK P (cal (l + 1)) 106 [.int .i64 a, .slice (some ⟨b, 0, none⟩) 1 1] H n k = _
    unfold callFK
    have : (flatF P 106 && pureL [.int .i64 a, .slice (some ⟨b, 0, none⟩) 1 1]) = false := by rw [Bool.and_eq_false_iff]; exact .inr rfl
    rw [this, call106, most_spec (cal l) a x hx]
    rfl
  | 1, _ =>
    show callFK P (cal (l + 1)) 105 [.int .i64 a, .slice (some ⟨b, 0, none⟩) 1 1] H n k = _
    unfold callFK
    have : (flatF P 105 && pureL [.int .i64 a, .slice (some ⟨b, 0, none⟩) 1 1]) = false := by rw [Bool.and_eq_false_iff]; exact .inr rfl
    rw [this, call105, least_spec (cal l) a x hx]
    rfl
noncomputable def endV (e : Nat) : Value := .agg ⟨[endF e, endF (1 - e), withF e]⟩
theorem zero179 : zeroT P 179 = some (.agg #[.nilFunc, .nilFunc, .nilFunc]) := by kernel_rfl
theorem sz179 : szT P 179 = some 3 := by kernel_rfl
theorem agg179 : isAggT P 179 = some true := by kernel_rfl
theorem agg129 : isAggT P 129 = some false := by kernel_rfl
theorem agg160 : isAggT P 160 = some false := by kernel_rfl
theorem fa179_0 (b o : Nat) : fieldAddrV P 179 (.pointer (some ⟨b, o, none⟩)) 0 = some (.pointer (some ⟨b, o + 0, none⟩)) := by kernel_rfl
theorem fa179_1 (b o : Nat) : fieldAddrV P 179 (.pointer (some ⟨b, o, none⟩)) 1 = some (.pointer (some ⟨b, o + 1, none⟩)) := by kernel_rfl
theorem fa179_2 (b o : Nat) : fieldAddrV P 179 (.pointer (some ⟨b, o, none⟩)) 2 = some (.pointer (some ⟨b, o + 2, none⟩)) := by kernel_rfl
theorem build179a : buildP P 179 [(0, (Value.func (.func 72) #[] #[])), (1, (Value.func (.func 73) #[] #[])), (2, (Value.func (.func 106) #[] #[]))] = some (endV 0) := by kernel_rfl
theorem build179b : buildP P 179 [(0, (Value.func (.func 73) #[] #[])), (1, (Value.func (.func 72) #[] #[])), (2, (Value.func (.func 105) #[] #[]))] = some (endV 1) := by kernel_rfl
theorem res121 (H : Hp) (b : Nat) : resV P (Tr.set Tr.nil 0 (some (.pointer (some ⟨b, 0, none⟩)))) H results121 = (match loadV P H 179 ⟨b, 0, none⟩ with
  | none => none
  | some v => some [v]) := by kernel_rfl
theorem res122 (H : Hp) (b : Nat) : resV P (Tr.set Tr.nil 0 (some (.pointer (some ⟨b, 0, none⟩)))) H results122 = (match loadV P H 179 ⟨b, 0, none⟩ with
  | none => none
  | some v => some [v]) := by kernel_rfl
theorem endF_leaf (e : Nat) : leafV (endF e) = true ∧ noHole (endF e) = true ∧ noHoles (endF e) = true ∧ pureV (endF e) = true := by unfold endF; split <;> exact ⟨rfl, rfl, rfl, rfl⟩
theorem withF_leaf (e : Nat) : leafV (withF e) = true ∧ noHole (withF e) = true ∧ noHoles (withF e) = true ∧ pureV (withF e) = true := by unfold withF; split <;> exact ⟨rfl, rfl, rfl, rfl⟩
theorem lowEnd_spec (c : Cal) (k : Nat) (H : Hp) (n : Nat) : Ret (C121_0 c k H n) n H (endV 0) := by
  obtain ⟨H1, k1, k2, k3⟩ := spill (P := P) (ρ := Value × Hp × Nat) (H := H) (n := n) (L := [endF 0, endF 1, withF 0]) zero179 rfl sz179 rfl rfl
  unfold C121_0 B121_0
  simp only [build179a, bindO_some]
  unfold endV
  rw [k3]
  rw [res121, load_all k2 agg179 sz179 rfl]
  exact ⟨H1, n + 1, rfl, by omega, k1⟩
theorem highEnd_spec (c : Cal) (k : Nat) (H : Hp) (n : Nat) : Ret (C122_0 c k H n) n H (endV 1) := by
  obtain ⟨H1, k1, k2, k3⟩ := spill (P := P) (ρ := Value × Hp × Nat) (H := H) (n := n) (L := [endF 1, endF 0, withF 1]) zero179 rfl sz179 rfl rfl
  unfold C122_0 B122_0
  simp only [build179b, bindO_some]
  unfold endV
  rw [k3]
  rw [res122, load_all k2 agg179 sz179 rfl]
  exact ⟨H1, n + 1, rfl, by omega, k1⟩
theorem call121 (l : Nat) (H : Hp) (n : Nat) : (cal (l + 1)).call 121 [] H n = C121_0 (cal l) KK H n := by kernel_rfl
theorem call122 (l : Nat) (H : Hp) (n : Nat) : (cal (l + 1)).call 122 [] H n = C122_0 (cal l) KK H n := by kernel_rfl
theorem flat121 : flatF P 121 = false := by kernel_rfl
theorem flat122 : flatF P 122 = false := by kernel_rfl
theorem lowEnd_call (l : Nat) (H : Hp) (n : Nat) : ∃ H' n', (∀ k : Value → Hp → Nat → Option ρ, callFK P (cal (l + 1)) 121 [] H n k = k (endV 0) H' n') ∧ n ≤ n' ∧ Keep n H H' := by
  obtain ⟨H', n', e, h1, h2⟩ := lowEnd_spec (cal l) KK H n
  refine ⟨H', n', fun k => ?_, h1, h2⟩
  unfold callFK
  rw [flat121, call121, e]
  rfl
theorem highEnd_call (l : Nat) (H : Hp) (n : Nat) : ∃ H' n', (∀ k : Value → Hp → Nat → Option ρ, callFK P (cal (l + 1)) 122 [] H n k = k (endV 1) H' n') ∧ n ≤ n' ∧ Keep n H H' := by
  obtain ⟨H', n', e, h1, h2⟩ := highEnd_spec (cal l) KK H n
  refine ⟨H', n', fun k => ?_, h1, h2⟩
  unfold callFK
  rw [flat122, call122, e]
  rfl
end Go.Proofs.Ytakjjillnllocaa.spec
namespace Go.Proofs.Ytakjjillnllocaa.spec
open Go.Ev Go.Proofs.Ytakjjillnllocaa.nestFits Go.Proofs.Ytakjjillnllocaa.G
set_option maxRecDepth 100000
variable {ρ : Type}
noncomputable def ext (y : Int) (L : List Int) (e p : Nat) : Int := lim e (L.getD (p * 2 + e) 0) (y - (total L (1 - e) - L.getD (p * 2 + (1 - e)) 0))
theorem at111 (b o : Nat) {i : Nat} (hi : i < 8) : indexAddrV P 111 (.pointer (some ⟨b, o, none⟩)) (.int .i64 i) = some (.pointer (some ⟨b, o + i * 2, none⟩)) := by
  unfold indexAddrV
  have : idxIn (.int .i64 (i : Int)) 8 = some i := by
    show idxIn (.int .i64 (.ofNat i)) 8 = some i
    simp [idxIn, hi]
  simp only [und111, this, sz53]
  rfl
theorem nest_share {y : Int} {L B : List Int} (hL : L.length = 16) {i : Nat} (hi : i < 8) : ((ints (nestL y L B)).drop (1 + i * 2)).take 2 = ((ints L).drop (i * 2)).take 2 := by
  rw [ints_cut, ints_cut]
  congr 1
  unfold nestL
  rw [Nat.add_comm, List.drop_succ_cons, List.drop_append_of_le_length (by omega), List.take_append_of_le_length (by simp; omega)]
theorem total_range {L : List Int} (hb : Bounded L) (e : Nat) : 0 ≤ total L e ∧ total L e ≤ 8000 := by
  have := sumTo_range (f := fun p => L.getD (p * 2 + e) 0) (c := 1000) (i := 8) (fun p _ => hb _)
  exact ⟨this.1, by unfold total; omega⟩
theorem row44 (x : Int) : rowOf P 44 1 [(0, .int .i64 x)] = some ([.int .i64 x], 3) := by kernel_rfl
theorem extreme_spec (l : Nat) {e : Nat} (he : e < 2) {y : Int} {L B : List Int} (hL : L.length = 16) (hB : B.length = 16) (hb : Bounded L) (hy : 0 ≤ y ∧ y ≤ 1000) {p : Nat} (hp : p < 8) :
    ∃ H' n', C120_0 (cal (l + 2)) KK (.agg ⟨ints (nestL y L B)⟩) (.int .i64 p) (endV e) .nil 0 = some (.int .i64 (ext y L e p), H', n') := by
  unfold C120_0 B120_0
  simp only [boxK_eq, cellsV, ptr, endV]
  have hg0 : (((Tr.nil : Hp).set 0 (some (.cells (ints (nestL y L B)) 113 false none))).set (0 + 1) (some (.cells [endF e, endF (1 - e), withF e] 179 false none))).get 0 = some (.cells (ints (nestL y L B)) 113 false none) := by rw [Tr.get_set, if_neg (by omega), Tr.get_set, if_pos rfl]
  have hg1 : (((Tr.nil : Hp).set 0 (some (.cells (ints (nestL y L B)) 113 false none))).set (0 + 1) (some (.cells [endF e, endF (1 - e), withF e] 179 false none))).get 1 = some (.cells [endF e, endF (1 - e), withF e] 179 false none) := by rw [Tr.get_set, if_pos rfl]
  generalize ((Tr.nil : Hp).set 0 (some (.cells (ints (nestL y L B)) 113 false none))).set (0 + 1) (some (.cells [endF e, endF (1 - e), withF e] 179 false none)) = H1 at hg0 hg1 ⊢
  simp only [Nat.zero_add]
  have lens : (ints (nestL y L B)).length = 33 := by rw [ints_length, nest_cells hL hB]
  have loads : ∀ H : Hp, H.get 0 = H1.get 0 → H.get 1 = H1.get 1 →
      loadV P H 113 ⟨0, 0, none⟩ = some (.agg ⟨ints (nestL y L B)⟩) ∧ loadV P H 129 ⟨1, 0 + 0, none⟩ = some (endF e) ∧ loadV P H 129 ⟨1, 0 + 1, none⟩ = some (endF (1 - e)) ∧ loadV P H 160 ⟨1, 0 + 2, none⟩ = some (withF e) ∧
      loadV P H 53 ⟨0, 0 + 1 + p * 2, none⟩ = some (.agg ⟨((ints L).drop (p * 2)).take 2⟩) ∧ loadV P H 3 ⟨0, 0 + 0, none⟩ = some (.int .i64 y) := by
    intro H q0 q1
    have c0 : CellsAt H 0 0 (ints (nestL y L B)) := cells_at (q0.trans hg0)
    have c1 : CellsAt H 1 0 [endF e, endF (1 - e), withF e] := cells_at (q1.trans hg1)
    refine ⟨load_all (q0.trans hg0) agg113 sz113 lens, loadV_scalar c1 agg129 rfl (endF_leaf _).2.1 (endF_leaf _).2.2.1, loadV_scalar c1 agg129 rfl (endF_leaf _).2.1 (endF_leaf _).2.2.1, loadV_scalar c1 agg160 rfl (withF_leaf _).2.1 (withF_leaf _).2.2.1, ?_, loadV_int c0 agg3 (by simp [ints, nestL])⟩
    have := loadV_agg (P := P) (k := 1 + p * 2) c0 agg53 sz53 (by rw [lens]; omega) (ints_noHole _)
    rw [nest_share hL hp, ← Nat.add_assoc] at this
    exact this
  obtain ⟨a0, a1, a2, a3, a4, a5⟩ := loads H1 rfl rfl
  have h1e : 1 - e < 2 := by omega
  rw [addrV_eq, bindO_some, a0, bindO_some, fa179_1, bindO_some, addrV_eq, bindO_some, a2, bindO_some, bindO_some, addrV_eq, bindO_some, a2, bindO_some, fa113_1, bindO_some, at111 0 (0 + 1) hp, bindO_some, addrV_eq, bindO_some, a4, bindO_some]
  obtain ⟨H2, s2, e2⟩ := effK_still (P := P) (ρ := Value × Hp × Nat) (ex := [.l 53 ⟨0, 0 + 1 + p * 2, none⟩, .l 129 ⟨1, 0 + 1, none⟩]) (H := H1) (n := 1 + 1) (v := .int .i64 (total L (1 - e)))
    (op := fun H n k => callFK P (cal (l + 2)) 98 [.agg ⟨ints (nestL y L B)⟩, endF (1 - e)] H n fun v H n => k v H n)
    ⟨fun q hq => .inl (by
      simp only [List.mem_cons, List.not_mem_nil, or_false] at hq
      rcases hq with rfl | rfl
      · exact ⟨_, _, rfl, .inl ⟨_, _, _, _, hg0⟩⟩
      · exact ⟨_, _, rfl, .inl ⟨_, _, _, _, hg1⟩⟩), fun t a id c e h1 h2 => by simp at h2⟩ (fun H k => sum_call l h1e hL hB hb H _ _)
  rw [e2, end_call (l + 1) h1e L (p * 2) (by omega)]
  obtain ⟨t0, t1⟩ := total_range hb (1 - e)
  obtain ⟨u0, u1⟩ := hb (p * 2 + (1 - e))
  have hI : I64 (total L (1 - e) - L.getD (p * 2 + (1 - e)) 0) := by unfold I64; omega
  have hI2 : I64 (y - (total L (1 - e) - L.getD (p * 2 + (1 - e)) 0)) := by unfold I64; omega
  obtain ⟨b0, b1, b2, b3, b4, b5⟩ := loads H2 (s2 0) (s2 1)
  rw [binK_some (bin_sub hI), fa179_2, bindO_some, addrV_eq, bindO_some, b3, bindO_some, fa179_0, bindO_some, addrV_eq, bindO_some, b1, bindO_some, bindO_some, at111 0 (0 + 1) hp, bindO_some, addrV_eq, bindO_some, b4, bindO_some, fa113_0, bindO_some, addrV_eq, bindO_some, b5, bindO_some,
    binK_some (bin_sub hI2), row44, bindO_some]
  unfold newK
  have hg0' : (H2.set (1 + 1) (some (.cells [.int .i64 (y - (total L (1 - e) - L.getD (p * 2 + (1 - e)) 0))] 3 false none))).get 0 = some (.cells (ints (nestL y L B)) 113 false none) := by rw [Tr.get_set, if_neg (by omega), s2]; exact hg0
  have hg1' : (H2.set (1 + 1) (some (.cells [.int .i64 (y - (total L (1 - e) - L.getD (p * 2 + (1 - e)) 0))] 3 false none))).get 1 = some (.cells [endF e, endF (1 - e), withF e] 179 false none) := by rw [Tr.get_set, if_neg (by omega), s2]; exact hg1
  have hrow : CellsAt (H2.set (1 + 1) (some (.cells [.int .i64 (y - (total L (1 - e) - L.getD (p * 2 + (1 - e)) 0))] 3 false none))) 2 0 [.int .i64 (y - (total L (1 - e) - L.getD (p * 2 + (1 - e)) 0))] := CellsAt.new
  obtain ⟨H3, s3, e3⟩ := effK_still (P := P) (ρ := Value × Hp × Nat) (ex := [.a (1 + 1) [.int .i64 (y - (total L (1 - e) - L.getD (p * 2 + (1 - e)) 0))] 3, .l 3 ⟨0, 0 + 0, none⟩, .l 160 ⟨1, 0 + 2, none⟩])
    (H := H2.set (1 + 1) (some (.cells [.int .i64 (y - (total L (1 - e) - L.getD (p * 2 + (1 - e)) 0))] 3 false none))) (n := 1 + 1 + 1) (v := .int .i64 (L.getD (p * 2 + e) 0))
    (op := fun H n k => callVK P (cal (l + 2)) (endF e) [.agg ⟨((ints L).drop (p * 2)).take 2⟩] H n fun v H n => k v H n)
    ⟨fun q hq => by
      simp only [List.mem_cons, List.not_mem_nil, or_false] at hq
      rcases hq with rfl | rfl | rfl
      · exact .inr ⟨_, _, _, rfl⟩
      · exact .inl ⟨_, _, rfl, .inl ⟨_, _, _, _, hg0'⟩⟩
      · exact .inl ⟨_, _, rfl, .inl ⟨_, _, _, _, hg1'⟩⟩, fun t a id c e h1 h2 => by
      simp only [List.mem_cons, List.not_mem_nil, or_false, Extra.a.injEq, reduceCtorEq, Extra.l.injEq, false_or] at h1 h2
      obtain ⟨rfl, _⟩ := h2
      rcases h1 with ⟨_, rfl⟩ | ⟨_, rfl⟩ <;> simp⟩ (fun H k => end_call (l + 1) he L (p * 2) (by omega) H _ _)
  have ee : ∀ k, effK P [.a (1 + 1) [.int .i64 (y - (total L (1 - e) - L.getD (p * 2 + (1 - e)) 0))] 3, .l 3 ⟨0, 0 + 0, none⟩, .l 160 ⟨1, 0 + 2, none⟩] (H2.set (1 + 1) (some (.cells [.int .i64 (y - (total L (1 - e) - L.getD (p * 2 + (1 - e)) 0))] 3 false none))) (1 + 1 + 1)
    (fun H n k => callVK P (cal (l + 2)) (endF e) [.agg ⟨((ints L).drop (p * 2)).take 2⟩] H n fun v H n => k v H n) k = k (.int .i64 (L.getD (p * 2 + e) 0)) H3 (1 + 1 + 1) := e3
  simp only [ee]
  have hx : CellsAt H3 (1 + 1) 0 [.int .i64 (y - (total L (1 - e) - L.getD (p * 2 + (1 - e)) 0))] := CellsAt.of_get hrow (s3 2)
  rw [with_call (l + 1) he _ _ hx]
  exact ⟨_, _, rfl⟩
theorem flat120 : flatF P 120 = true := by kernel_rfl
theorem call120 (l : Nat) (a b c : Value) (H : Hp) (n : Nat) : (cal (l + 1)).call 120 [a, b, c] H n = C120_0 (cal l) KK a b c H n :=
  (show (cal (l + 1)).call 120 [a, b, c] H n = quick ent120 (cal l) [a, b, c] H n by kernel_rfl).trans (quick_eq ..)
theorem extreme_call (l : Nat) {e : Nat} (he : e < 2) {y : Int} {L B : List Int} (hL : L.length = 16) (hB : B.length = 16) (hb : Bounded L) (hy : 0 ≤ y ∧ y ≤ 1000) {p : Nat} (hp : p < 8) (H : Hp) (n : Nat) (k : Value → Hp → Nat → Option ρ) :
    callFK P (cal (l + 3)) 120 [.agg ⟨ints (nestL y L B)⟩, .int .i64 p, endV e] H n k = k (.int .i64 (ext y L e p)) H n := by
  obtain ⟨H', n', h⟩ := extreme_spec l he (B := B) hL hB hb hy hp
  refine callFK_pure flat120 ?_ ((call120 ..).trans h) rfl
  simp only [endV, pureL, pureV, pureA, pure_ints, (endF_leaf _).2.2.2, (withF_leaf _).2.2.2, Bool.and_self]
end Go.Proofs.Ytakjjillnllocaa.spec
namespace Go.Proofs.Ytakjjillnllocaa.spec
open Go.Ev Go.Proofs.Ytakjjillnllocaa.nestFits Go.Proofs.Ytakjjillnllocaa.G
set_option maxRecDepth 100000
variable {ρ : Type}
noncomputable def zeros : List Int := List.replicate 16 0
theorem zeros_len : zeros.length = 16 := rfl
theorem zero113 : zeroT P 113 = some (.agg ⟨ints (nestL 0 zeros zeros)⟩) := by kernel_rfl
theorem build113 (y : Int) {L : List Int} (hL : L.length = 16) : buildP P 113 [(0, .int .i64 y), (1, .agg ⟨ints L⟩)] = some (.agg ⟨ints (nestL y L zeros)⟩) := by
  match L, hL with
  | [a0, a1, a2, a3, a4, a5, a6, a7, a8, a9, a10, a11, a12, a13, a14, a15], _ =>
    show buildP P 113 [(0, .int .i64 y), (1, .agg ⟨ints [a0, a1, a2, a3, a4, a5, a6, a7, a8, a9, a10, a11, a12, a13, a14, a15]⟩)] = some (.agg ⟨ints (nestL y [a0, a1, a2, a3, a4, a5, a6, a7, a8, a9, a10, a11, a12, a13, a14, a15] zeros)⟩)
    kernel_rfl
theorem res115 (H : Hp) (b : Nat) : resV P (Tr.set Tr.nil 4 (some (.pointer (some ⟨b, 0, none⟩)))) H results115 = (match loadV P H 113 ⟨b, 0, none⟩ with
  | none => none
  | some v => some [v]) := by kernel_rfl
theorem nest_set {y a b : Int} {L B : List Int} (hL : L.length = 16) (j : Nat) : ((nestL y L B).set (17 + j) a).set (17 + j + 1) b = nestL y L ((B.set j a).set (j + 1) b) := by
  unfold nestL
  rw [show 17 + j = (16 + j) + 1 by omega, List.set_cons_succ, List.set_cons_succ, List.set_append_right _ _ (by omega), List.set_append_right _ _ (by omega), hL]
  rw [show 16 + j - 16 = j by omega, show 16 + j + 1 - 16 = j + 1 by omega]
def BoundsTo (y : Int) (L B : List Int) (i : Nat) : Prop := B.length = 16 ∧ ∀ p, p < i → B.getD (p * 2) 0 = ext y L 0 p ∧ B.getD (p * 2 + 1) 0 = ext y L 1 p
theorem BoundsTo.next {y : Int} {L B : List Int} {i : Nat} (h : BoundsTo y L B i) (hi : i < 8) : BoundsTo y L ((B.set (i * 2) (ext y L 0 i)).set (i * 2 + 1) (ext y L 1 i)) (i + 1) := by
  obtain ⟨h1, h2⟩ := h
  refine ⟨by simp [h1], fun p hp => ?_⟩
  simp only [List.getD_eq_getElem?_getD, List.getElem?_set, List.length_set, h1]
  by_cases e : p = i
  · subst e
    rw [if_neg (show ¬ p * 2 + 1 = p * 2 by omega), if_pos rfl, if_pos (show p * 2 < 16 by omega), if_pos rfl, if_pos (show p * 2 + 1 < 16 by omega)]
    exact ⟨rfl, rfl⟩
  · obtain ⟨g1, g2⟩ := h2 p (by omega)
    rw [List.getD_eq_getElem?_getD] at g1 g2
    rw [if_neg (by omega), if_neg (by omega), if_neg (by omega), if_neg (by omega)]
    exact ⟨g1, g2⟩
theorem newNest_loop (l k : Nat) {y : Int} {L : List Int} (hL : L.length = 16) (hb : Bounded L) (hy : 0 ≤ y ∧ y ≤ 1000) (b4 b5 : Nat) (hne : b4 ≠ b5) : ∀ (m i : Nat) (B : List Int) (w : List Value) (H : Hp) (n : Nat), b4 < n → b5 < n →
    H.get b5 = some (.cells (ints (nestL y L B)) 113 false none) → H.get b4 = some (.cells w 113 false none) → w.length = 33 → BoundsTo y L B i → i ≤ 8 → 8 - i ≤ m →
    ∃ B' H' n', S115_1 (cal (l + 3)) k m (.pointer (some ⟨b4, 0, none⟩)) (.pointer (some ⟨b5, 0, none⟩)) (.int .i64 i) H n = some (.agg ⟨ints (nestL y L B')⟩, H', n') ∧ BoundsTo y L B' 8 := by
  have body : ∀ (b1 : Value → Value → Value → Hp → Nat → Res) (m i : Nat) (B : List Int) (w : List Value) (H : Hp) (n : Nat), b4 < n → b5 < n →
      H.get b5 = some (.cells (ints (nestL y L B)) 113 false none) → H.get b4 = some (.cells w 113 false none) → w.length = 33 → BoundsTo y L B i → i ≤ 8 →
      (∀ B2 H2 n2, b4 < n2 → b5 < n2 → H2.get b5 = some (.cells (ints (nestL y L B2)) 113 false none) → H2.get b4 = some (.cells w 113 false none) → BoundsTo y L B2 (i + 1) → i < 8 →
        ∃ B' H' n', b1 (.pointer (some ⟨b4, 0, none⟩)) (.pointer (some ⟨b5, 0, none⟩)) (.int .i64 ((i + 1 : Nat) : Int)) H2 n2 = some (.agg ⟨ints (nestL y L B')⟩, H', n') ∧ BoundsTo y L B' 8) →
      ∃ B' H' n', C115_1 (cal (l + 3)) k m b1 (.pointer (some ⟨b4, 0, none⟩)) (.pointer (some ⟨b5, 0, none⟩)) (.int .i64 i) H n = some (.agg ⟨ints (nestL y L B')⟩, H', n') ∧ BoundsTo y L B' 8 := by
    intro b1 m i B w H n hb4 hb5 hg5 hg4 hw hB hi ih
    have lens : (ints (nestL y L B)).length = 33 := by rw [ints_length, nest_cells hL hB.1]
    have hld := load_all hg5 agg113 sz113 lens
    unfold C115_1 B115_1
    rw [binK_some bin_lss, ifK_d]
    by_cases hlt : i < 8
    · rw [if_pos (by omega), addrV_eq, bindO_some, hld, bindO_some, bindO_some, hld, bindO_some, fa113_2, bindO_some]
      obtain ⟨H1, n1, e1, f1, g1⟩ := effK_grow (P := P) (ρ := Value × Hp × Nat) (ex := [.l 113 ⟨b5, 0, none⟩, .l 113 ⟨b5, 0, none⟩]) (H := H) (n := n) (v := endV 0)
        (op := fun H n k => callFK P (cal (l + 3)) 121 [] H n fun v H n => k v H n)
        (fun q hq => by simp only [List.mem_cons, List.not_mem_nil, or_false, or_self] at hq; subst hq; exact ⟨_, _, rfl, hb5, .inl ⟨_, _, _, _, hg5⟩⟩)
        (fun Hm => by obtain ⟨H', n', h1, h2, h3⟩ := lowEnd_call (ρ := Value × Hp × Nat) (l + 2) Hm n; exact ⟨H', n', fun k => h1 _, h2, h3⟩)
      rw [e1]
      have k5 : H1.get b5 = some (.cells (ints (nestL y L B)) 113 false none) := (g1 b5 hb5).trans hg5
      have k4 : H1.get b4 = some (.cells w 113 false none) := (g1 b4 hb4).trans hg4
      obtain ⟨H2, s2, e2⟩ := effK_still (P := P) (ρ := Value × Hp × Nat) (ex := [.l 113 ⟨b5, 0, none⟩]) (H := H1) (n := n1) (v := .int .i64 (ext y L 0 i))
        (op := fun H n k => callFK P (cal (l + 3)) 120 [.agg ⟨ints (nestL y L B)⟩, .int .i64 i, endV 0] H n fun v H n => k v H n)
        ⟨fun q hq => .inl (by simp only [List.mem_cons, List.not_mem_nil, or_false] at hq; subst hq; exact ⟨_, _, rfl, .inl ⟨_, _, _, _, k5⟩⟩), fun t a id c e h1 h2 => by simp at h2⟩
        (fun H k => extreme_call l (by omega) hL hB.1 hb hy hlt H _ _)
      rw [e2]
      have j5 : H2.get b5 = some (.cells (ints (nestL y L B)) 113 false none) := (s2 b5).trans k5
      have j4 : H2.get b4 = some (.cells w 113 false none) := (s2 b4).trans k4
      obtain ⟨H3, n3, e3, f3, g3⟩ := effK_grow (P := P) (ρ := Value × Hp × Nat) (ex := [.l 113 ⟨b5, 0, none⟩]) (H := H2) (n := n1) (v := endV 1)
        (op := fun H n k => callFK P (cal (l + 3)) 122 [] H n fun v H n => k v H n)
        (fun q hq => by simp only [List.mem_cons, List.not_mem_nil, or_false] at hq; subst hq; exact ⟨_, _, rfl, by show b5 < n1; omega, .inl ⟨_, _, _, _, j5⟩⟩)
        (fun Hm => by obtain ⟨H', n', h1, h2, h3⟩ := highEnd_call (ρ := Value × Hp × Nat) (l + 2) Hm n1; exact ⟨H', n', fun k => h1 _, h2, h3⟩)
      rw [e3, extreme_call l (by omega) hL hB.1 hb hy hlt, build53, bindO_some, at111 b5 (0 + 17) hlt, bindO_some, store53]
      have i5 : H3.get b5 = some (.cells (ints (nestL y L B)) 113 false none) := (g3 b5 (by omega)).trans j5
      have i4 : H3.get b4 = some (.cells w 113 false none) := (g3 b4 (by omega)).trans j4
      rw [show 0 + 17 + i * 2 = 17 + i * 2 by omega, store_two i5 (by rw [nest_cells hL hB.1]; omega), nest_set hL, bindO_some]
      have hI : I64 ((i : Int) + 1) := by unfold I64; omega
      have hcast : ((i : Int) + 1) = ((i + 1 : Nat) : Int) := by omega
      rw [binK_some (bin_add hI), hcast]
      exact ih _ _ n3 (by omega) (by omega) (by rw [Tr.get_set, if_pos rfl]) (by rw [Tr.get_set, if_neg hne]; exact i4) (hB.next hlt) hlt
    · rw [if_neg (by omega), addrV_eq, bindO_some, hld, bindO_some, storeP_agg sz113 lens, storeN_all hg4 (by rw [lens, hw]) (ints_leaf _), bindO_some, res115]
      have hgw : (H.set b4 (some (.cells (ints (nestL y L B)) 113 false none))).get b4 = some (.cells (ints (nestL y L B)) 113 false none) := by rw [Tr.get_set, if_pos rfl]
      rw [load_all hgw agg113 sz113 lens]
      have hi' : i = 8 := by omega
      subst hi'
      exact ⟨B, _, _, rfl, hB⟩
  intro m
  induction m with
  | zero =>
    intro i B w H n h1 h2 h3 h4 h5 h6 h7 h8
    exact body _ 0 i B w H n h1 h2 h3 h4 h5 h6 h7 (fun _ _ _ _ _ _ _ _ h => by omega)
  | succ m ih =>
    intro i B w H n h1 h2 h3 h4 h5 h6 h7 h8
    exact body _ (m + 1) i B w H n h1 h2 h3 h4 h5 h6 h7 (fun B2 H2 n2 q1 q2 q3 q4 q5 q6 => ih (i + 1) B2 w H2 n2 q1 q2 q3 q4 h5 q5 (by omega) (by omega))
theorem newNest_spec (l : Nat) {y : Int} {L : List Int} (hL : L.length = 16) (hb : Bounded L) (hy : 0 ≤ y ∧ y ≤ 1000) :
    ∃ B H' n', C115_0 (cal (l + 3)) KK (.int .i64 y) (.agg ⟨ints L⟩) .nil 0 = some (.agg ⟨ints (nestL y L B)⟩, H', n') ∧ BoundsTo y L B 8 := by
  unfold C115_0 B115_0
  rw [boxK_eq, allocK_eq zero113]
  have hg0 : (((Tr.nil : Hp).set 0 (some (.cells (ints L) 111 false none))).set (0 + 1) (some (.cells (ints (nestL 0 zeros zeros)) 113 false none))).get 0 = some (.cells (ints L) 111 false none) := by rw [Tr.get_set, if_neg (by omega), Tr.get_set, if_pos rfl]
  have hg1 : (((Tr.nil : Hp).set 0 (some (.cells (ints L) 111 false none))).set (0 + 1) (some (.cells (ints (nestL 0 zeros zeros)) 113 false none))).get 1 = some (.cells (ints (nestL 0 zeros zeros)) 113 false none) := by rw [Tr.get_set, if_pos rfl]
  simp only [cellsV, ptr]
  generalize ((Tr.nil : Hp).set 0 (some (.cells (ints L) 111 false none))).set (0 + 1) (some (.cells (ints (nestL 0 zeros zeros)) 113 false none)) = H1 at hg0 hg1 ⊢
  have hl := load_all hg0 agg111 sz111 (by rw [ints_length, hL])
  rw [addrV_eq, bindO_some, hl, bindO_some, build113 y hL, bindO_some]
  have lens : (ints (nestL y L zeros)).length = 33 := by rw [ints_length, nest_cells hL zeros_len]
  obtain ⟨H2, k1, k2, k3⟩ := spill (P := P) (ρ := Value × Hp × Nat) (H := H1) (n := 0 + 1 + 1) (L := ints (nestL y L zeros)) zero113 (by show (ints (nestL 0 zeros zeros)).length = 33; rw [ints_length, nest_cells zeros_len zeros_len]) sz113 lens (ints_leaf _)
  rw [k3]
  exact newNest_loop l KK hL hb hy 1 2 (by omega) KK 0 zeros (ints (nestL 0 zeros zeros)) H2 3 (by omega) (by omega) k2 ((k1 1 (by omega)).trans hg1) (by rw [ints_length, nest_cells zeros_len zeros_len]) ⟨rfl, fun p hp => by omega⟩ (by omega) (by unfold KK; omega)
theorem flat115 : flatF P 115 = true := by kernel_rfl
theorem call115 (l : Nat) (a b : Value) (H : Hp) (n : Nat) : (cal (l + 1)).call 115 [a, b] H n = C115_0 (cal l) KK a b H n :=
  (show (cal (l + 1)).call 115 [a, b] H n = quick ent115 (cal l) [a, b] H n by kernel_rfl).trans (quick_eq ..)
theorem newNest_call (l : Nat) {y : Int} {L : List Int} (hL : L.length = 16) (hb : Bounded L) (hy : 0 ≤ y ∧ y ≤ 1000) : ∃ B, BoundsTo y L B 8 ∧ ∀ (H : Hp) (n : Nat) (k : Value → Hp → Nat → Option ρ),
    callFK P (cal (l + 4)) 115 [.int .i64 y, .agg ⟨ints L⟩] H n k = k (.agg ⟨ints (nestL y L B)⟩) H n := by
  obtain ⟨B, H', n', h, hB⟩ := newNest_spec l hL hb hy
  refine ⟨B, hB, fun H n k => callFK_pure flat115 ?_ ((call115 ..).trans h) ?_⟩
  · simp only [pureL, pureV, pureA, pure_ints, Bool.and_self]
  · simp only [pureV, pureA, pure_ints]
end Go.Proofs.Ytakjjillnllocaa.spec
namespace Go.Proofs.Ytakjjillnllocaa.spec
open Go Go.Ev Go.Proofs.Ytakjjillnllocaa.nestFits Go.Proofs.Ytakjjillnllocaa.G
set_option maxRecDepth 100000
variable {ρ : Type}
noncomputable def code97 : Code := codeOf 97
noncomputable def results97 : List ResultVar := resOf 97
noncomputable def asgOf : Code → Code
  | .rangeFunc _ _ a _ => a
  | _ => .skip
noncomputable def bodOf : Code → Code
  | .rangeFunc _ _ _ b => b
  | _ => .skip
noncomputable def asg97 : Code := asgOf (cL (cR (cL (cR (cR code97)))))
noncomputable def bod97 : Code := bodOf (cL (cR (cL (cR (cR code97)))))
noncomputable def K97 (c : Cal) (k : Nat) : KC (Value × Hp × Nat) := codeE P c (codeF P c k) none 97 (cR (cR (cR code97))) .leaf (doneK P results97) X0 (doneK P results97)
noncomputable def T97 (v0 v1 v2 v5 v6 v7 v11 : Value) : Tm := (((((((((Tr.nil : Tm).set 0 (some v0)).set 1 (some v1)).set 2 (some v2)).set 5 (some v5)).set 6 (some v6)).set 7 (some v7)).set 9 (some v0)).set 10 (some v1)).set 11 (some v11)
theorem pre97 (c : Cal) (k : Nat) (v0 v1 v2 : Value) (H : Hp) (n : Nat) : bodyE P c A (k + 1) 97 [v0, v1, v2] H n =
    (boxK 86 v2 H n fun v5 H n => allocK P 113 H n fun v6 H n => allocK P 111 H n fun v7 H n => callFK P c 113 [v0, v1] H n fun v11 H n =>
      rangeK P c none 97 v11 #[12] asg97 bod97 (K97 c k) (upX 0 (K97 c k) X0) (doneK P results97) (T97 v0 v1 v2 v5 v6 v7 v11) H n []) := by
  rw [body_eq (fn := Go.Proofs.Try.f97) (c := code97) (rs := results97) (by kernel_rfl) (by kernel_rfl) (by kernel_rfl) (by kernel_rfl)]
  kernel_rfl
theorem post97 (c : Cal) (k : Nat) (v0 v1 v2 v5 v6 v7 v11 : Value) (H : Hp) (n : Nat) (D : List Nat) : K97 c k (T97 v0 v1 v2 v5 v6 v7 v11) H n D =
    (bindO (fieldAddrV P 86 v5 1) fun v18 => bindO (addrV v18) fun a => bindO (loadV P H 53 a) fun v19 => bindO (indexAddrV P 111 v7 v1) fun v20 => bindO (storeP P 53 v20 v19 H) fun H =>
      bindO (fieldAddrV P 86 v5 0) fun v21 => bindO (addrV v21) fun a => bindO (loadV P H 3 a) fun v22 => bindO (addrV v7) fun a => bindO (loadV P H 111 a) fun v23 => callFK P c 115 [v22, v23] H n fun v24 H n =>
      bindO (storeP P 113 v6 v24 H) fun H => getK (takeD H D) fun H => bindO (resV P ((Tr.nil : Tm).set 6 (some v6)) H results97) fun vs => some (oneV vs, H, n)) := by
  kernel_rfl
theorem call97 (l : Nat) (a b c : Value) (H : Hp) (n : Nat) : (cal (l + 1)).call 97 [a, b, c] H n = bodyE P (cal l) A (KK + 1) 97 [a, b, c] H n := by kernel_rfl
theorem asg97_eq (l lp : Nat) (v0 v1 v2 v5 v6 v7 v11 p : Value) (H : Hp) (n : Nat) :
    (cal (l + 1)).body lp 97 asg97 { T := (T97 v0 v1 v2 v5 v6 v7 v11).set 12 (some p), H, n, D := [] } = some (.norm, { T := ((T97 v0 v1 v2 v5 v6 v7 v11).set 12 (some p)).set 8 (some p), H, n, D := [] }) := by kernel_rfl
theorem bod97_eq (l lp : Nat) (v0 v1 v2 v5 v6 v7 v11 p : Value) (H : Hp) (n : Nat) :
    (cal (l + 1)).body lp 97 bod97 { T := ((T97 v0 v1 v2 v5 v6 v7 v11).set 12 (some p)).set 8 (some p), H, n, D := [] } =
      (bindO (fieldAddrV P 86 v5 2) fun v14 => bindO (addrV v14) fun a => bindO (loadV P H 53 a) fun v15 => bindO (indexAddrV P 111 v7 p) fun v16 => bindO (storeP P 53 v16 v15 H) fun H' =>
        some (.norm, { T := ((((((T97 v0 v1 v2 v5 v6 v7 v11).set 12 (some p)).set 8 (some p)).set 13 (some p)).set 14 (some v14)).set 15 (some v15)).set 16 (some v16), H := H', n, D := [] })) := by kernel_rfl
theorem res97 (H : Hp) (b : Nat) : resV P ((Tr.nil : Tm).set 6 (some (.pointer (some ⟨b, 0, none⟩)))) H results97 = (match loadV P H 113 ⟨b, 0, none⟩ with
  | none => none
  | some v => some [v]) := by kernel_rfl
theorem ntm97 : ntm P 97 = 25 := by kernel_rfl
end Go.Proofs.Ytakjjillnllocaa.spec
namespace Go.Proofs.Ytakjjillnllocaa.spec
open Go Go.Ev Go.Proofs.Ytakjjillnllocaa.nestFits Go.Proofs.Ytakjjillnllocaa.G
set_option maxRecDepth 100000
variable {ρ : Type}
theorem agg105 : isAggT P 105 = some false := by kernel_rfl
theorem agg4 : isAggT P 4 = some false := by kernel_rfl
theorem und109 : P.underlying 109 = some (.array 8 108) := by kernel_rfl
theorem und108 : P.underlying 108 = some (.array 8 4) := by kernel_rfl
theorem sz108 : szT P 108 = some 8 := by kernel_rfl
theorem sz4 : szT P 4 = some 1 := by kernel_rfl
theorem fa117_0 (b o : Nat) : fieldAddrV P 117 (.pointer (some ⟨b, o, none⟩)) 0 = some (.pointer (some ⟨b, o + 0, none⟩)) := by kernel_rfl
theorem fa117_1 (b o : Nat) : fieldAddrV P 117 (.pointer (some ⟨b, o, none⟩)) 1 = some (.pointer (some ⟨b, o + 3, none⟩)) := by kernel_rfl
theorem fa117_2 (b o : Nat) : fieldAddrV P 117 (.pointer (some ⟨b, o, none⟩)) 2 = some (.pointer (some ⟨b, o + 67, none⟩)) := by kernel_rfl
theorem idx_lt {i n : Nat} (hi : i < n) : idxIn (.int .i64 (i : Int)) n = some i := by
  show idxIn (.int .i64 (.ofNat i)) n = some i
  simp [idxIn, hi]
theorem at109 (b o : Nat) {i : Nat} (hi : i < 8) : indexAddrV P 109 (.pointer (some ⟨b, o, none⟩)) (.int .i64 i) = some (.pointer (some ⟨b, o + i * 8, none⟩)) := by
  unfold indexAddrV
  simp only [und109, idx_lt hi, sz108]
  rfl
theorem at108 (b o : Nat) {i : Nat} (hi : i < 8) : indexAddrV P 108 (.pointer (some ⟨b, o, none⟩)) (.int .i64 i) = some (.pointer (some ⟨b, o + i * 1, none⟩)) := by
  unfold indexAddrV
  simp only [und108, idx_lt hi, sz4]
  rfl
theorem nil_ptr (a : Addr) : nilV (.pointer (some a)) = some (.pointer (some a)) := rfl
theorem guardD_tt {op : KD ρ → Option ρ} {ex : Extra} {H : Hp} {n : Nat} {k : KD ρ} : guardD (.bool true) true op ex H n k = op k := rfl
theorem guardD_ft {op : KD ρ → Option ρ} {ex : Extra} {H : Hp} {n : Nat} {k : KD ρ} : guardD (.bool false) true op ex H n k = k undef ex H n := rfl
structure Reads (H : Hp) (pb sb g : Nat) (x : Value) (pad : Nat) (near : Nat → Bool) : Prop where
  pad_ : loadV P H 3 ⟨pb, 0, none⟩ = some (.int .i64 pad)
  site : loadV P H 105 ⟨sb, 0, none⟩ = some (.pointer (some ⟨g, 0, none⟩))
  pads : loadV P H 31 ⟨g, 0 + 0 + 0, none⟩ = some x
  near_ : ∀ b, b < 8 → loadV P H 4 ⟨g, 0 + 3 + pad * 8 + b * 1, none⟩ = some (.bool (near b))
theorem iter_loop (c : Cal) (k : Nat) (yv : Value) (pb sb g pad np : Nat) (x : Value) (near : Nat → Bool) (hpad : pad < 8) (hnp : np ≤ 8) (Inv : List Nat → Hp → Nat → Prop) (hR : ∀ ps H n, Inv ps H n → Reads H pb sb g x pad near)
    (hY : ∀ (ps : List Nat) (p : Nat) (H : Hp) (n : Nat), Inv ps H n → p < 8 → ∃ H' n', (∀ k : Value → Hp → Nat → Res, callVK P c yv [.int .i64 p] H n k = k (.bool true) H' n') ∧ Inv (ps ++ [p]) H' n') (ps0 : List Nat) : ∀ (m i : Nat) (H : Hp) (n : Nat),
    Inv (ps0 ++ (List.range i).filter near) H n → i ≤ np → np - i ≤ m →
    ∃ H' n', S119_1 c k m yv (.pointer (some ⟨pb, 0, none⟩)) (.pointer (some ⟨sb, 0, none⟩)) (.int .i64 np) (.int .i64 i) H n = some (.tuple ⟨[]⟩, H', n') ∧ Inv (ps0 ++ (List.range np).filter near) H' n' := by
  have body : ∀ (b1 : Value → Value → Value → Value → Value → Hp → Nat → Res) (m i : Nat) (H : Hp) (n : Nat), Inv (ps0 ++ (List.range i).filter near) H n → i ≤ np →
      (∀ H' n', Inv (ps0 ++ (List.range (i + 1)).filter near) H' n' → i < np → ∃ H2 n2, b1 yv (.pointer (some ⟨pb, 0, none⟩)) (.pointer (some ⟨sb, 0, none⟩)) (.int .i64 np) (.int .i64 ((i + 1 : Nat) : Int)) H' n' = some (.tuple ⟨[]⟩, H2, n2) ∧ Inv (ps0 ++ (List.range np).filter near) H2 n2) →
      ∃ H' n', C119_1 c k m b1 yv (.pointer (some ⟨pb, 0, none⟩)) (.pointer (some ⟨sb, 0, none⟩)) (.int .i64 np) (.int .i64 i) H n = some (.tuple ⟨[]⟩, H', n') ∧ Inv (ps0 ++ (List.range np).filter near) H' n' := by
    intro b1 m i H n hI hi ih
    unfold C119_1 B119_1
    rw [binK_some bin_lss, ifK_d]
    by_cases hlt : i < np
    · obtain ⟨r1, r2, r3, r4⟩ := hR _ _ _ hI
      have hi8 : i < 8 := by omega
      have hb := r4 i hi8
      have hI1 : I64 ((i : Int) + 1) := by unfold I64; omega
      have hcast : ((i : Int) + 1) = ((i + 1 : Nat) : Int) := by omega
      rw [if_pos (by omega), addrV_eq, bindO_some, r2, bindO_some, addrV_eq, bindO_some, r1, bindO_some, nil_ptr, bindO_some, fa117_1, bindO_some, at109 _ _ hpad, bindO_some, at108 _ _ hi8, bindO_some, addrV_eq, bindO_some, hb, bindO_some]
      cases hn : near i with
      | true =>
        obtain ⟨H1, n1, e1, e2⟩ := hY _ i _ _ hI hi8
        simp only [guardD_tt, e1, not_t, bindO_some, pickV_t, ifK_f, binK_some (bin_add hI1), hcast]
        refine ih H1 n1 ?_ hlt
        rw [List.range_succ, List.filter_append, ← List.append_assoc]
        simp only [List.filter_cons, hn, if_true, List.filter_nil]
        exact e2
      | false =>
        simp only [guardD_ft, pickV_f, bindO_some, ifK_f, binK_some (bin_add hI1), hcast]
        refine ih H n ?_ hlt
        rw [List.range_succ, List.filter_append]
        simp only [List.filter_cons, hn, List.filter_nil, Bool.false_eq_true, if_false, List.append_nil]
        exact hI
    · rw [if_neg (by omega)]
      have hi' : i = np := by omega
      subst hi'
      exact ⟨H, n, rfl, hI⟩
  intro m
  induction m with
  | zero =>
    intro i H n h1 h2 h3
    exact body _ 0 i H n h1 h2 (fun _ _ _ h => by omega)
  | succ m ih =>
    intro i H n h1 h2 h3
    exact body _ (m + 1) i H n h1 h2 (fun H' n' q1 q2 => ih (i + 1) H' n' q1 (by omega) (by omega))
theorem iter_spec (c : Cal) (yv : Value) (pb sb g pad np : Nat) (x : Value) (near : Nat → Bool) (hpad : pad < 8) (hnp : np ≤ 8) (hx : lenV P 31 x = some (.int .i64 np)) (Inv : List Nat → Hp → Nat → Prop) (hR : ∀ ps H n, Inv ps H n → Reads H pb sb g x pad near)
    (hY : ∀ (ps : List Nat) (p : Nat) (H : Hp) (n : Nat), Inv ps H n → p < 8 → ∃ H' n', (∀ k : Value → Hp → Nat → Res, callVK P c yv [.int .i64 p] H n k = k (.bool true) H' n') ∧ Inv (ps ++ [p]) H' n') {H : Hp} {n : Nat} (h0 : Inv [] H n) :
    ∃ H' n', C119_0 c KK yv (.pointer (some ⟨pb, 0, none⟩)) (.pointer (some ⟨sb, 0, none⟩)) H n = some (.tuple ⟨[]⟩, H', n') ∧ Inv (pad :: (List.range np).filter near) H' n' := by
  unfold C119_0 B119_0
  generalize hS : S119_1 c KK KK = S
  obtain ⟨r1, _, _, _⟩ := hR _ _ _ h0
  obtain ⟨H1, n1, e1, e2⟩ := hY _ pad _ _ h0 hpad
  obtain ⟨_, r2, r3, _⟩ := hR _ _ _ e2
  rw [addrV_eq, bindO_some, r1, bindO_some, e1, not_t, bindO_some, ifK_f, addrV_eq, bindO_some, r2, bindO_some, nil_ptr, bindO_some, fa117_0, bindO_some, fa35_0, bindO_some, addrV_eq, bindO_some, r3, bindO_some, hx, bindO_some, ← hS]
  exact iter_loop c KK yv pb sb g pad np x near hpad hnp Inv hR hY [pad] KK 0 H1 n1 e2 (by omega) (by unfold KK; omega)
def fillS (lo hi : Int) (ps : List Nat) : List Int := ps.foldl (fun X p => (X.set (p * 2) lo).set (p * 2 + 1) hi) (List.replicate 16 0)
theorem fillS_snoc (lo hi : Int) (ps : List Nat) (p : Nat) : fillS lo hi (ps ++ [p]) = ((fillS lo hi ps).set (p * 2) lo).set (p * 2 + 1) hi := by
  unfold fillS; rw [List.foldl_append]; rfl
theorem set_two_len (X : List Int) (j : Nat) (a b : Int) : ((X.set j a).set (j + 1) b).length = X.length := by simp
theorem fillS_len (lo hi : Int) (ps : List Nat) : (fillS lo hi ps).length = 16 := by
  have : ∀ (ps : List Nat) (X : List Int), (ps.foldl (fun X p => (X.set (p * 2) lo).set (p * 2 + 1) hi) X).length = X.length := by
    intro ps
    induction ps with
    | nil => intro X; rfl
    | cons p ps ih => intro X; rw [List.foldl_cons, ih, set_two_len]
  exact this ps _
theorem set_two_get {X : List Int} (hX : X.length = 16) {p q : Nat} (hp : p < 8) (a b : Int) : (((X.set (p * 2) a).set (p * 2 + 1) b).getD (q * 2) 0 = if q = p then a else X.getD (q * 2) 0) ∧
    (((X.set (p * 2) a).set (p * 2 + 1) b).getD (q * 2 + 1) 0 = if q = p then b else X.getD (q * 2 + 1) 0) := by
  simp only [List.getD_eq_getElem?_getD, List.getElem?_set, List.length_set, hX]
  by_cases e : q = p
  · subst e
    rw [if_neg (show ¬ q * 2 + 1 = q * 2 by omega), if_pos rfl, if_pos (show q * 2 < 16 by omega), if_pos rfl, if_pos rfl, if_pos (show q * 2 + 1 < 16 by omega), if_pos rfl]
    exact ⟨rfl, rfl⟩
  · rw [if_neg (show ¬ p * 2 + 1 = q * 2 by omega), if_neg (show ¬ p * 2 = q * 2 by omega), if_neg e, if_neg (show ¬ p * 2 + 1 = q * 2 + 1 by omega), if_neg (show ¬ p * 2 = q * 2 + 1 by omega), if_neg e]
    exact ⟨rfl, rfl⟩
theorem fillS_get (lo hi : Int) (q : Nat) (ps : List Nat) (h : ∀ p ∈ ps, p < 8) : (fillS lo hi ps).getD (q * 2) 0 = (if q ∈ ps then lo else 0) ∧ (fillS lo hi ps).getD (q * 2 + 1) 0 = (if q ∈ ps then hi else 0) := by
  have key : ∀ (ps : List Nat) (X : List Int), X.length = 16 → (∀ p ∈ ps, p < 8) → (ps.foldl (fun X p => (X.set (p * 2) lo).set (p * 2 + 1) hi) X).getD (q * 2) 0 = (if q ∈ ps then lo else X.getD (q * 2) 0) ∧
      (ps.foldl (fun X p => (X.set (p * 2) lo).set (p * 2 + 1) hi) X).getD (q * 2 + 1) 0 = (if q ∈ ps then hi else X.getD (q * 2 + 1) 0) := by
    intro ps
    induction ps with
    | nil => intro X _ _; exact ⟨rfl, rfl⟩
    | cons p ps ih =>
      intro X hX hp
      obtain ⟨h1, h2⟩ := ih ((X.set (p * 2) lo).set (p * 2 + 1) hi) (by rw [set_two_len]; exact hX) (fun p' hp' => hp p' (List.mem_cons_of_mem _ hp'))
      obtain ⟨g1, g2⟩ := set_two_get (q := q) hX (hp p List.mem_cons_self) lo hi
      rw [List.foldl_cons, h1, h2, g1, g2]
      by_cases e : q = p <;> by_cases e2 : q ∈ ps <;> simp [e, e2]
  have z : ∀ k : Nat, (List.replicate 16 (0 : Int)).getD k 0 = 0 := by
    intro k
    rw [List.getD_eq_getElem?_getD, List.getElem?_replicate]
    split <;> rfl
  have := key ps (List.replicate 16 0) rfl h
  rw [z, z] at this
  exact this
end Go.Proofs.Ytakjjillnllocaa.spec
namespace Go.Proofs.Ytakjjillnllocaa.spec
open Go Go.Ev Go.Proofs.Ytakjjillnllocaa.nestFits Go.Proofs.Ytakjjillnllocaa.G
set_option maxRecDepth 100000
variable {ρ : Type}
theorem loadK53 {H : Hp} {b : Nat} {y a1 a2 a3 a4 : Int} (h : H.get b = some (.cells [.int .i64 y, .int .i64 a1, .int .i64 a2, .int .i64 a3, .int .i64 a4] 86 false none)) :
    loadV P H 53 ⟨b, 0 + 1, none⟩ = some (.agg ⟨[.int .i64 a1, .int .i64 a2]⟩) ∧ loadV P H 53 ⟨b, 0 + 3, none⟩ = some (.agg ⟨[.int .i64 a3, .int .i64 a4]⟩) ∧ loadV P H 3 ⟨b, 0 + 0, none⟩ = some (.int .i64 y) :=
  ⟨loadV_agg (k := 1) (cells_at h) agg53 sz53 (by simp) rfl, loadV_agg (k := 3) (cells_at h) agg53 sz53 (by simp) rfl, loadV_int (cells_at h) agg3 rfl⟩
theorem yield97 (L : Nat) {H : Hp} {n lb b5 b7 d : Nat} {v0 v1 v2 v6 v11 : Value} {y a1 a2 a3 a4 : Int} {X : List Int} (hl : H.get lb = some (.loop .ready none 97 (T97 v0 v1 v2 (.pointer (some ⟨b5, 0, none⟩)) v6 (.pointer (some ⟨b7, 0, none⟩)) v11) (ntm P 97) #[12] asg97 bod97 d))
    (h5 : H.get b5 = some (.cells [.int .i64 y, .int .i64 a1, .int .i64 a2, .int .i64 a3, .int .i64 a4] 86 false none)) (h7 : H.get b7 = some (.cells (ints X) 111 false none)) (hX : X.length = 16) (n5 : b5 ≠ lb) (n7 : b7 ≠ lb) {p : Nat} (hp : p < 8) :
    ∃ H', (∀ k : Value → Hp → Nat → Option ρ, callVK P (cal (L + 1)) (.func (.yield lb) #[] #[]) [.int .i64 p] H n k = k (.bool true) H' n) ∧ H'.get lb = H.get lb ∧
      H'.get b7 = some (.cells (ints ((X.set (p * 2) a3).set (p * 2 + 1) a4)) 111 false none) ∧ ∀ b, b ≠ lb → b ≠ b7 → H'.get b = H.get b := by
  have hpar : paramsT (T97 v0 v1 v2 (.pointer (some ⟨b5, 0, none⟩)) v6 (.pointer (some ⟨b7, 0, none⟩)) v11) (ntm P 97) (#[12] : Array Tmp).toList [.int .i64 p] = some ((T97 v0 v1 v2 (.pointer (some ⟨b5, 0, none⟩)) v6 (.pointer (some ⟨b7, 0, none⟩)) v11).set 12 (some (.int .i64 p))) := by
    rw [ntm97]; rfl
  generalize hT : T97 v0 v1 v2 (.pointer (some ⟨b5, 0, none⟩)) v6 (.pointer (some ⟨b7, 0, none⟩)) v11 = T at hl hpar
  have hrdy : isReady H lb = true := by unfold isReady; rw [hl]
  have hpen : pendingOf H lb = none := by unfold pendingOf; rw [hl]
  have hbusy : setLoop H lb .busy none = some (H.set lb (some (.loop .busy none 97 T (ntm P 97) #[12] asg97 bod97 d))) := by unfold setLoop; rw [hl]
  have g5 : (H.set lb (some (.loop .busy none 97 T (ntm P 97) #[12] asg97 bod97 d))).get b5 = some (.cells [.int .i64 y, .int .i64 a1, .int .i64 a2, .int .i64 a3, .int .i64 a4] 86 false none) := by rw [Tr.get_set, if_neg n5]; exact h5
  have g7 : (H.set lb (some (.loop .busy none 97 T (ntm P 97) #[12] asg97 bod97 d))).get b7 = some (.cells (ints X) 111 false none) := by rw [Tr.get_set, if_neg n7]; exact h7
  have gl : (H.set lb (some (.loop .busy none 97 T (ntm P 97) #[12] asg97 bod97 d))).get lb = some (.loop .busy none 97 T (ntm P 97) #[12] asg97 bod97 d) := by rw [Tr.get_set, if_pos rfl]
  have ho : ∀ b, b ≠ lb → (H.set lb (some (.loop .busy none 97 T (ntm P 97) #[12] asg97 bod97 d))).get b = H.get b := fun b hb => by rw [Tr.get_set, if_neg hb]
  generalize H.set lb (some (.loop .busy none 97 T (ntm P 97) #[12] asg97 bod97 d)) = H1 at hbusy g5 g7 gl ho
  have hst := store_two (a := a3) (b := a4) (o := p * 2) g7 (by omega)
  have q7 : (H1.set b7 (some (.cells (ints ((X.set (p * 2) a3).set (p * 2 + 1) a4)) 111 false none))).get b7 = some (.cells (ints ((X.set (p * 2) a3).set (p * 2 + 1) a4)) 111 false none) := by rw [Tr.get_set, if_pos rfl]
  have ql : (H1.set b7 (some (.cells (ints ((X.set (p * 2) a3).set (p * 2 + 1) a4)) 111 false none))).get lb = some (.loop .busy none 97 T (ntm P 97) #[12] asg97 bod97 d) := by rw [Tr.get_set, if_neg (Ne.symm n7)]; exact gl
  have qo : ∀ b, b ≠ lb → b ≠ b7 → (H1.set b7 (some (.cells (ints ((X.set (p * 2) a3).set (p * 2 + 1) a4)) 111 false none))).get b = H.get b := fun b hb hb7 => by rw [Tr.get_set, if_neg hb7]; exact ho b hb
  have hbody : ∃ T', (cal (L + 1)).body lb 97 bod97 { T := (T.set 12 (some (.int .i64 p))).set 8 (some (.int .i64 p)), H := H1, n, D := [] } = some (.norm, { T := T', H := H1.set b7 (some (.cells (ints ((X.set (p * 2) a3).set (p * 2 + 1) a4)) 111 false none)), n, D := [] }) := by
    rw [← hT, bod97_eq, fa86_2, bindO_some, addrV_eq, bindO_some, (loadK53 g5).2.1, bindO_some, at111 b7 0 hp, bindO_some, store53, Nat.zero_add, hst, bindO_some]
    exact ⟨_, rfl⟩
  generalize H1.set b7 (some (.cells (ints ((X.set (p * 2) a3).set (p * 2 + 1) a4)) 111 false none)) = H2 at q7 ql qo hbody
  obtain ⟨T', hbody⟩ := hbody
  have hasg : (cal (L + 1)).body lb 97 asg97 { T := T.set 12 (some (.int .i64 p)), H, n, D := [] } = some (.norm, { T := (T.set 12 (some (.int .i64 p))).set 8 (some (.int .i64 p)), H, n, D := [] }) := by
    rw [← hT]; exact asg97_eq ..
  have hend : setLoop H2 lb .ready none = some (H2.set lb (some (.loop .ready none 97 T (ntm P 97) #[12] asg97 bod97 d))) := by unfold setLoop; rw [ql]
  refine ⟨H2.set lb (some (.loop .ready none 97 T (ntm P 97) #[12] asg97 bod97 d)), fun k => ?_, by rw [Tr.get_set, if_pos rfl, hl], by rw [Tr.get_set, if_neg n7]; exact q7, fun b hb hb7 => by rw [Tr.get_set, if_neg hb]; exact qo b hb hb7⟩
  show stK (yieldF (fun | some l => (cal (L + 1)).body l | none => fun _ _ _ => none) P lb [.int .i64 p] (bare H n)) k = _
  have hy : yieldF (fun | some l => (cal (L + 1)).body l | none => fun _ _ _ => none) P lb [.int .i64 p] (bare H n) = some (.bool true, { bare H n with H := H2.set lb (some (.loop .ready none 97 T (ntm P 97) #[12] asg97 bod97 d)) }) := by
    unfold yieldF
    have hb : Nat.beq (ntm P 97) (ntm P 97) = true := Nat.beq_refl _
    have hx : exCode .norm = some none := rfl
    simp only [bare, hl, hb, hpar, hasg, hrdy, hpen, hbusy, hbody, hx, Option.isNone_none, if_true, hend]
  rw [hy]
  rfl
end Go.Proofs.Ytakjjillnllocaa.spec
namespace Go.Proofs.Ytakjjillnllocaa.spec
open Go Go.Ev Go.Proofs.Ytakjjillnllocaa.nestFits Go.Proofs.Ytakjjillnllocaa.G
set_option maxRecDepth 100000
variable {ρ : Type}
theorem zero111 : zeroT P 111 = some (.agg ⟨ints (List.replicate 16 0)⟩) := by kernel_rfl
theorem flat113 : flatF P 113 = false := by kernel_rfl
theorem call113 (l : Nat) (a b : Value) (H : Hp) (n : Nat) : (cal (l + 1)).call 113 [a, b] H n = C113_0 (cal l) KK a b H n := by kernel_rfl
theorem call119 (l : Nat) (a b c : Value) (H : Hp) (n : Nat) : (cal (l + 1)).call 119 [a, b, c] H n = C119_0 (cal l) KK a b c H n := by kernel_rfl
theorem reached_call (l : Nat) (g pad : Nat) (H : Hp) (n : Nat) (k : Value → Hp → Nat → Option ρ) : callFK P (cal (l + 1)) 113 [.pointer (some ⟨g, 0, none⟩), .int .i64 pad] H n k =
    k (.func (.func 119) ⟨[]⟩ ⟨[.pointer (some ⟨n + 1, 0, none⟩), .pointer (some ⟨n, 0, none⟩)]⟩) ((H.set n (some (.cells [.pointer (some ⟨g, 0, none⟩)] 105 false none))).set (n + 1) (some (.cells [.int .i64 pad] 3 false none))) (n + 2) := by
  unfold callFK
  rw [flat113, call113]
  rfl
theorem range97 (c : Cal) (a b : Value) (K : KC (Value × Hp × Nat)) (X : XC (Value × Hp × Nat)) (Kr : KC (Value × Hp × Nat)) (T : Tm) (H : Hp) (n : Nat) :
    rangeK P c none 97 (.func (.func 119) ⟨[]⟩ ⟨[a, b]⟩) #[12] asg97 bod97 K X Kr T H n [] =
      callFK P c 119 [.func (.yield (n + 1)) #[] #[], a, b] ((H.set n (some .deferred)).set (n + 1) (some (.loop .ready none 97 T (ntm P 97) #[12] asg97 bod97 n))) (n + 2) fun _ H n' => fin K X Kr (rangeOut (n + 1) { T := T, H, n := n', D := [n] }) := rfl
def sharesL (a1 a2 a3 a4 : Int) (near : Nat → Bool) (np pad : Nat) : List Int := ((fillS a3 a4 (pad :: (List.range np).filter near)).set (pad * 2) a1).set (pad * 2 + 1) a2
theorem sharesL_len (a1 a2 a3 a4 : Int) (near : Nat → Bool) (np pad : Nat) : (sharesL a1 a2 a3 a4 near np pad).length = 16 := by
  unfold sharesL; rw [set_two_len, fillS_len]
theorem sharesL_get {a1 a2 a3 a4 : Int} {near : Nat → Bool} {np pad : Nat} (hnp : np ≤ 8) (hpad : pad < 8) (q : Nat) :
    (sharesL a1 a2 a3 a4 near np pad).getD (q * 2) 0 = (if q = pad then a1 else if q < np ∧ near q = true then a3 else 0) ∧ (sharesL a1 a2 a3 a4 near np pad).getD (q * 2 + 1) 0 = (if q = pad then a2 else if q < np ∧ near q = true then a4 else 0) := by
  unfold sharesL
  obtain ⟨h1, h2⟩ := set_two_get (q := q) (fillS_len a3 a4 (pad :: (List.range np).filter near)) hpad a1 a2
  obtain ⟨g1, g2⟩ := fillS_get a3 a4 q (pad :: (List.range np).filter near) (by
    intro p hp
    rcases List.mem_cons.1 hp with z | z
    · omega
    · have := List.mem_range.1 (List.mem_filter.1 z).1; omega)
  rw [h1, h2, g1, g2]
  have hm : q ≠ pad → (q ∈ pad :: (List.range np).filter near ↔ q < np ∧ near q = true) := fun e => by simp [e]
  by_cases e : q = pad
  · simp [e]
  · rw [if_neg e, if_neg e, if_neg e, if_neg e]
    by_cases e2 : q < np ∧ near q = true
    · rw [if_pos ((hm e).2 e2), if_pos ((hm e).2 e2), if_pos e2, if_pos e2]; exact ⟨rfl, rfl⟩
    · rw [if_neg (fun h => e2 ((hm e).1 h)), if_neg (fun h => e2 ((hm e).1 h)), if_neg e2, if_neg e2]; exact ⟨rfl, rfl⟩
theorem sharesL_bounded {a1 a2 a3 a4 : Int} {near : Nat → Bool} {np pad : Nat} (hnp : np ≤ 8) (hpad : pad < 8) (h1 : okR a1 a2) (h2 : okR a3 a4) : Bounded (sharesL a1 a2 a3 a4 near np pad) := by
  intro k
  unfold okR at h1 h2
  by_cases hk : k < 16
  · obtain ⟨g1, g2⟩ := sharesL_get (a1 := a1) (a2 := a2) (a3 := a3) (a4 := a4) (near := near) hnp hpad (k / 2)
    rcases Nat.mod_two_eq_zero_or_one k with z | z
    · rw [show k / 2 * 2 = k by omega] at g1
      rw [g1]
      split
      · omega
      · split <;> omega
    · rw [show k / 2 * 2 + 1 = k by omega] at g2
      rw [g2]
      split
      · omega
      · split <;> omega
  · rw [List.getD_eq_getElem?_getD, List.getElem?_eq_none (by rw [sharesL_len]; omega)]
    simp
theorem nestOn_spec (l : Nat) {H : Hp} {n g np pad : Nat} {f : Nat → Value} {x : Value} {near : Nat → Bool} {y a1 a2 a3 a4 : Int} (hg : g < n) (hs : CellsF H g 859 117 f) (hx : f 0 = x) (hlen : lenV P 31 x = some (.int .i64 np)) (hnp : np ≤ 8) (hpad : pad < 8)
    (hnear : ∀ b, b < 8 → f (3 + pad * 8 + b) = .bool (near b)) (hy : 0 ≤ y ∧ y ≤ 1000) (h1 : okR a1 a2) (h2 : okR a3 a4) :
    ∃ B, BoundsTo y (sharesL a1 a2 a3 a4 near np pad) B 8 ∧ Ret ((cal (l + 5)).call 97 [.pointer (some ⟨g, 0, none⟩), .int .i64 pad, .agg ⟨[.int .i64 y, .int .i64 a1, .int .i64 a2, .int .i64 a3, .int .i64 a4]⟩] H n) n H
      (.agg ⟨ints (nestL y (sharesL a1 a2 a3 a4 near np pad) B)⟩) := by
  obtain ⟨B, hB, hnest⟩ := newNest_call (ρ := Value × Hp × Nat) l (sharesL_len a1 a2 a3 a4 near np pad) (sharesL_bounded hnp hpad h1 h2) hy
  refine ⟨B, hB, ?_⟩
  rw [call97, pre97]
  simp only [boxK_eq, allocK_eq zero113, allocK_eq zero111, cellsV, ptr, reached_call (l + 3)]
  rw [range97]
  generalize hH1 : ((((H.set n (some (.cells [.int .i64 y, .int .i64 a1, .int .i64 a2, .int .i64 a3, .int .i64 a4] 86 false none))).set (n + 1) (some (.cells (ints (nestL 0 zeros zeros)) 113 false none))).set (n + 1 + 1) (some (.cells (ints (List.replicate 16 0)) 111 false none))).set (n + 1 + 1 + 1) (some (.cells [.pointer (some ⟨g, 0, none⟩)] 105 false none))).set (n + 1 + 1 + 1 + 1) (some (.cells [.int .i64 pad] 3 false none)) = H1
  have k1 : Keep n H H1 := fun b hb => by rw [← hH1, Tr.get_set, if_neg (by omega), Tr.get_set, if_neg (by omega), Tr.get_set, if_neg (by omega), Tr.get_set, if_neg (by omega), Tr.get_set, if_neg (by omega)]
  have q0 : H1.get n = some (.cells [.int .i64 y, .int .i64 a1, .int .i64 a2, .int .i64 a3, .int .i64 a4] 86 false none) := by rw [← hH1, Tr.get_set, if_neg (by omega), Tr.get_set, if_neg (by omega), Tr.get_set, if_neg (by omega), Tr.get_set, if_neg (by omega), Tr.get_set, if_pos rfl]
  have q1 : H1.get (n + 1) = some (.cells (ints (nestL 0 zeros zeros)) 113 false none) := by rw [← hH1, Tr.get_set, if_neg (by omega), Tr.get_set, if_neg (by omega), Tr.get_set, if_neg (by omega), Tr.get_set, if_pos rfl]
  have q2 : H1.get (n + 1 + 1) = some (.cells (ints (List.replicate 16 0)) 111 false none) := by rw [← hH1, Tr.get_set, if_neg (by omega), Tr.get_set, if_neg (by omega), Tr.get_set, if_pos rfl]
  have q3 : H1.get (n + 1 + 1 + 1) = some (.cells [.pointer (some ⟨g, 0, none⟩)] 105 false none) := by rw [← hH1, Tr.get_set, if_neg (by omega), Tr.get_set, if_pos rfl]
  have q4 : H1.get (n + 1 + 1 + 1 + 1) = some (.cells [.int .i64 pad] 3 false none) := by rw [← hH1, Tr.get_set, if_pos rfl]
  clear hH1
  generalize hT : T97 (.pointer (some ⟨g, 0, none⟩)) (.int .i64 pad) (.agg ⟨[.int .i64 y, .int .i64 a1, .int .i64 a2, .int .i64 a3, .int .i64 a4]⟩) (.pointer (some ⟨n, 0, none⟩)) (.pointer (some ⟨n + 1, 0, none⟩)) (.pointer (some ⟨n + 1 + 1, 0, none⟩))
    (.func (.func 119) ⟨[]⟩ ⟨[.pointer (some ⟨n + 1 + 1 + 1 + 1, 0, none⟩), .pointer (some ⟨n + 1 + 1 + 1, 0, none⟩)]⟩) = T
  have hc119 : ∀ (a b c : Value) (H : Hp) (n : Nat) (k : Value → Hp → Nat → Res), pureV b = false → callFK P (cal (l + 4)) 119 [a, b, c] H n k = bindO (C119_0 (cal (l + 3)) KK a b c H n) fun r => k r.1 r.2.1 r.2.2 := by
    intro a b c H n k hb
    unfold callFK
    have : (flatF P 119 && pureL [a, b, c]) = false := by simp [pureL, hb]
    rw [this, call119]
  rw [hc119 _ _ _ _ _ _ rfl]
  generalize hH2 : (H1.set (n + 1 + 1 + 1 + 2) (some .deferred)).set (n + 1 + 1 + 1 + 2 + 1) (some (.loop .ready none 97 T (ntm P 97) #[12] asg97 bod97 (n + 1 + 1 + 1 + 2))) = H2
  have r1 : ∀ b, b < n + 1 + 1 + 1 + 2 → H2.get b = H1.get b := fun b hb => by rw [← hH2, Tr.get_set, if_neg (by omega), Tr.get_set, if_neg (by omega)]
  have r2 : H2.get (n + 1 + 1 + 1 + 2) = some .deferred := by rw [← hH2, Tr.get_set, if_neg (by omega), Tr.get_set, if_pos rfl]
  have r3 : H2.get (n + 1 + 1 + 1 + 2 + 1) = some (.loop .ready none 97 T (ntm P 97) #[12] asg97 bod97 (n + 1 + 1 + 1 + 2)) := by rw [← hH2, Tr.get_set, if_pos rfl]
  clear hH2
  have hs2 : ∀ H3 : Hp, (∀ b, b ≠ n + 1 + 1 + 1 + 2 + 1 → b ≠ n + 1 + 1 → H3.get b = H2.get b) → Reads H3 (n + 1 + 1 + 1 + 1) (n + 1 + 1 + 1) g x pad near := by
    intro H3 h3
    have c3 : H3.get (n + 1 + 1 + 1) = some (.cells [.pointer (some ⟨g, 0, none⟩)] 105 false none) := by rw [h3 _ (by omega) (by omega), r1 _ (by omega)]; exact q3
    have c4 : H3.get (n + 1 + 1 + 1 + 1) = some (.cells [.int .i64 pad] 3 false none) := by rw [h3 _ (by omega) (by omega), r1 _ (by omega)]; exact q4
    have cg : CellsF H3 g 859 117 f := by
      obtain ⟨c, e1, e2, e3⟩ := hs
      exact ⟨c, by rw [h3 _ (by omega) (by omega), r1 _ (by omega), k1 _ hg]; exact e1, e2, e3⟩
    refine ⟨loadV_int (o := 0) (k := 0) (cells_at c4) agg3 rfl, loadV_scalar (o := 0) (k := 0) (cells_at c3) agg105 rfl rfl rfl, ?_, fun b hb => ?_⟩
    · have := cg.load (P := P) (k := 0) agg31 (by omega)
      rw [hx] at this; exact this
    · have := cg.load (P := P) (k := 3 + pad * 8 + b) agg4 (by omega)
      rw [hnear b hb] at this
      rw [show 0 + 3 + pad * 8 + b * 1 = 3 + pad * 8 + b by omega]
      exact this
  obtain ⟨H3, n3, e3, i1, i2, i3, i4⟩ := iter_spec (cal (l + 3)) (.func (.yield (n + 1 + 1 + 1 + 2 + 1)) #[] #[]) (n + 1 + 1 + 1 + 1) (n + 1 + 1 + 1) g pad np x near hpad hnp hlen
    (fun ps Hc nc => nc = n + 1 + 1 + 1 + 2 + 2 ∧ Hc.get (n + 1 + 1 + 1 + 2 + 1) = some (.loop .ready none 97 T (ntm P 97) #[12] asg97 bod97 (n + 1 + 1 + 1 + 2)) ∧ Hc.get (n + 1 + 1) = some (.cells (ints (fillS a3 a4 ps)) 111 false none) ∧ ∀ b, b ≠ n + 1 + 1 + 1 + 2 + 1 → b ≠ n + 1 + 1 → Hc.get b = H2.get b)
    (fun ps Hc nc ⟨_, _, _, h⟩ => hs2 Hc h)
    (fun ps p Hc nc ⟨h1, h2, h3, h4⟩ hp => by
      have h5 : Hc.get n = some (.cells [.int .i64 y, .int .i64 a1, .int .i64 a2, .int .i64 a3, .int .i64 a4] 86 false none) := by rw [h4 _ (by omega) (by omega), r1 _ (by omega)]; exact q0
      rw [← hT] at h2
      obtain ⟨H', y1, y2, y3, y4⟩ := yield97 (ρ := Value × Hp × Nat) (l + 2) (n := nc) h2 h5 h3 (fillS_len _ _ _) (by omega) (by omega) hp
      refine ⟨H', nc, y1, h1, ?_, ?_, fun b hb hb' => (y4 b hb hb').trans (h4 b hb hb')⟩
      · rw [y2, h2, hT]
      · rw [y3, fillS_snoc])
    (H := H2) (n := n + 1 + 1 + 1 + 2 + 2) ⟨rfl, r3, by rw [r1 _ (by omega)]; exact q2, fun _ _ _ => rfl⟩
  rw [show n + 1 + 1 + 1 + 2 = n + 1 + 1 + 1 + 2 from rfl, e3, bindO_some]
  have hout : rangeOut (n + 1 + 1 + 1 + 2 + 1) { T := T, H := H3, n := n3, D := [n + 1 + 1 + 1 + 2] } = some (.norm, { T := T, H := H3.set (n + 1 + 1 + 1 + 2 + 1) (some (.loop .exhausted none 97 T (ntm P 97) #[12] asg97 bod97 (n + 1 + 1 + 1 + 2))), n := n3, D := [n + 1 + 1 + 1 + 2] }) := by
    unfold rangeOut
    simp only [i2]
  rw [hout]
  show Ret (K97 (cal (l + 4)) KK T (H3.set (n + 1 + 1 + 1 + 2 + 1) (some (.loop .exhausted none 97 T (ntm P 97) #[12] asg97 bod97 (n + 1 + 1 + 1 + 2)))) n3 [n + 1 + 1 + 1 + 2]) n H _
  generalize hH4 : H3.set (n + 1 + 1 + 1 + 2 + 1) (some (.loop .exhausted none 97 T (ntm P 97) #[12] asg97 bod97 (n + 1 + 1 + 1 + 2))) = H4
  have o1 : ∀ b, b ≠ n + 1 + 1 + 1 + 2 + 1 → b ≠ n + 1 + 1 → H4.get b = H2.get b := fun b hb hb' => by rw [← hH4, Tr.get_set, if_neg hb]; exact i4 b hb hb'
  have o2 : H4.get (n + 1 + 1) = some (.cells (ints (fillS a3 a4 (pad :: (List.range np).filter near))) 111 false none) := by rw [← hH4, Tr.get_set, if_neg (by omega)]; exact i3
  clear hH4 hout
  have o0 : H4.get n = some (.cells [.int .i64 y, .int .i64 a1, .int .i64 a2, .int .i64 a3, .int .i64 a4] 86 false none) := by rw [o1 _ (by omega) (by omega), r1 _ (by omega)]; exact q0
  have o3 : H4.get (n + 1) = some (.cells (ints (nestL 0 zeros zeros)) 113 false none) := by rw [o1 _ (by omega) (by omega), r1 _ (by omega)]; exact q1
  have o4 : H4.get (n + 1 + 1 + 1 + 2) = some .deferred := by rw [o1 _ (by omega) (by omega)]; exact r2
  rw [← hT, post97, fa86_1, bindO_some, addrV_eq, bindO_some, (loadK53 o0).1, bindO_some, at111 _ 0 hpad, bindO_some, store53, Nat.zero_add, store_two o2 (by rw [fillS_len]; omega), bindO_some]
  have hsh : ((fillS a3 a4 (pad :: (List.range np).filter near)).set (pad * 2) a1).set (pad * 2 + 1) a2 = sharesL a1 a2 a3 a4 near np pad := rfl
  rw [hsh]
  generalize hH5 : H4.set (n + 1 + 1) (some (.cells (ints (sharesL a1 a2 a3 a4 near np pad)) 111 false none)) = H5
  have p1 : ∀ b, b ≠ n + 1 + 1 → H5.get b = H4.get b := fun b hb => by rw [← hH5, Tr.get_set, if_neg hb]
  have p2 : H5.get (n + 1 + 1) = some (.cells (ints (sharesL a1 a2 a3 a4 near np pad)) 111 false none) := by rw [← hH5, Tr.get_set, if_pos rfl]
  clear hH5
  have hl6 := load_all p2 agg111 sz111 (by rw [ints_length, sharesL_len])
  rw [fa86_0, bindO_some, addrV_eq, bindO_some, (loadK53 ((p1 n (by omega)).trans o0)).2.2, bindO_some, addrV_eq, bindO_some, hl6, bindO_some, hnest]
  have lens : (ints (nestL y (sharesL a1 a2 a3 a4 near np pad) B)).length = 33 := by rw [ints_length, nest_cells (sharesL_len ..) hB.1]
  rw [storeP_agg sz113 lens, storeN_all ((p1 (n + 1) (by omega)).trans o3) (by rw [lens, ints_length, nest_cells zeros_len zeros_len]) (ints_leaf _), bindO_some]
  generalize hH6 : H5.set (n + 1) (some (.cells (ints (nestL y (sharesL a1 a2 a3 a4 near np pad) B)) 113 false none)) = H6
  have u1 : H6.get (n + 1) = some (.cells (ints (nestL y (sharesL a1 a2 a3 a4 near np pad) B)) 113 false none) := by rw [← hH6, Tr.get_set, if_pos rfl]
  have u2 : ∀ b, b ≠ n + 1 → H6.get b = H5.get b := fun b hb => by rw [← hH6, Tr.get_set, if_neg hb]
  clear hH6
  have ht : takeD H6 [n + 1 + 1 + 1 + 2] = some (H6.set (n + 1 + 1 + 1 + 2) none) := by
    have : H6.get (n + 1 + 1 + 1 + 2) = some .deferred := by rw [u2 _ (by omega), p1 _ (by omega)]; exact o4
    unfold takeD
    simp only [this]
    rfl
  rw [ht]
  show Ret (bindO (resV P ((Tr.nil : Tm).set 6 (some (.pointer (some ⟨n + 1, 0, none⟩)))) (H6.set (n + 1 + 1 + 1 + 2) none) results97) fun vs => some (oneV vs, H6.set (n + 1 + 1 + 1 + 2) none, n3)) n H _
  rw [res97, load_all (t := 113) (s := 33) (L := ints (nestL y (sharesL a1 a2 a3 a4 near np pad) B)) (e := 113) (vec := none) (by rw [Tr.get_set, if_neg (by omega)]; exact u1) agg113 sz113 lens]
  refine ⟨_, _, rfl, by omega, fun b hb => ?_⟩
  rw [Tr.get_set, if_neg (by omega), u2 _ (by omega), p1 _ (by omega), o1 _ (by omega) (by omega), r1 _ (by omega), k1 _ hb]
end Go.Proofs.Ytakjjillnllocaa.spec
