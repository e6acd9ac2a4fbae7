import Derived.Test.YtakjjillnllocaaRows
import Derived.WalkKit
import Derived.ProofKit
import Derived.OpenShut
import Derived.Test.YtakjjillnllocaaG7
import Derived.Test.YtakjjillnllocaaEv32
import Derived.Test.YtakjjillnllocaaEv33
namespace Go.Proofs.Ytakjjillnllocaa.nestFits
open Go.ChangeShapes Go.WideShapes Go.ChangeAt Go.RowKit Go.Ev
theorem own : ownKnob Try.prog.godebug = none := by kernel_rfl
theorem kids : Kids Try.prog (· < Try.prog.types.size) := kids_rows (by kernel_rfl) (by kernel_rfl)
theorem full : ∀ t e, t < Try.prog.types.size → Try.prog.underlying t = some (.slice e) → 0 < Try.prog.cellsOf e := slices_full_of Try.prog (by kernel_rfl)
structure GroveI (H : Hp) (n : Nat) (v : Value) (np nj nk : Nat) (ps js ks : List Int) : Prop where
  eq : ∃ a b c, v = .agg ⟨[a, b, c]⟩ ∧ SliceI H n 2 a np ps ∧ SliceI H n 2 b nj js ∧ SliceI H n 5 c nk ks
theorem cells26 : Try.prog.cellsOf 26 = 3 := by kernel_rfl
theorem cells22 : Try.prog.cellsOf 22 = 1 := by kernel_rfl
theorem cells23 : Try.prog.cellsOf 23 = 1 := by kernel_rfl
theorem cells24 : Try.prog.cellsOf 24 = 1 := by kernel_rfl
theorem flat95 : flatT Try.prog 5 95 = some 2 := by kernel_rfl
theorem flat104 : flatT Try.prog 5 104 = some 2 := by kernel_rfl
theorem flat94 : flatT Try.prog 5 94 = some 5 := by kernel_rfl
theorem bytes95 : 1 ≤ Try.prog.bytesOf 95 := by decide +kernel
theorem bytes104 : 1 ≤ Try.prog.bytesOf 104 := by decide +kernel
theorem bytes94 : 1 ≤ Try.prog.bytesOf 94 := by decide +kernel
theorem types26 : Try.prog.cellTypes Try.prog.depth 26 = some [22, 23, 24] := by kernel_rfl
theorem three {cs : Array Value} (h : cs.size = 3) : ∃ a b c, cs = ⟨[a, b, c]⟩ := by
  rcases cs with ⟨_ | ⟨a, _ | ⟨b, _ | ⟨c, _ | ⟨d, l⟩⟩⟩⟩⟩ <;> simp at h
  exact ⟨a, b, c, rfl⟩
set_option maxRecDepth 100000 in
theorem grove_in {K : Type} {enc : TypeId × Value → K} {W : World} {base : Nat} {v : Value} {d : DataW K} {p : List MemPlace} {H : Hp} (hH : ∀ i, H.get i = rowsOf W i)
    (hok : Value.okWide Try.prog W .any base 26 v) (ht : DataW.Trod enc Try.prog W 0 (fun _ => true) true 26 v d p) (hw : ∀ n ∈ d.weights Try.prog 26, n ≤ reachBytes) :
    ∃ np nj nk ps js ks, GroveI H W.heap.size v np nj nk ps js ks ∧ VR (idPhi W) v v := by
  unfold Value.okWide at hok
  rw [Try.underlying26] at hok
  obtain ⟨cs, rfl, hsz, ts, hts, _, hcell⟩ := hok
  rw [types26] at hts
  cases hts
  rw [cells26] at hsz
  obtain ⟨a, b, c, rfl⟩ := three hsz
  · skip
    have ha : Cell.okWide Try.prog W .any base 22 a := by obtain ⟨u, e1, e2⟩ := hcell 0 a (by simp); simp at e1; subst e1; exact e2
    have hb : Cell.okWide Try.prog W .any base 23 b := by obtain ⟨u, e1, e2⟩ := hcell 1 b (by simp); simp at e1; subst e1; exact e2
    have hc : Cell.okWide Try.prog W .any base 24 c := by obtain ⟨u, e1, e2⟩ := hcell 2 c (by simp); simp at e1; subst e1; exact e2
    obtain ⟨fuel, ht⟩ := ht
    obtain ⟨xs, n, _, hx, hl, hlen, hf⟩ := DataW.trod_struct Try.underlying26 ht
    match xs, hlen with
    | [y0, y1, y2], _ =>
      cases hx
      have h0 := hf 0 _ rfl
      have h1 := hf 1 _ rfl
      have h2 := hf 2 _ rfl
      simp only [cells22, cells23, cells24, Value.cells] at h0 h1 h2
      have w0 : ∀ n ∈ y0.1.weights Try.prog 22, n ≤ reachBytes := fun n hn => hw n (by simp [DataW.weights, Try.underlying26, DataW.weightsEach, hn])
      have w1 : ∀ n ∈ y1.1.weights Try.prog 23, n ≤ reachBytes := fun n hn => hw n (by simp [DataW.weights, Try.underlying26, DataW.weightsEach, hn])
      have w2 : ∀ n ∈ y2.1.weights Try.prog 24, n ≤ reachBytes := fun n hn => hw n (by simp [DataW.weights, Try.underlying26, DataW.weightsEach, hn])
      obtain ⟨np, ps, s0, r0⟩ := slice_in hH Try.underlying22 flat95 (by omega) bytes95 h0 w0 ha
      obtain ⟨nj, js, s1, r1⟩ := slice_in hH Try.underlying23 flat104 (by omega) bytes104 h1 w1 hb
      obtain ⟨nk, ks, s2, r2⟩ := slice_in hH Try.underlying24 flat94 (by omega) bytes94 h2 w2 hc
      refine ⟨np, nj, nk, ps, js, ks, ⟨a, b, c, rfl, s0, s1, s2⟩, ?_⟩
      simp only [VR]
      exact ⟨_, rfl, by simp only [VRA]; exact VRL.cons r0 (VRL.cons r1 (VRL.cons r2 VRL.nil))⟩
end Go.Proofs.Ytakjjillnllocaa.nestFits
namespace Go.Proofs.Ytakjjillnllocaa.spec
open Go.Ev Go.Proofs.Ytakjjillnllocaa.nestFits Go.Proofs.Ytakjjillnllocaa.G
set_option maxRecDepth 100000
theorem agg3 : isAggT P 3 = some false := by kernel_rfl
theorem agg22 : isAggT P 22 = some false := by kernel_rfl
theorem agg23 : isAggT P 23 = some false := by kernel_rfl
theorem agg24 : isAggT P 24 = some false := by kernel_rfl
theorem agg26 : isAggT P 26 = some true := by kernel_rfl
theorem agg104 : isAggT P 104 = some true := by kernel_rfl
theorem sz104 : szT P 104 = some 2 := by kernel_rfl
theorem sz26 : szT P 26 = some 3 := by kernel_rfl
theorem und23 : P.underlying 23 = some (.slice 104) := by kernel_rfl
theorem fa26_0 (b o : Nat) : fieldAddrV P 26 (.pointer (some ⟨b, o, none⟩)) 0 = some (.pointer (some ⟨b, o + 0, none⟩)) := by kernel_rfl
theorem fa26_1 (b o : Nat) : fieldAddrV P 26 (.pointer (some ⟨b, o, none⟩)) 1 = some (.pointer (some ⟨b, o + 1, none⟩)) := by kernel_rfl
theorem fa26_2 (b o : Nat) : fieldAddrV P 26 (.pointer (some ⟨b, o, none⟩)) 2 = some (.pointer (some ⟨b, o + 2, none⟩)) := by kernel_rfl
theorem fa104_0 (b o : Nat) : fieldAddrV P 104 (.pointer (some ⟨b, o, none⟩)) 0 = some (.pointer (some ⟨b, o + 0, none⟩)) := by kernel_rfl
theorem fa104_1 (b o : Nat) : fieldAddrV P 104 (.pointer (some ⟨b, o, none⟩)) 1 = some (.pointer (some ⟨b, o + 1, none⟩)) := by kernel_rfl
theorem zero104 : zeroT P 104 = some (.agg #[.int .i64 0, .int .i64 0]) := by kernel_rfl
theorem store104 (H : Hp) (b o : Nat) (u v : Value) : storeP P 104 (.pointer (some ⟨b, o, none⟩)) (.agg ⟨[u, v]⟩) H = storeN H ⟨b, o, none⟩ [u, v] := by kernel_rfl
theorem _root_.Go.Ev.SliceI.hole {H : Hp} {n s len : Nat} {v : Value} {xs : List Int} (h : SliceI H n s v len xs) : noHole v = true ∧ noHoles v = true := by
  rcases h.2.2 with ⟨rfl, _⟩ | ⟨b, o, cap, rfl, _⟩ <;> exact ⟨rfl, rfl⟩
theorem pair_at {js : List Int} {i : Nat} (h : i * 2 + 2 ≤ js.length) : ∃ x y, js[i * 2]? = some x ∧ js[i * 2 + 1]? = some y ∧ ((ints js).drop (i * 2)).take 2 = [.int .i64 x, .int .i64 y] := by
  refine ⟨js[i * 2], js[i * 2 + 1], List.getElem?_eq_getElem _, List.getElem?_eq_getElem _, ?_⟩
  rw [ints_cut]
  have : (js.drop (i * 2)).take 2 = [js[i * 2], js[i * 2 + 1]] := by
    apply List.ext_getElem?
    intro k
    rw [List.getElem?_take]
    match k with
    | 0 => simp
    | 1 => simp
    | k + 2 => simp; omega
  rw [this]; rfl
theorem storeN_whole {H : Hp} {b : Nat} {c vs : List Value} {e : TypeId} {vec : Option Nat} (h : H.get b = some (.cells c e false vec)) (hl : vs.length = c.length) (hv : vs.all leafV = true) :
    storeN H ⟨b, 0, none⟩ vs = some (H.set b (some (.cells vs e false vec))) := by
  have key : ∀ (c vs : List Value), vs.length = c.length → splice.over c vs = some vs := by
    intro c
    induction c with
    | nil => intro vs hl; cases vs with
      | nil => rfl
      | cons v vs => simp at hl
    | cons x c ih => intro vs hl; cases vs with
      | nil => simp at hl
      | cons v vs => simp [splice.over, ih vs (by simpa using hl)]
  unfold storeN
  simp only [h, hv, if_true]
  have : splice c 0 vs = some vs := by unfold splice; exact key c vs hl
  rw [this]
def J (js : List Int) (a b : Int) (j : Nat) : Prop := (js[j * 2]? = some a ∧ js[j * 2 + 1]? = some b) ∨ (js[j * 2]? = some b ∧ js[j * 2 + 1]? = some a)
theorem near_loop (cal : Cal) (k : Nat) (a b : Int) (g nj : Nat) (js : List Int) (sp sj sk : Value) : ∀ (m i : Nat) (H : Hp) (n : Nat), g < n → CellsAt H g 0 [sp, sj, sk] → SliceI H n 2 sj nj js → i ≤ nj → nj - i ≤ m →
    ∃ r, Ret (S89_1 cal k m (.int .i64 a) (.int .i64 b) (ptr g) (.int .i64 i) H n) n H (.bool r) ∧ (r = true ↔ ∃ j, i ≤ j ∧ j < nj ∧ J js a b j) := by
  intro m
  have body : ∀ (b1 : Value → Value → Value → Value → Hp → Nat → Res) (m i : Nat) (H : Hp) (n : Nat), g < n → CellsAt H g 0 [sp, sj, sk] → SliceI H n 2 sj nj js → i ≤ nj →
      (∀ H' n', n ≤ n' → Keep n H H' → i < nj → ∃ r, Ret (b1 (.int .i64 a) (.int .i64 b) (ptr g) (.int .i64 ((i + 1 : Nat) : Int)) H' n') n' H' (.bool r) ∧ (r = true ↔ ∃ j, i + 1 ≤ j ∧ j < nj ∧ J js a b j)) →
      ∃ r, Ret (C89_1 cal k m b1 (.int .i64 a) (.int .i64 b) (ptr g) (.int .i64 i) H n) n H (.bool r) ∧ (r = true ↔ ∃ j, i ≤ j ∧ j < nj ∧ J js a b j) := by
    intro b1 m i H n hgn hg hj hi ih
    have hl : loadV P H 23 ⟨g, 0 + 1, none⟩ = some sj := loadV_scalar hg agg23 rfl hj.hole.1 hj.hole.2
    have hlen : lenV P 23 sj = some (.int .i64 nj) := hj.len_eq und23
    unfold C89_1 B89_1
    simp only [ptr, fa26_1, bindO_some, addrV_eq, hl, hlen, binK_some bin_lss, ifK_d]
    by_cases hlt : i < nj
    · rw [if_pos (by omega)]
      obtain ⟨bb, o, hix, hbn, hc⟩ := hj.at_ und23 sz104 hlt
      have hlen2 : i * 2 + 2 ≤ js.length := by rw [hj.1]; omega
      obtain ⟨x, y, hx, hy, hxy⟩ := pair_at hlen2
      have hld : loadV P H 104 ⟨bb, o + i * 2, none⟩ = some (.agg ⟨[.int .i64 x, .int .i64 y]⟩) := by
        rw [loadV_agg hc agg104 sz104 (by rw [ints_length]; exact hlen2) (ints_noHole _), hxy]
      simp only [hix, bindO_some, addrV_eq, hld, allocK_eq zero104, ptr, store104, cellsV]
      have hst := storeN_whole (H := H.set n (some (.cells [.int .i64 0, .int .i64 0] 104 false none))) (b := n) (c := [.int .i64 0, .int .i64 0]) (vs := [.int .i64 x, .int .i64 y]) (e := 104) (vec := none) (by rw [Tr.get_set, if_pos rfl]) rfl rfl
      rw [hst]
      have hk : Keep n H ((H.set n (some (.cells [.int .i64 0, .int .i64 0] 104 false none))).set n (some (.cells [.int .i64 x, .int .i64 y] 104 false none))) :=
        ((Keep.refl n H).set (Nat.le_refl _) _).set (Nat.le_refl _) _
      have hnew := CellsAt.new (H := H.set n (some (.cells [.int .i64 0, .int .i64 0] 104 false none))) (n := n) (vs := [.int .i64 x, .int .i64 y]) (e := 104) (ro := false) (vec := none)
      generalize (H.set n (some (.cells [.int .i64 0, .int .i64 0] 104 false none))).set n (some (.cells [.int .i64 x, .int .i64 y] 104 false none)) = H23 at hk hnew ⊢
      have l0 : loadV P H23 3 ⟨n, 0 + 0, none⟩ = some (.int .i64 x) := loadV_int hnew agg3 rfl
      have l1 : loadV P H23 3 ⟨n, 0 + 1, none⟩ = some (.int .i64 y) := loadV_int hnew agg3 rfl
      simp only [bindO_some, addrV_eq, fa104_0, fa104_1, l0, binK_some bin_eql]
      have hI : I64 ((i : Int) + 1) := by
        rcases hj.2.2 with ⟨_, h0⟩ | ⟨_, _, cap, _, h1, h2, _⟩
        · omega
        · unfold I64; unfold capV at h2; omega
      have hcast : ((i : Int) + 1) = ((i + 1 : Nat) : Int) := by omega
      have next := ih H23 (n + 1) (by omega) hk hlt
      obtain ⟨r, ⟨H', n', e1, e2, e3⟩, e4⟩ := next
      have go : ¬ J js a b i → ∃ r, Ret (b1 (.int .i64 a) (.int .i64 b) (.pointer (some ⟨g, 0, none⟩)) (.int .i64 ((i + 1 : Nat) : Int)) H23 (n + 1)) n H (.bool r) ∧ (r = true ↔ ∃ j, i ≤ j ∧ j < nj ∧ J js a b j) := by
        intro hno
        refine ⟨r, ⟨H', n', e1, by omega, hk.trans e3 (by omega)⟩, e4.trans ⟨fun ⟨j, q1, q2, q3⟩ => ⟨j, by omega, q2, q3⟩, fun ⟨j, q1, q2, q3⟩ => ⟨j, ?_, q2, q3⟩⟩⟩
        rcases Nat.eq_or_lt_of_le q1 with q | q
        · subst q; exact absurd q3 hno
        · exact q
      have yes : J js a b i → ∃ r, Ret (some (Value.bool true, H23, n + 1)) n H (.bool r) ∧ (r = true ↔ ∃ j, i ≤ j ∧ j < nj ∧ J js a b j) := fun h =>
        ⟨true, ⟨H23, n + 1, rfl, by omega, hk⟩, ⟨fun _ => ⟨i, Nat.le_refl _, hlt, h⟩, fun _ => rfl⟩⟩
      have hJ : J js a b i ↔ (decide (x = a) = true ∧ decide (y = b) = true) ∨ (decide (x = b) = true ∧ decide (y = a) = true) := by
        unfold J; rw [hx, hy]; simp
      cases c1 : decide (x = a) <;> cases c2 : decide (y = b) <;> cases c3 : decide (x = b) <;> cases c4 : decide (y = a) <;>
        simp only [c1, c2, c3, c4, guardK_tt, guardK_ff, guardK_tf, guardK_ft, guardK_u, bindO_some, addrV_eq, l0, l1, binK_some bin_eql, binK_some (bin_add hI), pickV_t, pickV_f, ifK_t, ifK_f, fa104_0, fa104_1, hcast] <;>
        rw [c1, c2, c3, c4] at hJ <;> first | exact go (by rw [hJ]; simp) | exact yes (by rw [hJ]; simp)
    · rw [if_neg (by omega)]
      refine ⟨false, ⟨H, n, rfl, Nat.le_refl _, Keep.refl _ _⟩, ?_⟩
      constructor
      · intro h; cases h
      · rintro ⟨j, h1, h2, _⟩; omega
  induction m with
  | zero =>
    intro i H n h1 h2 h3 h4 h5
    exact body _ 0 i H n h1 h2 h3 h4 (fun _ _ _ _ h => by omega)
  | succ m ih =>
    intro i H n h1 h2 h3 h4 h5
    exact body _ (m + 1) i H n h1 h2 h3 h4 (fun H' n' q1 q2 q3 => ih (i + 1) H' n' (by omega) (h2.keep q2 h1) ((h3.keep q2 (Nat.le_refl _)).up q1) (by omega) (by omega))
theorem near_spec (cal : Cal) (k : Nat) {H : Hp} {n : Nat} {v : Value} {np nj nk : Nat} {ps js ks : List Int} (hg : GroveI H n v np nj nk ps js ks) (hk : nj ≤ k) (a b : Int) :
    ∃ r, Ret (C89_0 cal k v (.int .i64 a) (.int .i64 b) H n) n H (.bool r) ∧ (r = true ↔ ∃ j, j < nj ∧ J js a b j) := by
  obtain ⟨x, y, z, rfl, h1, h2, h3⟩ := hg.eq
  unfold C89_0 B89_0
  simp only [boxK_eq, cellsV]
  have hkeep : Keep n H (H.set n (some (.cells [x, y, z] 26 false none))) := (Keep.refl n H).set (Nat.le_refl _) _
  obtain ⟨r, ⟨H', n', e1, e2, e3⟩, e4⟩ := near_loop cal k a b n nj js x y z k 0 (H.set n (some (.cells [x, y, z] 26 false none))) (n + 1) (by omega) CellsAt.new ((h2.keep hkeep (Nat.le_refl _)).up (by omega)) (by omega) (by omega)
  exact ⟨r, ⟨H', n', e1, by omega, hkeep.trans e3 (by omega)⟩, e4.trans ⟨fun ⟨j, _, q⟩ => ⟨j, q⟩, fun ⟨j, q⟩ => ⟨j, Nat.zero_le _, q⟩⟩⟩
end Go.Proofs.Ytakjjillnllocaa.spec
namespace Go.Proofs.Ytakjjillnllocaa.spec
open Go.Ev Go.Proofs.Ytakjjillnllocaa.nestFits Go.Proofs.Ytakjjillnllocaa.G
set_option maxRecDepth 100000
noncomputable def cal (l : Nat) : Cal := calE G.P G.A (G.KK + 1) G.tab.get l
theorem call89 (l : Nat) (a b c : Value) (H : Hp) (n : Nat) : (cal (l + 1)).call 89 [a, b, c] H n = C89_0 (cal l) KK a b c H n := by kernel_rfl
theorem call32 (l : Nat) (a b c : Value) (H : Hp) (n : Nat) : (cal (l + 1)).call 32 [a, b, c] H n = C32_0 (cal l) KK a b c H n := by kernel_rfl
theorem call100 (l : Nat) (a b : Value) (H : Hp) (n : Nat) : (cal (l + 1)).call 100 [a, b] H n = C100_0 (cal l) KK a b H n := by kernel_rfl
theorem flat32 : flatF P 32 = true := by kernel_rfl
theorem flat100 : flatF P 100 = true := by kernel_rfl
theorem flat89 : flatF P 89 = true := by kernel_rfl
variable {ρ : Type}
theorem in_spec (c : Cal) (k : Nat) (a lo hi : Int) (H : Hp) (n : Nat) : C32_0 c k (.int .i64 a) (.int .i64 lo) (.int .i64 hi) H n = some (.bool (decide (lo ≤ a ∧ a ≤ hi)), H, n) := by
  unfold C32_0 B32_0
  simp only [binK_some bin_geq]
  cases c1 : decide (lo ≤ a) <;> cases c2 : decide (a ≤ hi) <;>
    simp only [guardK_tt, guardK_ff, guardK_tf, guardK_ft, guardK_u, binK_some bin_leq, c2, bindO_some, pickV_t, pickV_f] <;> simp_all
theorem in_call (l : Nat) (a lo hi : Int) (H : Hp) (n : Nat) (k : Value → Hp → Nat → Option ρ) :
    callFK P (cal (l + 1)) 32 [.int .i64 a, .int .i64 lo, .int .i64 hi] H n k = k (.bool (decide (lo ≤ a ∧ a ≤ hi))) H n :=
  callFK_pure flat32 rfl ((call32 ..).trans (in_spec ..)) rfl
theorem span_spec (l k : Nat) (lo hi : Int) (H : Hp) (n : Nat) : C100_0 (cal (l + 1)) k (.int .i64 lo) (.int .i64 hi) H n = some (.bool (decide (0 ≤ lo ∧ lo ≤ hi ∧ hi ≤ 1000)), H, n) := by
  unfold C100_0 B100_0
  rw [in_call]
  cases c1 : decide (0 ≤ lo ∧ lo ≤ hi) <;> cases c2 : decide (hi ≤ 1000) <;>
    simp only [guardK_tt, guardK_ff, guardK_tf, guardK_ft, guardK_u, binK_some bin_leq, c2, bindO_some, pickV_t, pickV_f] <;> simp_all
theorem span_call (l : Nat) (lo hi : Int) (H : Hp) (n : Nat) (k : Value → Hp → Nat → Option ρ) :
    callFK P (cal (l + 2)) 100 [.int .i64 lo, .int .i64 hi] H n k = k (.bool (decide (0 ≤ lo ∧ lo ≤ hi ∧ hi ≤ 1000))) H n :=
  callFK_pure flat100 rfl ((call100 ..).trans (span_spec ..)) rfl
end Go.Proofs.Ytakjjillnllocaa.spec
namespace Go.Proofs.Ytakjjillnllocaa.spec
open Go.Ev Go.Proofs.Ytakjjillnllocaa.nestFits Go.Proofs.Ytakjjillnllocaa.G
set_option maxRecDepth 100000
theorem agg55 : isAggT P 55 = some true := by kernel_rfl
theorem sz55 : szT P 55 = some 2 := by kernel_rfl
theorem sz94 : szT P 94 = some 5 := by kernel_rfl
theorem und24 : P.underlying 24 = some (.slice 94) := by kernel_rfl
theorem zero55 : zeroT P 55 = some (.agg #[.int .i64 0, .int .i64 0]) := by kernel_rfl
theorem fa94_0 (b o : Nat) : fieldAddrV P 94 (.pointer (some ⟨b, o, none⟩)) 0 = some (.pointer (some ⟨b, o + 0, none⟩)) := by kernel_rfl
theorem fa94_1 (b o : Nat) : fieldAddrV P 94 (.pointer (some ⟨b, o, none⟩)) 1 = some (.pointer (some ⟨b, o + 1, none⟩)) := by kernel_rfl
theorem fa94_2 (b o : Nat) : fieldAddrV P 94 (.pointer (some ⟨b, o, none⟩)) 2 = some (.pointer (some ⟨b, o + 3, none⟩)) := by kernel_rfl
theorem store55 (H : Hp) (b o : Nat) (u v : Value) : storeP P 55 (.pointer (some ⟨b, o, none⟩)) (.agg ⟨[u, v]⟩) H = storeN H ⟨b, o, none⟩ [u, v] := by kernel_rfl
theorem build55 : buildP P 55 [] = some (.agg ⟨[.int .i64 0, .int .i64 0]⟩) := by kernel_rfl
theorem res77 (H : Hp) (b : Nat) : resV P (Tr.set Tr.nil 8 (some (.pointer (some ⟨b, 0, none⟩)))) H results77 = (match loadV P H 55 ⟨b, 0, none⟩ with
  | some v => some [v]
  | none => none) := by kernel_rfl
theorem _root_.Go.Proofs.Ytakjjillnllocaa.nestFits.GroveI.nil {H : Hp} {n : Nat} {v : Value} {np nj nk : Nat} {ps js ks : List Int} (hg : GroveI H n v np nj nk ps js ks) (hp : pureV v = true) : GroveI .nil 0 v np nj nk ps js ks := by
  obtain ⟨a, b, c, rfl, h1, h2, h3⟩ := hg.eq
  simp only [pureV, pureA, pureL, Bool.and_eq_true, and_true] at hp
  have key : ∀ {s len : Nat} {u : Value} {xs : List Int}, SliceI H n s u len xs → pureV u = true → SliceI .nil 0 s u len xs := by
    intro s len u xs h hu
    refine ⟨h.1, h.2.1, ?_⟩
    rcases h.2.2 with q | ⟨b, o, cap, rfl, _⟩
    · exact .inl q
    · simp [pureV] at hu
  exact ⟨a, b, c, rfl, key h1 hp.1, key h2 hp.2.1, key h3 hp.2.2⟩
theorem _root_.Go.Proofs.Ytakjjillnllocaa.nestFits.GroveI.keep {H H' : Hp} {n m : Nat} {v : Value} {np nj nk : Nat} {ps js ks : List Int} (hg : GroveI H n v np nj nk ps js ks) (hk : Keep n H H') (hm : n ≤ m) : GroveI H' m v np nj nk ps js ks := by
  obtain ⟨a, b, c, rfl, h1, h2, h3⟩ := hg.eq
  exact ⟨a, b, c, rfl, (h1.keep hk (Nat.le_refl _)).up hm, (h2.keep hk (Nat.le_refl _)).up hm, (h3.keep hk (Nat.le_refl _)).up hm⟩
def Near (js : List Int) (nj : Nat) (a b : Int) : Prop := ∃ j, j < nj ∧ J js a b j
open Classical in
noncomputable def reach (js ks : List Int) (nj : Nat) (kind : Nat) (at_ pad : Int) : Int × Int :=
  if at_ = pad then (ks.getD (kind * 5 + 1) 0, ks.getD (kind * 5 + 2) 0)
  else if Near js nj at_ pad then (ks.getD (kind * 5 + 3) 0, ks.getD (kind * 5 + 4) 0)
  else (0, 0)
theorem two_at {ks : List Int} {k : Nat} (h : k + 2 ≤ ks.length) : ((ints ks).drop k).take 2 = [.int .i64 (ks.getD k 0), .int .i64 (ks.getD (k + 1) 0)] := by
  rw [ints_cut]
  have : (ks.drop k).take 2 = [ks.getD k 0, ks.getD (k + 1) 0] := by
    apply List.ext_getElem?
    intro i
    rw [List.getElem?_take]
    match i with
    | 0 => simp [List.getD_eq_getElem?_getD, List.getElem?_eq_getElem (show k < ks.length by omega)]
    | 1 => simp [List.getD_eq_getElem?_getD, List.getElem?_eq_getElem (show k + 1 < ks.length by omega)]
    | i + 2 => simp; omega
  rw [this]; rfl
theorem end77 {H : Hp} {n b : Nat} {u w : Int} {c : List Value} (hg : H.get b = some (.cells c 55 false none)) (hc : c.length = 2) :
    (bindO (storeP P 55 (.pointer (some ⟨b, 0, none⟩)) (.agg ⟨[.int .i64 u, .int .i64 w]⟩) H) fun H' => bindO (resV P (Tr.set Tr.nil 8 (some (.pointer (some ⟨b, 0, none⟩)))) H' results77) fun vs => some (oneV vs, H', n)) =
      some (.agg ⟨[.int .i64 u, .int .i64 w]⟩, H.set b (some (.cells [.int .i64 u, .int .i64 w] 55 false none)), n) := by
  have hst := storeN_whole (vs := [.int .i64 u, .int .i64 w]) hg (by rw [hc]; rfl) rfl
  have hld : loadV P (H.set b (some (.cells [.int .i64 u, .int .i64 w] 55 false none))) 55 ⟨b, 0, none⟩ = some (.agg ⟨[.int .i64 u, .int .i64 w]⟩) :=
    loadV_agg (o := 0) (k := 0) (CellsAt.new (n := b)) agg55 sz55 (by simp) rfl
  rw [store55, hst, bindO_some, res77, hld]
  rfl
theorem reach_spec (l k : Nat) {H : Hp} {n : Nat} {v : Value} {np nj nk : Nat} {ps js ks : List Int} (hg : GroveI H n v np nj nk ps js ks) (hj : nj ≤ KK) (kind : Nat) (hk : kind < nk) (at_ pad : Int) :
    Ret (C77_0 (cal (l + 1)) k v (.int .i64 kind) (.int .i64 at_) (.int .i64 pad) H n) n H (.agg ⟨[.int .i64 (reach js ks nj kind at_ pad).1, .int .i64 (reach js ks nj kind at_ pad).2]⟩) := by
  have hg0 := hg
  obtain ⟨x, y, z, rfl, h1, h2, h3⟩ := hg.eq
  unfold C77_0 B77_0
  simp only [boxK_eq, cellsV, allocK_eq zero55, ptr, binK_some bin_eql]
  have hkeep : Keep n H ((H.set n (some (.cells [x, y, z] 26 false none))).set (n + 1) (some (.cells [.int .i64 0, .int .i64 0] 55 false none))) :=
    ((Keep.refl n H).set (Nat.le_refl _) _).set (by omega) _
  have hbox : CellsAt ((H.set n (some (.cells [x, y, z] 26 false none))).set (n + 1) (some (.cells [.int .i64 0, .int .i64 0] 55 false none))) n 0 [x, y, z] := CellsAt.new.set (by omega)
  have hnew : ((H.set n (some (.cells [x, y, z] 26 false none))).set (n + 1) (some (.cells [.int .i64 0, .int .i64 0] 55 false none))).get (n + 1) = some (.cells [.int .i64 0, .int .i64 0] 55 false none) := by
    rw [Tr.get_set, if_pos rfl]
  generalize (H.set n (some (.cells [x, y, z] 26 false none))).set (n + 1) (some (.cells [.int .i64 0, .int .i64 0] 55 false none)) = H5 at hkeep hbox hnew ⊢
  have s3 : SliceI H5 (n + 2) 5 z nk ks := (h3.keep hkeep (Nat.le_refl _)).up (by omega)
  have hgr : GroveI H5 (n + 2) (.agg ⟨[x, y, z]⟩) np nj nk ps js ks := hg0.keep hkeep (by omega)
  have hlen : kind * 5 + 5 ≤ ks.length := by rw [h3.1]; omega
  by_cases c : at_ = pad
  · rw [decide_eq_true c, ifK_t]
    obtain ⟨b, o, hix, hbn, hc⟩ := s3.at_ und24 sz94 hk
    have hl : loadV P H5 24 ⟨n, 0 + 2, none⟩ = some z := loadV_scalar hbox agg24 rfl h3.hole.1 h3.hole.2
    have hld : loadV P H5 55 ⟨b, o + kind * 5 + 1, none⟩ = some (.agg ⟨[.int .i64 (ks.getD (kind * 5 + 1) 0), .int .i64 (ks.getD (kind * 5 + 2) 0)]⟩) := by
      rw [show o + kind * 5 + 1 = o + (kind * 5 + 1) by omega, loadV_agg hc agg55 sz55 (by rw [ints_length]; omega) (ints_noHole _), two_at (by omega)]
    simp only [fa26_2, bindO_some, addrV_eq, hl, hix, fa94_1, hld, end77 hnew rfl]
    refine ⟨_, _, by rw [reach, if_pos c], by omega, hkeep.trans ((Keep.refl n H5).set (by omega) _) (Nat.le_refl _)⟩
  · rw [decide_eq_false c, ifK_f]
    have hl26 : loadV P H5 26 ⟨n, 0, none⟩ = some (.agg ⟨[x, y, z]⟩) := by
      have hno : ([x, y, z] : List Value).all noHole = true := by simp [h1.hole.1, h2.hole.1, h3.hole.1]
      exact loadV_agg (o := 0) (k := 0) hbox agg26 sz26 (by simp) hno
    simp only [addrV_eq, bindO_some, hl26]
    obtain ⟨r, H6, n6, ⟨b0, rfl, hr⟩, e1, e2, e3⟩ := callFK_spec (ρ := Value × Hp × Nat) (P := P) (cal := cal (l + 1)) (f := 89) (args := [.agg ⟨[x, y, z]⟩, .int .i64 at_, .int .i64 pad]) (H := H5) (n := n + 2)
      (Pre := fun H n => GroveI H n (.agg ⟨[x, y, z]⟩) np nj nk ps js ks) (Q := fun v => ∃ b : Bool, v = .bool b ∧ (b = true ↔ Near js nj at_ pad))
      (fun H n h => by
        obtain ⟨r, h1, h2⟩ := near_spec (cal l) KK h hj at_ pad
        exact ⟨.bool r, by rw [call89]; exact h1, r, rfl, h2⟩)
      (fun r ⟨b, e, _⟩ _ => by subst e; rfl) hgr (fun hp => hgr.nil (by simp only [pureL, Bool.and_eq_true] at hp; exact hp.1))
    rw [e1]
    have hnew6 : H6.get (n + 1) = some (.cells [.int .i64 0, .int .i64 0] 55 false none) := (e3 (n + 1) (by omega)).trans hnew
    have k6 : Keep n H H6 := hkeep.trans e3 (by omega)
    cases b0 with
    | true =>
      have hnear := hr.1 rfl
      rw [ifK_t]
      have s6 : SliceI H6 n6 5 z nk ks := (s3.keep e3 (Nat.le_refl _)).up (by omega)
      obtain ⟨b, o, hix, hbn, hc⟩ := s6.at_ und24 sz94 hk
      have hl : loadV P H6 24 ⟨n, 0 + 2, none⟩ = some z := loadV_scalar (hbox.keep e3 (by omega)) agg24 rfl h3.hole.1 h3.hole.2
      have hld : loadV P H6 55 ⟨b, o + kind * 5 + 3, none⟩ = some (.agg ⟨[.int .i64 (ks.getD (kind * 5 + 3) 0), .int .i64 (ks.getD (kind * 5 + 4) 0)]⟩) := by
        rw [show o + kind * 5 + 3 = o + (kind * 5 + 3) by omega, loadV_agg hc agg55 sz55 (by rw [ints_length]; omega) (ints_noHole _), two_at (by omega)]
      simp only [fa26_2, bindO_some, addrV_eq, hl, hix, fa94_2, hld, end77 hnew6 rfl]
      refine ⟨_, _, by rw [reach, if_neg c, if_pos hnear], by omega, k6.trans ((Keep.refl n H6).set (by omega) _) (Nat.le_refl _)⟩
    | false =>
      have hnear : ¬ Near js nj at_ pad := fun h => by cases hr.2 h
      rw [ifK_f, build55, bindO_some, end77 hnew6 rfl]
      refine ⟨_, _, by rw [reach, if_neg c, if_neg hnear], by omega, k6.trans ((Keep.refl n H6).set (by omega) _) (Nat.le_refl _)⟩
end Go.Proofs.Ytakjjillnllocaa.spec
namespace Go.Proofs.Ytakjjillnllocaa.spec
open Go.Ev Go.Proofs.Ytakjjillnllocaa.nestFits Go.Proofs.Ytakjjillnllocaa.G
set_option maxRecDepth 100000
theorem call77 (l : Nat) (a b c d : Value) (H : Hp) (n : Nat) : (cal (l + 1)).call 77 [a, b, c, d] H n = C77_0 (cal l) KK a b c d H n := by kernel_rfl
theorem flat77 : flatF P 77 = true := by kernel_rfl
theorem und22 : P.underlying 22 = some (.slice 95) := by kernel_rfl
theorem fa55_0 (b o : Nat) : fieldAddrV P 55 (.pointer (some ⟨b, o, none⟩)) 0 = some (.pointer (some ⟨b, o + 0, none⟩)) := by kernel_rfl
theorem fa55_1 (b o : Nat) : fieldAddrV P 55 (.pointer (some ⟨b, o, none⟩)) 1 = some (.pointer (some ⟨b, o + 1, none⟩)) := by kernel_rfl
theorem reach_call (l : Nat) {ρ : Type} {H : Hp} {n : Nat} {v : Value} {np nj nk : Nat} {ps js ks : List Int} (hg : GroveI H n v np nj nk ps js ks) (hj : nj ≤ KK) (kind : Nat) (hk : kind < nk) (at_ pad : Int) :
    ∃ H' n', (∀ k : Value → Hp → Nat → Option ρ, callFK P (cal (l + 2)) 77 [v, .int .i64 kind, .int .i64 at_, .int .i64 pad] H n k = k (.agg ⟨[.int .i64 (reach js ks nj kind at_ pad).1, .int .i64 (reach js ks nj kind at_ pad).2]⟩) H' n') ∧ n ≤ n' ∧ Keep n H H' := by
  obtain ⟨r, H', n', rfl, e1, e2, e3⟩ := callFK_spec (ρ := ρ) (P := P) (cal := cal (l + 2)) (f := 77) (args := [v, .int .i64 kind, .int .i64 at_, .int .i64 pad]) (H := H) (n := n)
    (Pre := fun H n => GroveI H n v np nj nk ps js ks) (Q := fun r => r = .agg ⟨[.int .i64 (reach js ks nj kind at_ pad).1, .int .i64 (reach js ks nj kind at_ pad).2]⟩)
    (fun H n h => ⟨_, by rw [call77]; exact reach_spec l KK h hj kind hk at_ pad, rfl⟩) (fun r e _ => by subst e; rfl) hg (fun hp => hg.nil (by simp only [pureL, Bool.and_eq_true] at hp; exact hp.1))
  exact ⟨H', n', e1, e2, e3⟩
noncomputable def lows (js ks : List Int) (nj kind : Nat) (at_ pad : Int) : Nat → Int
  | 0 => 0
  | i + 1 => lows js ks nj kind at_ pad i + if (i : Int) = pad then 0 else (reach js ks nj kind at_ i).1
noncomputable def highs (js ks : List Int) (nj kind : Nat) (at_ pad : Int) : Nat → Int
  | 0 => 0
  | i + 1 => highs js ks nj kind at_ pad i + if (i : Int) = pad then 0 else (reach js ks nj kind at_ i).2
def Small (ks : List Int) (nk : Nat) : Prop := ∀ kind, kind < nk → 0 ≤ ks.getD (kind * 5) 0 ∧ ks.getD (kind * 5) 0 ≤ 1000 ∧
  0 ≤ ks.getD (kind * 5 + 1) 0 ∧ ks.getD (kind * 5 + 1) 0 ≤ ks.getD (kind * 5 + 2) 0 ∧ ks.getD (kind * 5 + 2) 0 ≤ 1000 ∧ 0 ≤ ks.getD (kind * 5 + 3) 0 ∧ ks.getD (kind * 5 + 3) 0 ≤ ks.getD (kind * 5 + 4) 0 ∧ ks.getD (kind * 5 + 4) 0 ≤ 1000
theorem reach_small {js ks : List Int} {nj nk kind : Nat} (h : Small ks nk) (hk : kind < nk) (a p : Int) : 0 ≤ (reach js ks nj kind a p).1 ∧ (reach js ks nj kind a p).1 ≤ (reach js ks nj kind a p).2 ∧ (reach js ks nj kind a p).2 ≤ 1000 := by
  obtain ⟨h0, h1, h2, h3, h4, h5, h6, h7⟩ := h kind hk
  unfold reach
  split
  · exact ⟨h2, h3, h4⟩
  · split
    · exact ⟨h5, h6, h7⟩
    · exact ⟨by simp, by simp, by simp⟩
theorem lows_small {js ks : List Int} {nj nk kind : Nat} (h : Small ks nk) (hk : kind < nk) (a p : Int) : ∀ i : Nat, 0 ≤ lows js ks nj kind a p i ∧ lows js ks nj kind a p i ≤ highs js ks nj kind a p i ∧ highs js ks nj kind a p i ≤ 1000 * i
  | 0 => by simp [lows, highs]
  | i + 1 => by
    obtain ⟨h1, h2, h3⟩ := lows_small (js := js) (nj := nj) h hk a p i
    obtain ⟨r1, r2, r3⟩ := reach_small (js := js) (nj := nj) h hk a i
    simp only [lows, highs]
    split <;> omega
theorem load26 {H : Hp} {g : Nat} {x y z : Value} (hb : CellsAt H g 0 [x, y, z]) (h1 : noHole x = true) (h2 : noHole y = true) (h3 : noHole z = true) : loadV P H 26 ⟨g, 0, none⟩ = some (.agg ⟨[x, y, z]⟩) :=
  loadV_agg (o := 0) (k := 0) hb agg26 sz26 (by simp) (by simp [h1, h2, h3])
noncomputable def someB (js ks : List Int) (nj np kind : Nat) (at_ pad number : Int) : Prop :=
  ((reach js ks nj kind at_ pad).1 ≤ number ∧ number ≤ (reach js ks nj kind at_ pad).2) ∧
  (number + lows js ks nj kind at_ pad np ≤ ks.getD (kind * 5) 0 ∧ ks.getD (kind * 5) 0 ≤ number + highs js ks nj kind at_ pad np)
theorem box55 {ρ : Type} {H : Hp} {n : Nat} {u w : Int} {k : Value → Hp → Nat → Option ρ} :
    (allocK P 55 H n fun v H2 n2 => bindO (storeP P 55 v (.agg ⟨[.int .i64 u, .int .i64 w]⟩) H2) fun H3 => k v H3 n2) =
      k (.pointer (some ⟨n, 0, none⟩)) ((H.set n (some (.cells [.int .i64 0, .int .i64 0] 55 false none))).set n (some (.cells [.int .i64 u, .int .i64 w] 55 false none))) (n + 1) := by
  rw [allocK_eq zero55, ptr, store55, storeN_whole (c := [.int .i64 0, .int .i64 0]) (vs := [.int .i64 u, .int .i64 w]) (e := 55) (vec := none) (by rw [Tr.get_set, if_pos rfl]; rfl) rfl rfl]
  rfl
theorem keep55 {H : Hp} {n : Nat} {a b : Option Blk} : Keep n H ((H.set n a).set n b) := ((Keep.refl n H).set (Nat.le_refl _) _).set (Nat.le_refl _) _
theorem some_loop (l k : Nat) {np nj nk : Nat} {ps js ks : List Int} (hnj : nj ≤ KK) (hnp : np ≤ 100) (kind : Nat) (hk : kind < nk) (at_ pad number : Int) (hn : 0 ≤ number ∧ number ≤ 1000) (hs : Small ks nk) (g : Nat) (x y z : Value) :
    ∀ (m i : Nat) (H : Hp) (n : Nat), g < n → CellsAt H g 0 [x, y, z] → GroveI H n (.agg ⟨[x, y, z]⟩) np nj nk ps js ks → i ≤ np → np - i ≤ m →
    ∃ r, Ret (S64_1 (cal (l + 2)) k m (.int .i64 kind) (.int .i64 at_) (.int .i64 pad) (.int .i64 number) (.pointer (some ⟨g, 0, none⟩)) (.int .i64 (number + lows js ks nj kind at_ pad i)) (.int .i64 (number + highs js ks nj kind at_ pad i)) (.int .i64 i) H n) n H (.bool r) ∧
      (r = true ↔ someB js ks nj np kind at_ pad number) := by
  have body : ∀ (b1 : Value → Value → Value → Value → Value → Value → Value → Value → Hp → Nat → Res) (m i : Nat) (H : Hp) (n : Nat), g < n → CellsAt H g 0 [x, y, z] → GroveI H n (.agg ⟨[x, y, z]⟩) np nj nk ps js ks → i ≤ np →
      (∀ H' n', n ≤ n' → Keep n H H' → i < np → ∃ r, Ret (b1 (.int .i64 kind) (.int .i64 at_) (.int .i64 pad) (.int .i64 number) (.pointer (some ⟨g, 0, none⟩)) (.int .i64 (number + lows js ks nj kind at_ pad (i + 1))) (.int .i64 (number + highs js ks nj kind at_ pad (i + 1))) (.int .i64 ((i + 1 : Nat) : Int)) H' n') n' H' (.bool r) ∧
        (r = true ↔ someB js ks nj np kind at_ pad number)) →
      ∃ r, Ret (C64_1 (cal (l + 2)) k m b1 (.int .i64 kind) (.int .i64 at_) (.int .i64 pad) (.int .i64 number) (.pointer (some ⟨g, 0, none⟩)) (.int .i64 (number + lows js ks nj kind at_ pad i)) (.int .i64 (number + highs js ks nj kind at_ pad i)) (.int .i64 i) H n) n H (.bool r) ∧
        (r = true ↔ someB js ks nj np kind at_ pad number) := by
    intro b1 m i H n hgn hg hgr hi ih
    obtain ⟨x', y', z', hxyz, h1, h2, h3⟩ := hgr.eq
    cases hxyz
    have hl : loadV P H 22 ⟨g, 0 + 0, none⟩ = some x := loadV_scalar hg agg22 rfl h1.hole.1 h1.hole.2
    have hlen : lenV P 22 x = some (.int .i64 np) := h1.len_eq und22
    have h26 := load26 hg h1.hole.1 h2.hole.1 h3.hole.1
    obtain ⟨b1s, b2s, b3s⟩ := lows_small (js := js) (nj := nj) hs hk at_ pad i
    unfold C64_1 B64_1
    simp only [fa26_0, bindO_some, addrV_eq, hl, hlen, binK_some bin_lss, ifK_d, h26]
    by_cases hlt : i < np
    · rw [if_pos (by omega)]
      obtain ⟨H1, n1, e, e2, e3⟩ := reach_call (ρ := Value × Hp × Nat) l hgr hnj kind hk at_ i
      rw [e, box55]
      have hk55 := keep55 (H := H1) (n := n1) (a := some (.cells [.int .i64 0, .int .i64 0] 55 false none)) (b := some (.cells [.int .i64 (reach js ks nj kind at_ i).1, .int .i64 (reach js ks nj kind at_ i).2] 55 false none))
      have hnew := CellsAt.new (H := H1.set n1 (some (.cells [.int .i64 0, .int .i64 0] 55 false none))) (n := n1) (vs := [.int .i64 (reach js ks nj kind at_ i).1, .int .i64 (reach js ks nj kind at_ i).2]) (e := 55) (ro := false) (vec := none)
      generalize (H1.set n1 (some (.cells [.int .i64 0, .int .i64 0] 55 false none))).set n1 (some (.cells [.int .i64 (reach js ks nj kind at_ i).1, .int .i64 (reach js ks nj kind at_ i).2] 55 false none)) = H2 at hk55 hnew ⊢
      have hkk : Keep n H H2 := e3.trans hk55 e2
      obtain ⟨r, ⟨H', n', q1, q2, q3⟩, q4⟩ := ih H2 (n1 + 1) (by omega) hkk hlt
      have hI : I64 ((i : Int) + 1) := by unfold I64; omega
      have hcast : ((i : Int) + 1) = ((i + 1 : Nat) : Int) := by omega
      have l0 : loadV P H2 3 ⟨n1, 0 + 0, none⟩ = some (.int .i64 (reach js ks nj kind at_ i).1) := loadV_int hnew agg3 rfl
      have l1 : loadV P H2 3 ⟨n1, 0 + 1, none⟩ = some (.int .i64 (reach js ks nj kind at_ i).2) := loadV_int hnew agg3 rfl
      obtain ⟨r1, r2, r3⟩ := reach_small (js := js) (nj := nj) hs hk at_ i
      by_cases c : (i : Int) = pad
      · have el : lows js ks nj kind at_ pad (i + 1) = lows js ks nj kind at_ pad i := by simp only [lows]; rw [if_pos c]; omega
        have eh : highs js ks nj kind at_ pad (i + 1) = highs js ks nj kind at_ pad i := by simp only [highs]; rw [if_pos c]; omega
        rw [el, eh] at q1
        simp only [binK_some bin_neq, decide_eq_true c, Bool.not_true, ifK_f, C64_2, B64_2, binK_some (bin_add hI), hcast]
        exact ⟨r, ⟨H', n', q1, by omega, hkk.trans q3 (by omega)⟩, q4⟩
      · have el : lows js ks nj kind at_ pad (i + 1) = lows js ks nj kind at_ pad i + (reach js ks nj kind at_ i).1 := by simp only [lows]; rw [if_neg c]
        have eh : highs js ks nj kind at_ pad (i + 1) = highs js ks nj kind at_ pad i + (reach js ks nj kind at_ i).2 := by simp only [highs]; rw [if_neg c]
        rw [el, eh, ← Int.add_assoc, ← Int.add_assoc] at q1
        have hA : I64 (number + lows js ks nj kind at_ pad i + (reach js ks nj kind at_ i).1) := by unfold I64; omega
        have hB : I64 (number + highs js ks nj kind at_ pad i + (reach js ks nj kind at_ i).2) := by unfold I64; omega
        simp only [binK_some bin_neq, decide_eq_false c, Bool.not_false, ifK_t, fa55_0, fa55_1, bindO_some, addrV_eq, l0, l1, binK_some (bin_add hA), binK_some (bin_add hB), C64_2, B64_2, binK_some (bin_add hI), hcast]
        exact ⟨r, ⟨H', n', q1, by omega, hkk.trans q3 (by omega)⟩, q4⟩
    · rw [if_neg (by omega)]
      have hi' : i = np := by omega
      subst hi'
      obtain ⟨H1, n1, e, e2, e3⟩ := reach_call (ρ := Value × Hp × Nat) l hgr hnj kind hk at_ pad
      rw [e, box55]
      have hk55 := keep55 (H := H1) (n := n1) (a := some (.cells [.int .i64 0, .int .i64 0] 55 false none)) (b := some (.cells [.int .i64 (reach js ks nj kind at_ pad).1, .int .i64 (reach js ks nj kind at_ pad).2] 55 false none))
      have hnew := CellsAt.new (H := H1.set n1 (some (.cells [.int .i64 0, .int .i64 0] 55 false none))) (n := n1) (vs := [.int .i64 (reach js ks nj kind at_ pad).1, .int .i64 (reach js ks nj kind at_ pad).2]) (e := 55) (ro := false) (vec := none)
      generalize (H1.set n1 (some (.cells [.int .i64 0, .int .i64 0] 55 false none))).set n1 (some (.cells [.int .i64 (reach js ks nj kind at_ pad).1, .int .i64 (reach js ks nj kind at_ pad).2] 55 false none)) = H2 at hk55 hnew ⊢
      have hkk : Keep n H H2 := e3.trans hk55 e2
      have l0 : loadV P H2 3 ⟨n1, 0 + 0, none⟩ = some (.int .i64 (reach js ks nj kind at_ pad).1) := loadV_int hnew agg3 rfl
      have l1 : loadV P H2 3 ⟨n1, 0 + 1, none⟩ = some (.int .i64 (reach js ks nj kind at_ pad).2) := loadV_int hnew agg3 rfl
      have hz : loadV P H2 24 ⟨g, 0 + 2, none⟩ = some z := loadV_scalar (hg.keep hkk hgn) agg24 rfl h3.hole.1 h3.hole.2
      obtain ⟨bb, o, hix, hbn, hc⟩ := ((h3.keep hkk (Nat.le_refl _)).up (show n ≤ n1 + 1 by omega)).at_ und24 sz94 hk
      have hlen5 : kind * 5 + 5 ≤ ks.length := by rw [h3.1]; omega
      have hy : loadV P H2 3 ⟨bb, o + kind * 5 + 0, none⟩ = some (.int .i64 (ks.getD (kind * 5) 0)) := by
        rw [show o + kind * 5 + 0 = o + kind * 5 by omega]
        exact loadV_int hc agg3 (ints_get (by rw [List.getD_eq_getElem?_getD, List.getElem?_eq_getElem (show kind * 5 < ks.length by omega)]; rfl))
      simp only [fa55_0, fa55_1, bindO_some, addrV_eq, l0, l1]
      rw [in_call (l + 1)]
      unfold someB
      cases c1 : decide ((reach js ks nj kind at_ pad).1 ≤ number ∧ number ≤ (reach js ks nj kind at_ pad).2) with
      | true =>
        have c1 := of_decide_eq_true c1
        simp only [guardK_tt, fa26_2, bindO_some, addrV_eq, hz, hix, fa94_0, hy]
        rw [in_call (l + 1)]
        simp only [pickV_t, bindO_some]
        exact ⟨_, ⟨H2, n1 + 1, rfl, by omega, hkk⟩, by simp [c1]⟩
      | false =>
        have c1 := of_decide_eq_false c1
        simp only [guardK_ft, pickV_f, bindO_some]
        exact ⟨_, ⟨H2, n1 + 1, rfl, by omega, hkk⟩, by simp [c1]⟩
  intro m
  induction m with
  | zero =>
    intro i H n h1 h2 h3 h4 h5
    exact body _ 0 i H n h1 h2 h3 h4 (fun _ _ _ _ h => by omega)
  | succ m ih =>
    intro i H n h1 h2 h3 h4 h5
    exact body _ (m + 1) i H n h1 h2 h3 h4 (fun H' n' q1 q2 q3 => ih (i + 1) H' n' (by omega) (h2.keep q2 h1) (h3.keep q2 q1) (by omega) (by omega))
theorem some_spec (l : Nat) {np nj nk : Nat} {ps js ks : List Int} (hnj : nj ≤ KK) (hnp : np ≤ 100) (kind : Nat) (hk : kind < nk) (at_ pad number : Int) (hn : 0 ≤ number ∧ number ≤ 1000) (hs : Small ks nk)
    {H : Hp} {n : Nat} {v : Value} (hg : GroveI H n v np nj nk ps js ks) :
    ∃ r, Ret (C64_0 (cal (l + 2)) KK v (.int .i64 kind) (.int .i64 at_) (.int .i64 pad) (.int .i64 number) H n) n H (.bool r) ∧ (r = true ↔ someB js ks nj np kind at_ pad number) := by
  have hg0 := hg
  obtain ⟨x, y, z, rfl, h1, h2, h3⟩ := hg.eq
  unfold C64_0 B64_0
  simp only [boxK_eq, cellsV, ptr]
  have hkeep : Keep n H (H.set n (some (.cells [x, y, z] 26 false none))) := (Keep.refl n H).set (Nat.le_refl _) _
  obtain ⟨r, ⟨H', n', e1, e2, e3⟩, e4⟩ := some_loop l KK hnj hnp kind hk at_ pad number hn hs n x y z KK 0 (H.set n (some (.cells [x, y, z] 26 false none))) (n + 1) (by omega) CellsAt.new (hg0.keep hkeep (by omega)) (by omega) (by unfold KK; omega)
  simp only [lows, highs, Int.add_zero] at e1
  exact ⟨r, ⟨H', n', e1, by omega, hkeep.trans e3 (by omega)⟩, e4⟩
theorem call64 (l : Nat) (a b c d e : Value) (H : Hp) (n : Nat) : (cal (l + 1)).call 64 [a, b, c, d, e] H n = C64_0 (cal l) KK a b c d e H n := by kernel_rfl
theorem some_call (l : Nat) {ρ : Type} {np nj nk : Nat} {ps js ks : List Int} (hnj : nj ≤ KK) (hnp : np ≤ 100) (kind : Nat) (hk : kind < nk) (at_ pad number : Int) (hn : 0 ≤ number ∧ number ≤ 1000) (hs : Small ks nk)
    {H : Hp} {n : Nat} {v : Value} (hg : GroveI H n v np nj nk ps js ks) :
    ∃ (r : Bool) (H' : Hp) (n' : Nat), (r = true ↔ someB js ks nj np kind at_ pad number) ∧ (∀ k : Value → Hp → Nat → Option ρ, callFK P (cal (l + 3)) 64 [v, .int .i64 kind, .int .i64 at_, .int .i64 pad, .int .i64 number] H n k = k (.bool r) H' n') ∧ n ≤ n' ∧ Keep n H H' := by
  obtain ⟨r, H', n', ⟨b, rfl, hb⟩, e1, e2, e3⟩ := callFK_spec (ρ := ρ) (P := P) (cal := cal (l + 3)) (f := 64) (args := [v, .int .i64 kind, .int .i64 at_, .int .i64 pad, .int .i64 number]) (H := H) (n := n)
    (Pre := fun H n => GroveI H n v np nj nk ps js ks) (Q := fun r => ∃ b : Bool, r = .bool b ∧ (b = true ↔ someB js ks nj np kind at_ pad number))
    (fun H n h => by
      obtain ⟨r, h1, h2⟩ := some_spec l hnj hnp kind hk at_ pad number hn hs h
      exact ⟨.bool r, by rw [call64]; exact h1, r, rfl, h2⟩) (fun r ⟨b, e, _⟩ _ => by subst e; rfl) hg (fun hp => hg.nil (by simp only [pureL, Bool.and_eq_true] at hp; exact hp.1))
  exact ⟨b, H', n', hb, e1, e2, e3⟩
end Go.Proofs.Ytakjjillnllocaa.spec
namespace Go.Proofs.Ytakjjillnllocaa.spec
open Go.Ev Go.Proofs.Ytakjjillnllocaa.nestFits Go.Proofs.Ytakjjillnllocaa.G
set_option maxRecDepth 100000
theorem kind_at {H : Hp} {n nk kind : Nat} {ks : List Int} {z : Value} (hz : SliceI H n 5 z nk ks) (hk : kind < nk) :
    ∃ b o, indexAddrV P 24 z (.int .i64 kind) = some (.pointer (some ⟨b, o, none⟩)) ∧ ∀ j, j < 5 → loadV P H 3 ⟨b, o + j, none⟩ = some (.int .i64 (ks.getD (kind * 5 + j) 0)) := by
  obtain ⟨b, o, hix, hbn, hc⟩ := hz.at_ und24 sz94 hk
  refine ⟨b, o + kind * 5, hix, fun j hj => ?_⟩
  have hlen : kind * 5 + 5 ≤ ks.length := by rw [hz.1]; omega
  rw [show o + kind * 5 + j = o + (kind * 5 + j) by omega]
  exact loadV_int hc agg3 (ints_get (by rw [List.getD_eq_getElem?_getD, List.getElem?_eq_getElem (show kind * 5 + j < ks.length by omega)]; rfl))
noncomputable def fitsB (js ks : List Int) (nj np kind : Nat) (at_ : Int) : Prop := ∃ m : Int, ks.getD (kind * 5 + 1) 0 ≤ m ∧ m ≤ ks.getD (kind * 5 + 2) 0 ∧ someB js ks nj np kind at_ at_ m
theorem fits_loop (l k : Nat) {np nj nk : Nat} {ps js ks : List Int} (hnj : nj ≤ KK) (hnp : np ≤ 100) (kind : Nat) (hk : kind < nk) (at_ : Int) (hs : Small ks nk) (g : Nat) (x y z : Value) :
    ∀ (m : Nat) (a : Int) (H : Hp) (n : Nat), g < n → CellsAt H g 0 [x, y, z] → GroveI H n (.agg ⟨[x, y, z]⟩) np nj nk ps js ks → 0 ≤ a → a ≤ ks.getD (kind * 5 + 2) 0 + 1 → ks.getD (kind * 5 + 2) 0 + 1 - a ≤ m →
    ∃ r, Ret (S21_1 (cal (l + 3)) k m (.int .i64 kind) (.int .i64 at_) (.pointer (some ⟨g, 0, none⟩)) (.int .i64 a) H n) n H (.bool r) ∧
      (r = true ↔ ∃ b : Int, a ≤ b ∧ b ≤ ks.getD (kind * 5 + 2) 0 ∧ someB js ks nj np kind at_ at_ b) := by
  obtain ⟨_, _, _, _, hi1000, _, _, _⟩ := hs kind hk
  have body : ∀ (b1 : Value → Value → Value → Value → Hp → Nat → Res) (m : Nat) (a : Int) (H : Hp) (n : Nat), g < n → CellsAt H g 0 [x, y, z] → GroveI H n (.agg ⟨[x, y, z]⟩) np nj nk ps js ks → 0 ≤ a →
      (∀ H' n', n ≤ n' → Keep n H H' → a ≤ ks.getD (kind * 5 + 2) 0 → ∃ r, Ret (b1 (.int .i64 kind) (.int .i64 at_) (.pointer (some ⟨g, 0, none⟩)) (.int .i64 (a + 1)) H' n') n' H' (.bool r) ∧
        (r = true ↔ ∃ b : Int, a + 1 ≤ b ∧ b ≤ ks.getD (kind * 5 + 2) 0 ∧ someB js ks nj np kind at_ at_ b)) →
      ∃ r, Ret (C21_1 (cal (l + 3)) k m b1 (.int .i64 kind) (.int .i64 at_) (.pointer (some ⟨g, 0, none⟩)) (.int .i64 a) H n) n H (.bool r) ∧
        (r = true ↔ ∃ b : Int, a ≤ b ∧ b ≤ ks.getD (kind * 5 + 2) 0 ∧ someB js ks nj np kind at_ at_ b) := by
    intro b1 m a H n hgn hg hgr ha ih
    obtain ⟨x', y', z', hxyz, h1, h2, h3⟩ := hgr.eq
    cases hxyz
    have hz : loadV P H 24 ⟨g, 0 + 2, none⟩ = some z := loadV_scalar hg agg24 rfl h3.hole.1 h3.hole.2
    have h26 := load26 hg h1.hole.1 h2.hole.1 h3.hole.1
    obtain ⟨b, o, hix, hld⟩ := kind_at h3 hk
    unfold C21_1 B21_1
    simp only [fa26_2, bindO_some, addrV_eq, hz, hix, fa94_1, fa55_1, hld 2 (by omega), binK_some bin_leq, ifK_d, h26]
    by_cases hle : a ≤ ks.getD (kind * 5 + 2) 0
    · rw [if_pos hle]
      obtain ⟨r, H1, n1, hr, e, e2, e3⟩ := some_call (ρ := Value × Hp × Nat) l hnj hnp kind hk at_ at_ a (by omega) hs hgr
      rw [e]
      cases r with
      | true => exact ⟨true, ⟨H1, n1, rfl, e2, e3⟩, ⟨fun _ => ⟨a, Int.le_refl _, hle, hr.1 rfl⟩, fun _ => rfl⟩⟩
      | false =>
        have hI : I64 (a + 1) := by unfold I64; omega
        simp only [ifK_f, binK_some (bin_add hI)]
        obtain ⟨r, ⟨H', n', q1, q2, q3⟩, q4⟩ := ih H1 n1 e2 e3 hle
        refine ⟨r, ⟨H', n', q1, by omega, e3.trans q3 e2⟩, q4.trans ⟨fun ⟨b, c1, c2, c3⟩ => ⟨b, by omega, c2, c3⟩, fun ⟨b, c1, c2, c3⟩ => ⟨b, ?_, c2, c3⟩⟩⟩
        rcases Int.lt_or_eq_of_le c1 with q | q
        · omega
        · subst q; cases hr.2 c3
    · rw [if_neg hle]
      exact ⟨false, ⟨H, n, rfl, Nat.le_refl _, Keep.refl _ _⟩, ⟨fun h => (by cases h), fun ⟨b, c1, c2, _⟩ => by omega⟩⟩
  intro m
  induction m with
  | zero =>
    intro a H n h1 h2 h3 h4 h5 h6
    exact body _ 0 a H n h1 h2 h3 h4 (fun _ _ _ _ h => by omega)
  | succ m ih =>
    intro a H n h1 h2 h3 h4 h5 h6
    exact body _ (m + 1) a H n h1 h2 h3 h4 (fun H' n' q1 q2 q3 => ih (a + 1) H' n' (by omega) (h2.keep q2 h1) (h3.keep q2 q1) (by omega) (by omega) (by omega))
theorem fits_spec (l : Nat) {np nj nk : Nat} {ps js ks : List Int} (hnj : nj ≤ KK) (hnp : np ≤ 100) (kind : Nat) (hk : kind < nk) (at_ : Int) (hs : Small ks nk)
    {H : Hp} {n : Nat} {v : Value} (hg : GroveI H n v np nj nk ps js ks) :
    ∃ r, Ret (C21_0 (cal (l + 3)) KK v (.int .i64 kind) (.int .i64 at_) H n) n H (.bool r) ∧ (r = true ↔ fitsB js ks nj np kind at_) := by
  have hg0 := hg
  obtain ⟨x, y, z, rfl, h1, h2, h3⟩ := hg.eq
  obtain ⟨_, _, lo0, lohi, hi1000, _, _, _⟩ := hs kind hk
  unfold C21_0 B21_0
  simp only [boxK_eq, cellsV, ptr]
  have hkeep : Keep n H (H.set n (some (.cells [x, y, z] 26 false none))) := (Keep.refl n H).set (Nat.le_refl _) _
  have hbox : CellsAt (H.set n (some (.cells [x, y, z] 26 false none))) n 0 [x, y, z] := CellsAt.new
  have hgr := hg0.keep hkeep (show n ≤ n + 1 by omega)
  have s3 : SliceI (H.set n (some (.cells [x, y, z] 26 false none))) (n + 1) 5 z nk ks := (h3.keep hkeep (Nat.le_refl _)).up (by omega)
  generalize H.set n (some (.cells [x, y, z] 26 false none)) = H1 at hkeep hbox hgr s3 ⊢
  have hz : loadV P H1 24 ⟨n, 0 + 2, none⟩ = some z := loadV_scalar hbox agg24 rfl h3.hole.1 h3.hole.2
  obtain ⟨b, o, hix, hld⟩ := kind_at s3 hk
  simp only [fa26_2, bindO_some, addrV_eq, hz, hix, fa94_1, fa55_0, hld 1 (by omega), Nat.add_zero]
  obtain ⟨r, ⟨H', n', e1, e2, e3⟩, e4⟩ := fits_loop l KK hnj hnp kind hk at_ hs n x y z KK (ks.getD (kind * 5 + 1) 0) H1 (n + 1) (by omega) hbox hgr lo0 (by omega) (by unfold KK; omega)
  exact ⟨r, ⟨H', n', e1, by omega, hkeep.trans e3 (by omega)⟩, e4⟩
end Go.Proofs.Ytakjjillnllocaa.spec
namespace Go.Proofs.Ytakjjillnllocaa.spec
open Go.Ev Go.Proofs.Ytakjjillnllocaa.nestFits Go.Proofs.Ytakjjillnllocaa.G
set_option maxRecDepth 1000000
noncomputable def isB (c : Bool) (r : Res) : Bool := match r with
  | some (.bool b, _, _) => b == c
  | _ => false
theorem isB_eq {c : Bool} {r : Res} (h : isB c r = true) : ∃ H n, r = some (.bool c, H, n) := by
  unfold isB at h
  split at h
  · rename_i b H n
    have h := eq_of_beq h
    subst h
    exact ⟨H, n, rfl⟩
  · cases h
theorem run_awake : isB true ((cal 60).call 16 [] .nil 0) = true := by kernel_rfl
theorem flat16 : flatF P 16 = true := by kernel_rfl
theorem awake_call {ρ : Type} (H : Hp) (n : Nat) (k : Value → Hp → Nat → Option ρ) : callFK P (cal 60) 16 [] H n k = k (.bool true) H n := by
  obtain ⟨H', n', e⟩ := isB_eq run_awake
  exact callFK_pure flat16 rfl e rfl
end Go.Proofs.Ytakjjillnllocaa.spec
namespace Go.Proofs.Ytakjjillnllocaa.spec
open Go.Ev Go.Proofs.Ytakjjillnllocaa.nestFits Go.Proofs.Ytakjjillnllocaa.G
set_option maxRecDepth 100000
theorem flatK104 : flatK P 104 = some 2 := by kernel_rfl
theorem eqG104 : P.eqGuardType P.depth 104 = false := by kernel_rfl
theorem eq104 (p q : Operand) (x y a b : Int) : binV P .eql 104 p q (.agg ⟨[.int .i64 x, .int .i64 y]⟩) (.agg ⟨[.int .i64 a, .int .i64 b]⟩) = some (.bool (decide (x = a) && decide (y = b))) := by
  have h0 : quickBin .eql (.agg ⟨[.int .i64 x, .int .i64 y]⟩) (.agg ⟨[.int .i64 a, .int .i64 b]⟩) = none := rfl
  have h1 : (pureV (.agg ⟨[.int .i64 x, .int .i64 y]⟩) && pureV (.agg ⟨[.int .i64 a, .int .i64 b]⟩)) = true := rfl
  have h2 : eqCells [.int .i64 x, .int .i64 y] [.int .i64 a, .int .i64 b] = some (decide (x = a) && decide (y = b)) := by
    simp only [eqCells, decide_true]
    cases decide (x = a) <;> cases decide (y = b) <;> rfl
  unfold binV
  rw [h0]
  unfold slowBin
  simp only [h1, aggBin, aggEq, flatK104, eqG104, List.length_cons, List.length_nil, h2]
  rfl
theorem fault_inner (c : Cal) (k m1 : Nat) (b3 : Value → Value → Hp → Nat → Res) (g gi nj i : Nat) (a b : Int) (js : List Int) (sp sj sk : Value) : ∀ (m j : Nat) (H : Hp) (n : Nat), g < n → gi < n → CellsAt H g 0 [sp, sj, sk] → CellsAt H gi 0 [.int .i64 a, .int .i64 b] →
    SliceI H n 2 sj nj js → i < nj → j ≤ i → i - j ≤ m → I64 ((i : Int) + 1) →
    ((∃ q, j ≤ q ∧ q < i ∧ J js a b q) ∧ Ret (S63_4 c k m1 b3 m (.pointer (some ⟨g, 0, none⟩)) (.int .i64 i) (.pointer (some ⟨gi, 0, none⟩)) (.int .i64 j) H n) n H (.int .i64 1)) ∨
    ((¬ ∃ q, j ≤ q ∧ q < i ∧ J js a b q) ∧ ∃ H1 n1, S63_4 c k m1 b3 m (.pointer (some ⟨g, 0, none⟩)) (.int .i64 i) (.pointer (some ⟨gi, 0, none⟩)) (.int .i64 j) H n = b3 (.pointer (some ⟨g, 0, none⟩)) (.int .i64 ((i + 1 : Nat) : Int)) H1 n1 ∧ n ≤ n1 ∧ Keep n H H1) := by
  have body : ∀ (b4 : Value → Value → Value → Value → Hp → Nat → Res) (m j : Nat) (H : Hp) (n : Nat), g < n → gi < n → CellsAt H g 0 [sp, sj, sk] → CellsAt H gi 0 [.int .i64 a, .int .i64 b] →
      SliceI H n 2 sj nj js → i < nj → j ≤ i → I64 ((i : Int) + 1) →
      (∀ H' n', n ≤ n' → Keep n H H' → j < i → 
        ((∃ q, j + 1 ≤ q ∧ q < i ∧ J js a b q) ∧ Ret (b4 (.pointer (some ⟨g, 0, none⟩)) (.int .i64 i) (.pointer (some ⟨gi, 0, none⟩)) (.int .i64 ((j + 1 : Nat) : Int)) H' n') n' H' (.int .i64 1)) ∨
        ((¬ ∃ q, j + 1 ≤ q ∧ q < i ∧ J js a b q) ∧ ∃ H1 n1, b4 (.pointer (some ⟨g, 0, none⟩)) (.int .i64 i) (.pointer (some ⟨gi, 0, none⟩)) (.int .i64 ((j + 1 : Nat) : Int)) H' n' = b3 (.pointer (some ⟨g, 0, none⟩)) (.int .i64 ((i + 1 : Nat) : Int)) H1 n1 ∧ n' ≤ n1 ∧ Keep n' H' H1)) →
      ((∃ q, j ≤ q ∧ q < i ∧ J js a b q) ∧ Ret (C63_4 c k m1 m b3 b4 (.pointer (some ⟨g, 0, none⟩)) (.int .i64 i) (.pointer (some ⟨gi, 0, none⟩)) (.int .i64 j) H n) n H (.int .i64 1)) ∨
      ((¬ ∃ q, j ≤ q ∧ q < i ∧ J js a b q) ∧ ∃ H1 n1, C63_4 c k m1 m b3 b4 (.pointer (some ⟨g, 0, none⟩)) (.int .i64 i) (.pointer (some ⟨gi, 0, none⟩)) (.int .i64 j) H n = b3 (.pointer (some ⟨g, 0, none⟩)) (.int .i64 ((i + 1 : Nat) : Int)) H1 n1 ∧ n ≤ n1 ∧ Keep n H H1) := by
    intro b4 m j H n hgn hgin hg hgi hj hinj hji hI1 ih
    have hcast1 : ((i : Int) + 1) = ((i + 1 : Nat) : Int) := by omega
    unfold C63_4 B63_4
    simp only [binK_some bin_lss, ifK_d]
    by_cases hlt : j < i
    · rw [if_pos (by omega)]
      have hl : loadV P H 23 ⟨g, 0 + 1, none⟩ = some sj := loadV_scalar hg agg23 rfl hj.hole.1 hj.hole.2
      obtain ⟨bb, o, hix, hbn, hc⟩ := hj.at_ und23 sz104 (show j < nj by omega)
      have hlen2 : j * 2 + 2 ≤ js.length := by rw [hj.1]; omega
      obtain ⟨x, y, hx, hy, hxy⟩ := pair_at hlen2
      have hld : loadV P H 104 ⟨bb, o + j * 2, none⟩ = some (.agg ⟨[.int .i64 x, .int .i64 y]⟩) := by
        rw [loadV_agg hc agg104 sz104 (by rw [ints_length]; exact hlen2) (ints_noHole _), hxy]
      simp only [fa26_1, bindO_some, addrV_eq, hl, hix, hld, allocK_eq zero104, ptr, store104, cellsV]
      have hst := storeN_whole (H := H.set n (some (.cells [.int .i64 0, .int .i64 0] 104 false none))) (b := n) (c := [.int .i64 0, .int .i64 0]) (vs := [.int .i64 x, .int .i64 y]) (e := 104) (vec := none) (by rw [Tr.get_set, if_pos rfl]) rfl rfl
      rw [hst]
      have hk : Keep n H ((H.set n (some (.cells [.int .i64 0, .int .i64 0] 104 false none))).set n (some (.cells [.int .i64 x, .int .i64 y] 104 false none))) := keep55
      have hnew := CellsAt.new (H := H.set n (some (.cells [.int .i64 0, .int .i64 0] 104 false none))) (n := n) (vs := [.int .i64 x, .int .i64 y]) (e := 104) (ro := false) (vec := none)
      generalize (H.set n (some (.cells [.int .i64 0, .int .i64 0] 104 false none))).set n (some (.cells [.int .i64 x, .int .i64 y] 104 false none)) = H2 at hk hnew ⊢
      have g2 := hgi.keep hk hgin
      have lxy : loadV P H2 104 ⟨n, 0, none⟩ = some (.agg ⟨[.int .i64 x, .int .i64 y]⟩) := loadV_agg (o := 0) (k := 0) hnew agg104 sz104 (by simp) rfl
      have lab : loadV P H2 104 ⟨gi, 0, none⟩ = some (.agg ⟨[.int .i64 a, .int .i64 b]⟩) := loadV_agg (o := 0) (k := 0) g2 agg104 sz104 (by simp) rfl
      have l0 : loadV P H2 3 ⟨n, 0 + 0, none⟩ = some (.int .i64 x) := loadV_int hnew agg3 rfl
      have l1 : loadV P H2 3 ⟨n, 0 + 1, none⟩ = some (.int .i64 y) := loadV_int hnew agg3 rfl
      have l2 : loadV P H2 3 ⟨gi, 0 + 0, none⟩ = some (.int .i64 a) := loadV_int g2 agg3 rfl
      have l3 : loadV P H2 3 ⟨gi, 0 + 1, none⟩ = some (.int .i64 b) := loadV_int g2 agg3 rfl
      have hI : I64 ((j : Int) + 1) := by unfold I64 at hI1 ⊢; omega
      have hcast : ((j : Int) + 1) = ((j + 1 : Nat) : Int) := by omega
      have hJ : J js a b j ↔ (decide (x = a) = true ∧ decide (y = b) = true) ∨ (decide (x = b) = true ∧ decide (y = a) = true) := by
        unfold J; rw [hx, hy]; simp
      have yes : J js a b j → ∃ q, j ≤ q ∧ q < i ∧ J js a b q := fun h => ⟨j, Nat.le_refl _, hlt, h⟩
      have next := ih H2 (n + 1) (by omega) hk hlt
      simp only [bindO_some, lxy, lab, binK_some (eq104 ..)]
      have yes2 : J js a b j → ((∃ q, j ≤ q ∧ q < i ∧ J js a b q) ∧ Ret (some (Value.int .i64 1, H2, n + 1)) n H (.int .i64 1)) := fun h => ⟨yes h, H2, n + 1, rfl, by omega, hk⟩
      have go : ¬ J js a b j → ((∃ q, j ≤ q ∧ q < i ∧ J js a b q) ∧ Ret (b4 (.pointer (some ⟨g, 0, none⟩)) (.int .i64 i) (.pointer (some ⟨gi, 0, none⟩)) (.int .i64 ((j + 1 : Nat) : Int)) H2 (n + 1)) n H (.int .i64 1)) ∨
          ((¬ ∃ q, j ≤ q ∧ q < i ∧ J js a b q) ∧ ∃ H1 n1, b4 (.pointer (some ⟨g, 0, none⟩)) (.int .i64 i) (.pointer (some ⟨gi, 0, none⟩)) (.int .i64 ((j + 1 : Nat) : Int)) H2 (n + 1) = b3 (.pointer (some ⟨g, 0, none⟩)) (.int .i64 ((i + 1 : Nat) : Int)) H1 n1 ∧ n ≤ n1 ∧ Keep n H H1) := by
        intro hno
        rcases next with ⟨⟨q, q1, q2, q3⟩, H', n', e1, e2, e3⟩ | ⟨hnone, H1, n1, e1, e2, e3⟩
        · exact .inl ⟨⟨q, by omega, q2, q3⟩, H', n', e1, by omega, hk.trans e3 (by omega)⟩
        · refine .inr ⟨fun ⟨q, q1, q2, q3⟩ => ?_, H1, n1, e1, by omega, hk.trans e3 (by omega)⟩
          rcases Nat.eq_or_lt_of_le q1 with z | z
          · subst z; exact hno q3
          · exact hnone ⟨q, z, q2, q3⟩
      cases c1 : decide (x = a) <;> cases c2 : decide (y = b) <;> cases c3 : decide (x = b) <;> cases c4 : decide (y = a) <;>
        simp only [c1, c2, c3, c4, Bool.and_true, Bool.and_false, Bool.true_and, Bool.false_and, Bool.and_self, guardK_tt, guardK_ff, guardK_tf, guardK_ft, guardK_u, bindO_some, addrV_eq, l0, l1, l2, l3, binK_some bin_eql, binK_some (bin_add hI), pickV_t, pickV_f, ifK_t, ifK_f, fa104_0, fa104_1, hcast] <;>
        rw [c1, c2, c3, c4] at hJ <;> first | exact go (by rw [hJ]; simp) | exact .inl (yes2 (by rw [hJ]; simp))
    · rw [if_neg (by omega)]
      simp only [binK_some (bin_add hI1), hcast1]
      exact .inr ⟨fun ⟨q, h1, h2, _⟩ => by omega, H, n, rfl, Nat.le_refl _, Keep.refl _ _⟩
  intro m
  induction m with
  | zero =>
    intro j H n h1 h2 h3 h4 h5 h6 h7 h8 h9
    exact body _ 0 j H n h1 h2 h3 h4 h5 h6 h7 h9 (fun _ _ _ _ h => by omega)
  | succ m ih =>
    intro j H n h1 h2 h3 h4 h5 h6 h7 h8 h9
    exact body _ (m + 1) j H n h1 h2 h3 h4 h5 h6 h7 h9 (fun H' n' q1 q2 q3 => ih (j + 1) H' n' (by omega) (by omega) (h3.keep q2 h1) (h4.keep q2 h2) ((h5.keep q2 (Nat.le_refl _)).up q1) h6 (by omega) (by omega) h9)
theorem not_t : pureSem P (.bool true) (Op.unary .not (.bool true)) = some (.bool false) := by kernel_rfl
theorem not_f : pureSem P (.bool false) (Op.unary .not (.bool false)) = some (.bool true) := by kernel_rfl
def JBad (js : List Int) (np : Nat) (i : Nat) : Prop := ∃ a b, js[i * 2]? = some a ∧ js[i * 2 + 1]? = some b ∧
  (¬ (0 ≤ a ∧ a ≤ (np : Int) - 1) ∨ ¬ (0 ≤ b ∧ b ≤ (np : Int) - 1) ∨ a = b ∨ ∃ q, 0 ≤ q ∧ q < i ∧ J js a b q)
theorem fault_joins (l k : Nat) (g np nj nk : Nat) (ps js ks : List Int) (sp sj sk : Value) (hnp : np ≤ 100) (hnj : nj ≤ 100) : ∀ (m i : Nat) (H : Hp) (n : Nat), g < n → CellsAt H g 0 [sp, sj, sk] → SliceI H n 2 sp np ps → SliceI H n 2 sj nj js →
    i ≤ nj → 2 * nj - i ≤ m →
    ((∃ q, i ≤ q ∧ q < nj ∧ JBad js np q) ∧ Ret (S63_3 (cal (l + 1)) k m (.pointer (some ⟨g, 0, none⟩)) (.int .i64 i) H n) n H (.int .i64 1)) ∨
    ((¬ ∃ q, i ≤ q ∧ q < nj ∧ JBad js np q) ∧ Ret (S63_3 (cal (l + 1)) k m (.pointer (some ⟨g, 0, none⟩)) (.int .i64 i) H n) n H (.int .i64 0)) := by
  have body : ∀ (b3 : Value → Value → Hp → Nat → Res) (m i : Nat) (H : Hp) (n : Nat), g < n → CellsAt H g 0 [sp, sj, sk] → SliceI H n 2 sp np ps → SliceI H n 2 sj nj js → i ≤ nj → i ≤ m →
      (∀ H' n', n ≤ n' → Keep n H H' → i < nj → 
        ((∃ q, i + 1 ≤ q ∧ q < nj ∧ JBad js np q) ∧ Ret (b3 (.pointer (some ⟨g, 0, none⟩)) (.int .i64 ((i + 1 : Nat) : Int)) H' n') n' H' (.int .i64 1)) ∨
        ((¬ ∃ q, i + 1 ≤ q ∧ q < nj ∧ JBad js np q) ∧ Ret (b3 (.pointer (some ⟨g, 0, none⟩)) (.int .i64 ((i + 1 : Nat) : Int)) H' n') n' H' (.int .i64 0))) →
      ((∃ q, i ≤ q ∧ q < nj ∧ JBad js np q) ∧ Ret (C63_3 (cal (l + 1)) k m b3 (.pointer (some ⟨g, 0, none⟩)) (.int .i64 i) H n) n H (.int .i64 1)) ∨
      ((¬ ∃ q, i ≤ q ∧ q < nj ∧ JBad js np q) ∧ Ret (C63_3 (cal (l + 1)) k m b3 (.pointer (some ⟨g, 0, none⟩)) (.int .i64 i) H n) n H (.int .i64 0)) := by
    intro b3 m i H n hgn hg hp hj hi him ih
    have hl : loadV P H 23 ⟨g, 0 + 1, none⟩ = some sj := loadV_scalar hg agg23 rfl hj.hole.1 hj.hole.2
    have hlen : lenV P 23 sj = some (.int .i64 nj) := hj.len_eq und23
    unfold C63_3 B63_3
    simp only [fa26_1, bindO_some, addrV_eq, hl, hlen, binK_some bin_lss, ifK_d]
    by_cases hlt : i < nj
    · rw [if_pos (by omega)]
      obtain ⟨bb, o, hix, hbn, hc⟩ := hj.at_ und23 sz104 hlt
      have hlen2 : i * 2 + 2 ≤ js.length := by rw [hj.1]; omega
      obtain ⟨x, y, hx, hy, hxy⟩ := pair_at hlen2
      have hld : loadV P H 104 ⟨bb, o + i * 2, none⟩ = some (.agg ⟨[.int .i64 x, .int .i64 y]⟩) := by
        rw [loadV_agg hc agg104 sz104 (by rw [ints_length]; exact hlen2) (ints_noHole _), hxy]
      simp only [hix, bindO_some, addrV_eq, hld, allocK_eq zero104, ptr, store104, cellsV]
      have hst := storeN_whole (H := H.set n (some (.cells [.int .i64 0, .int .i64 0] 104 false none))) (b := n) (c := [.int .i64 0, .int .i64 0]) (vs := [.int .i64 x, .int .i64 y]) (e := 104) (vec := none) (by rw [Tr.get_set, if_pos rfl]) rfl rfl
      rw [hst]
      have hk : Keep n H ((H.set n (some (.cells [.int .i64 0, .int .i64 0] 104 false none))).set n (some (.cells [.int .i64 x, .int .i64 y] 104 false none))) := keep55
      have hnew := CellsAt.new (H := H.set n (some (.cells [.int .i64 0, .int .i64 0] 104 false none))) (n := n) (vs := [.int .i64 x, .int .i64 y]) (e := 104) (ro := false) (vec := none)
      generalize (H.set n (some (.cells [.int .i64 0, .int .i64 0] 104 false none))).set n (some (.cells [.int .i64 x, .int .i64 y] 104 false none)) = H2 at hk hnew ⊢
      have g2 := hg.keep hk hgn
      have j2 := (hj.keep hk (Nat.le_refl _)).up (show n ≤ n + 1 by omega)
      have l0 : loadV P H2 3 ⟨n, 0 + 0, none⟩ = some (.int .i64 x) := loadV_int hnew agg3 rfl
      have l1 : loadV P H2 3 ⟨n, 0 + 1, none⟩ = some (.int .i64 y) := loadV_int hnew agg3 rfl
      have lp : loadV P H2 22 ⟨g, 0 + 0, none⟩ = some sp := loadV_scalar g2 agg22 rfl hp.hole.1 hp.hole.2
      have lpl : lenV P 22 sp = some (.int .i64 np) := hp.len_eq und22
      have hs : I64 ((np : Int) - 1) := by unfold I64; omega
      have hI : I64 ((i : Int) + 1) := by unfold I64; omega
      have bad : JBad js np i ↔ (¬ (0 ≤ x ∧ x ≤ (np : Int) - 1) ∨ ¬ (0 ≤ y ∧ y ≤ (np : Int) - 1) ∨ x = y ∨ ∃ q, 0 ≤ q ∧ q < i ∧ J js x y q) := by
        unfold JBad
        constructor
        · rintro ⟨a, b, e1, e2, h⟩
          rw [hx] at e1; rw [hy] at e2
          cases e1; cases e2; exact h
        · intro h; exact ⟨x, y, hx, hy, h⟩
      simp only [fa104_0, bindO_some, addrV_eq, l0, fa26_0, lp, lpl, binK_some (bin_sub hs)]
      rw [in_call l]
      have one : JBad js np i → ((∃ q, i ≤ q ∧ q < nj ∧ JBad js np q) ∧ Ret (some (Value.int .i64 1, H2, n + 1)) n H (.int .i64 1)) := fun h => ⟨⟨i, Nat.le_refl _, hlt, h⟩, H2, n + 1, rfl, by omega, hk⟩
      cases c1 : decide (0 ≤ x ∧ x ≤ (np : Int) - 1) with
      | false =>
        simp only [not_f, bindO_some, guardK_tf, guardK_u, pickV_t, ifK_t]
        exact .inl (one (bad.2 (.inl (of_decide_eq_false c1))))
      | true =>
        simp only [not_t, bindO_some, guardK_ff, fa104_1, addrV_eq, l1, fa26_0, lp, lpl, binK_some (bin_sub hs)]
        rw [in_call l]
        cases c2 : decide (0 ≤ y ∧ y ≤ (np : Int) - 1) with
        | false =>
          simp only [not_f, bindO_some, pickV_f, guardK_tf, guardK_u, pickV_t, ifK_t]
          exact .inl (one (bad.2 (.inr (.inl (of_decide_eq_false c2)))))
        | true =>
          simp only [not_t, bindO_some, pickV_f, guardK_ff, fa104_0, fa104_1, addrV_eq, l0, l1, binK_some bin_eql]
          cases c3 : decide (x = y) with
          | true =>
            simp only [ifK_t]
            exact .inl (one (bad.2 (.inr (.inr (.inl (of_decide_eq_true c3))))))
          | false =>
            simp only [ifK_f]
            rcases fault_inner (cal (l + 1)) k m b3 g n nj i x y js sp sj sk m 0 H2 (n + 1) (by omega) (by omega) g2 hnew j2 hlt (by omega) (by omega) hI with ⟨⟨q, q1, q2, q3⟩, H', n', e1, e2, e3⟩ | ⟨hno, H1, n1, e1, e2, e3⟩
            · exact .inl ⟨⟨i, Nat.le_refl _, hlt, bad.2 (.inr (.inr (.inr ⟨q, q1, q2, q3⟩)))⟩, H', n', e1, by omega, hk.trans e3 (by omega)⟩
            · have nb : ¬ JBad js np i := fun h => by
                rcases bad.1 h with h | h | h | h
                · exact h (of_decide_eq_true c1)
                · exact h (of_decide_eq_true c2)
                · exact of_decide_eq_false c3 h
                · exact hno h
              have kk : Keep n H H1 := hk.trans e3 (by omega)
              rcases ih H1 n1 (by omega) kk hlt with ⟨⟨q, q1, q2, q3⟩, H', n', f1, f2, f3⟩ | ⟨hnone, H', n', f1, f2, f3⟩
              · exact .inl ⟨⟨q, by omega, q2, q3⟩, H', n', e1.trans f1, by omega, kk.trans f3 (by omega)⟩
              · refine .inr ⟨fun ⟨q, q1, q2, q3⟩ => ?_, H', n', e1.trans f1, by omega, kk.trans f3 (by omega)⟩
                rcases Nat.eq_or_lt_of_le q1 with z | z
                · subst z; exact nb q3
                · exact hnone ⟨q, z, q2, q3⟩
    · rw [if_neg (by omega)]
      exact .inr ⟨fun ⟨q, h1, h2, _⟩ => by omega, H, n, rfl, Nat.le_refl _, Keep.refl _ _⟩
  intro m
  induction m with
  | zero =>
    intro i H n h1 h2 h3 h4 h5 h6
    exact body _ 0 i H n h1 h2 h3 h4 h5 (by omega) (fun _ _ _ _ h => by omega)
  | succ m ih =>
    intro i H n h1 h2 h3 h4 h5 h6
    exact body _ (m + 1) i H n h1 h2 h3 h4 h5 (by omega) (fun H' n' q1 q2 q3 => ih (i + 1) H' n' (by omega) (h2.keep q2 h1) ((h3.keep q2 (Nat.le_refl _)).up q1) ((h4.keep q2 (Nat.le_refl _)).up q1) (by omega) (by omega))
end Go.Proofs.Ytakjjillnllocaa.spec
namespace Go.Proofs.Ytakjjillnllocaa.spec
open Go.Ev Go.Proofs.Ytakjjillnllocaa.nestFits Go.Proofs.Ytakjjillnllocaa.G
set_option maxRecDepth 100000
theorem agg94 : isAggT P 94 = some true := by kernel_rfl
theorem zero94 : zeroT P 94 = some (.agg #[.int .i64 0, .int .i64 0, .int .i64 0, .int .i64 0, .int .i64 0]) := by kernel_rfl
theorem store94 (H : Hp) (b o : Nat) (v0 v1 v2 v3 v4 : Value) : storeP P 94 (.pointer (some ⟨b, o, none⟩)) (.agg ⟨[v0, v1, v2, v3, v4]⟩) H = storeN H ⟨b, o, none⟩ [v0, v1, v2, v3, v4] := by kernel_rfl
theorem five_at {ks : List Int} {i : Nat} (h : i * 5 + 5 ≤ ks.length) : ((ints ks).drop (i * 5)).take 5 =
    [.int .i64 (ks.getD (i * 5) 0), .int .i64 (ks.getD (i * 5 + 1) 0), .int .i64 (ks.getD (i * 5 + 2) 0), .int .i64 (ks.getD (i * 5 + 3) 0), .int .i64 (ks.getD (i * 5 + 4) 0)] := by
  rw [ints_cut]
  have : (ks.drop (i * 5)).take 5 = [ks.getD (i * 5) 0, ks.getD (i * 5 + 1) 0, ks.getD (i * 5 + 2) 0, ks.getD (i * 5 + 3) 0, ks.getD (i * 5 + 4) 0] := by
    apply List.ext_getElem?
    intro k
    rw [List.getElem?_take]
    match k with
    | 0 => simp [List.getD_eq_getElem?_getD, List.getElem?_eq_getElem (show i * 5 < ks.length by omega)]
    | 1 => simp [List.getD_eq_getElem?_getD, List.getElem?_eq_getElem (show i * 5 + 1 < ks.length by omega)]
    | 2 => simp [List.getD_eq_getElem?_getD, List.getElem?_eq_getElem (show i * 5 + 2 < ks.length by omega)]
    | 3 => simp [List.getD_eq_getElem?_getD, List.getElem?_eq_getElem (show i * 5 + 3 < ks.length by omega)]
    | 4 => simp [List.getD_eq_getElem?_getD, List.getElem?_eq_getElem (show i * 5 + 4 < ks.length by omega)]
    | k + 5 => simp; omega
  rw [this]; rfl
def KBad (ks : List Int) (i : Nat) : Prop := ¬ (0 ≤ ks.getD (i * 5) 0 ∧ ks.getD (i * 5) 0 ≤ 1000) ∨
  ¬ (0 ≤ ks.getD (i * 5 + 1) 0 ∧ ks.getD (i * 5 + 1) 0 ≤ ks.getD (i * 5 + 2) 0 ∧ ks.getD (i * 5 + 2) 0 ≤ 1000) ∨
  ¬ (0 ≤ ks.getD (i * 5 + 3) 0 ∧ ks.getD (i * 5 + 3) 0 ≤ ks.getD (i * 5 + 4) 0 ∧ ks.getD (i * 5 + 4) 0 ≤ 1000)
def Says01 (bad : Prop) (r : Res) (n : Nat) (H : Hp) : Prop := (bad ∧ Ret r n H (.int .i64 1)) ∨ (¬ bad ∧ Ret r n H (.int .i64 0))
theorem fault_kinds (l : Nat) (g np nj nk : Nat) (ps js ks : List Int) (sp sj sk : Value) (hnp : np ≤ 100) (hnj : nj ≤ 100) (hnk : nk ≤ 100) : ∀ (m i : Nat) (H : Hp) (n : Nat), g < n → CellsAt H g 0 [sp, sj, sk] → SliceI H n 2 sp np ps → SliceI H n 2 sj nj js → SliceI H n 5 sk nk ks →
    i ≤ nk → nk - i ≤ m →
    Says01 ((∃ q, i ≤ q ∧ q < nk ∧ KBad ks q) ∨ ∃ q, 0 ≤ q ∧ q < nj ∧ JBad js np q) (S63_2 (cal (l + 2)) KK m (.pointer (some ⟨g, 0, none⟩)) (.int .i64 i) H n) n H := by
  have body : ∀ (b2 : Value → Value → Hp → Nat → Res) (m i : Nat) (H : Hp) (n : Nat), g < n → CellsAt H g 0 [sp, sj, sk] → SliceI H n 2 sp np ps → SliceI H n 2 sj nj js → SliceI H n 5 sk nk ks → i ≤ nk →
      (∀ H' n', n ≤ n' → Keep n H H' → i < nk → Says01 ((∃ q, i + 1 ≤ q ∧ q < nk ∧ KBad ks q) ∨ ∃ q, 0 ≤ q ∧ q < nj ∧ JBad js np q) (b2 (.pointer (some ⟨g, 0, none⟩)) (.int .i64 ((i + 1 : Nat) : Int)) H' n') n' H') →
      Says01 ((∃ q, i ≤ q ∧ q < nk ∧ KBad ks q) ∨ ∃ q, 0 ≤ q ∧ q < nj ∧ JBad js np q) (C63_2 (cal (l + 2)) KK m b2 (.pointer (some ⟨g, 0, none⟩)) (.int .i64 i) H n) n H := by
    intro b2 m i H n hgn hg hp hj hk hi ih
    have hl : loadV P H 24 ⟨g, 0 + 2, none⟩ = some sk := loadV_scalar hg agg24 rfl hk.hole.1 hk.hole.2
    have hlen : lenV P 24 sk = some (.int .i64 nk) := hk.len_eq und24
    unfold C63_2 B63_2
    simp only [fa26_2, bindO_some, addrV_eq, hl, hlen, binK_some bin_lss, ifK_d]
    by_cases hlt : i < nk
    · rw [if_pos (by omega)]
      obtain ⟨bb, o, hix, hbn, hc⟩ := hk.at_ und24 sz94 hlt
      have hlen2 : i * 5 + 5 ≤ ks.length := by rw [hk.1]; omega
      have hld : loadV P H 94 ⟨bb, o + i * 5, none⟩ = some (.agg ⟨[.int .i64 (ks.getD (i * 5) 0), .int .i64 (ks.getD (i * 5 + 1) 0), .int .i64 (ks.getD (i * 5 + 2) 0), .int .i64 (ks.getD (i * 5 + 3) 0), .int .i64 (ks.getD (i * 5 + 4) 0)]⟩) := by
        rw [loadV_agg hc agg94 sz94 (by rw [ints_length]; exact hlen2) (ints_noHole _), five_at hlen2]
      have bad : KBad ks i ↔ (¬ (0 ≤ ks.getD (i * 5) 0 ∧ ks.getD (i * 5) 0 ≤ 1000) ∨ ¬ (0 ≤ ks.getD (i * 5 + 1) 0 ∧ ks.getD (i * 5 + 1) 0 ≤ ks.getD (i * 5 + 2) 0 ∧ ks.getD (i * 5 + 2) 0 ≤ 1000) ∨
        ¬ (0 ≤ ks.getD (i * 5 + 3) 0 ∧ ks.getD (i * 5 + 3) 0 ≤ ks.getD (i * 5 + 4) 0 ∧ ks.getD (i * 5 + 4) 0 ≤ 1000)) := Iff.rfl
      generalize hy : ks.getD (i * 5) 0 = y at *
      generalize h1 : ks.getD (i * 5 + 1) 0 = a1 at *
      generalize h2 : ks.getD (i * 5 + 2) 0 = a2 at *
      generalize h3 : ks.getD (i * 5 + 3) 0 = a3 at *
      generalize h4 : ks.getD (i * 5 + 4) 0 = a4 at *
      simp only [hix, bindO_some, addrV_eq, hld, allocK_eq zero94, ptr, store94, cellsV]
      have hst := storeN_whole (H := H.set n (some (.cells [.int .i64 0, .int .i64 0, .int .i64 0, .int .i64 0, .int .i64 0] 94 false none))) (b := n) (c := [.int .i64 0, .int .i64 0, .int .i64 0, .int .i64 0, .int .i64 0]) (vs := [.int .i64 y, .int .i64 a1, .int .i64 a2, .int .i64 a3, .int .i64 a4]) (e := 94) (vec := none) (by rw [Tr.get_set, if_pos rfl]) rfl rfl
      rw [hst]
      have hkp : Keep n H ((H.set n (some (.cells [.int .i64 0, .int .i64 0, .int .i64 0, .int .i64 0, .int .i64 0] 94 false none))).set n (some (.cells [.int .i64 y, .int .i64 a1, .int .i64 a2, .int .i64 a3, .int .i64 a4] 94 false none))) := keep55
      have hnew := CellsAt.new (H := H.set n (some (.cells [.int .i64 0, .int .i64 0, .int .i64 0, .int .i64 0, .int .i64 0] 94 false none))) (n := n) (vs := [.int .i64 y, .int .i64 a1, .int .i64 a2, .int .i64 a3, .int .i64 a4]) (e := 94) (ro := false) (vec := none)
      generalize (H.set n (some (.cells [.int .i64 0, .int .i64 0, .int .i64 0, .int .i64 0, .int .i64 0] 94 false none))).set n (some (.cells [.int .i64 y, .int .i64 a1, .int .i64 a2, .int .i64 a3, .int .i64 a4] 94 false none)) = H2 at hkp hnew ⊢
      have l0 : loadV P H2 3 ⟨n, 0 + 0, none⟩ = some (.int .i64 y) := loadV_int hnew agg3 rfl
      have l1 : loadV P H2 3 ⟨n, 0 + 1 + 0, none⟩ = some (.int .i64 a1) := loadV_int (k := 1) hnew agg3 rfl
      have l2 : loadV P H2 3 ⟨n, 0 + 1 + 1, none⟩ = some (.int .i64 a2) := loadV_int (k := 2) hnew agg3 rfl
      have l3 : loadV P H2 3 ⟨n, 0 + 3 + 0, none⟩ = some (.int .i64 a3) := loadV_int (k := 3) hnew agg3 rfl
      have l4 : loadV P H2 3 ⟨n, 0 + 3 + 1, none⟩ = some (.int .i64 a4) := loadV_int (k := 4) hnew agg3 rfl
      have hI : I64 ((i : Int) + 1) := by unfold I64; omega
      have hcast : ((i : Int) + 1) = ((i + 1 : Nat) : Int) := by omega
      simp only [fa94_0, bindO_some, addrV_eq, l0]
      rw [in_call (l + 1)]
      have one : KBad ks i → Says01 ((∃ q, i ≤ q ∧ q < nk ∧ KBad ks q) ∨ ∃ q, 0 ≤ q ∧ q < nj ∧ JBad js np q) (some (Value.int .i64 1, H2, n + 1)) n H := fun h => .inl ⟨.inl ⟨i, Nat.le_refl _, hlt, h⟩, H2, n + 1, rfl, by omega, hkp⟩
      cases c1 : decide (0 ≤ y ∧ y ≤ 1000) with
      | false =>
        simp only [not_f, bindO_some, guardK_tf, guardK_u, pickV_t, ifK_t]
        exact one (bad.2 (.inl (of_decide_eq_false c1)))
      | true =>
        simp only [not_t, bindO_some, guardK_ff, fa94_1, fa55_0, fa55_1, addrV_eq, l1, l2]
        rw [span_call l]
        cases c2 : decide (0 ≤ a1 ∧ a1 ≤ a2 ∧ a2 ≤ 1000) with
        | false =>
          simp only [not_f, bindO_some, pickV_f, guardK_tf, guardK_u, pickV_t, ifK_t]
          exact one (bad.2 (.inr (.inl (of_decide_eq_false c2))))
        | true =>
          simp only [not_t, bindO_some, pickV_f, guardK_ff, fa94_2, fa55_0, fa55_1, addrV_eq, l3, l4]
          rw [span_call l]
          cases c3 : decide (0 ≤ a3 ∧ a3 ≤ a4 ∧ a4 ≤ 1000) with
          | false =>
            simp only [not_f, bindO_some, pickV_f, ifK_t]
            exact one (bad.2 (.inr (.inr (of_decide_eq_false c3))))
          | true =>
            simp only [not_t, bindO_some, pickV_f, ifK_f, binK_some (bin_add hI), hcast]
            have nb : ¬ KBad ks i := fun h => by
              rcases bad.1 h with h | h | h
              · exact h (of_decide_eq_true c1)
              · exact h (of_decide_eq_true c2)
              · exact h (of_decide_eq_true c3)
            rcases ih H2 (n + 1) (by omega) hkp hlt with ⟨h, H', n', f1, f2, f3⟩ | ⟨h, H', n', f1, f2, f3⟩
            · refine .inl ⟨?_, H', n', f1, by omega, hkp.trans f3 (by omega)⟩
              rcases h with ⟨q, q1, q2, q3⟩ | h
              · exact .inl ⟨q, by omega, q2, q3⟩
              · exact .inr h
            · refine .inr ⟨?_, H', n', f1, by omega, hkp.trans f3 (by omega)⟩
              rintro (⟨q, q1, q2, q3⟩ | h')
              · rcases Nat.eq_or_lt_of_le q1 with z | z
                · subst z; exact nb q3
                · exact h (.inl ⟨q, z, q2, q3⟩)
              · exact h (.inr h')
    · rw [if_neg (by omega)]
      rcases fault_joins (l + 1) KK g np nj nk ps js ks sp sj sk hnp hnj KK 0 H n hgn hg hp hj (by omega) (by unfold KK; omega) with ⟨h1, h2⟩ | ⟨h1, h2⟩
      · exact .inl ⟨.inr h1, h2⟩
      · refine .inr ⟨?_, h2⟩
        rintro (⟨q, q1, q2, _⟩ | h)
        · omega
        · exact h1 h
  intro m
  induction m with
  | zero =>
    intro i H n h1 h2 h3 h4 h5 h6 h7
    exact body _ 0 i H n h1 h2 h3 h4 h5 h6 (fun _ _ _ _ h => by omega)
  | succ m ih =>
    intro i H n h1 h2 h3 h4 h5 h6 h7
    exact body _ (m + 1) i H n h1 h2 h3 h4 h5 h6 (fun H' n' q1 q2 q3 => ih (i + 1) H' n' (by omega) (h2.keep q2 h1) ((h3.keep q2 (Nat.le_refl _)).up q1) ((h4.keep q2 (Nat.le_refl _)).up q1) ((h5.keep q2 (Nat.le_refl _)).up q1) (by omega) (by omega))
end Go.Proofs.Ytakjjillnllocaa.spec
