import Derived.Test.YtakjjillnllocaaN4
import Derived.Test.YtakjjillnllocaaEv41
namespace Go.Proofs.Ytakjjillnllocaa.spec
open Go Go.Ev Go.Proofs.Ytakjjillnllocaa.nestFits Go.Proofs.Ytakjjillnllocaa.G
set_option maxRecDepth 100000
variable {ρ : Type}
def ListR (H : Hp) (n : Nat) (v : Value) (len : Nat) (xs : List Int) : Prop := xs.length = len ∧ (∀ x ∈ xs, I64 x) ∧
  ((v = .slice none 0 0 ∧ len = 0) ∨ ∃ b o cap, v = .slice (some ⟨b, o, none⟩) len cap ∧ b < n ∧ CellsAt H b o (ints xs))
theorem ListR.keep {H H' : Hp} {n m len : Nat} {v : Value} {xs : List Int} (h : ListR H n v len xs) (hk : Keep n H H') (hm : n ≤ m) : ListR H' m v len xs := by
  obtain ⟨h1, h2, h3⟩ := h
  refine ⟨h1, h2, ?_⟩
  rcases h3 with h3 | ⟨b, o, cap, e, a, c⟩
  · exact .inl h3
  · exact .inr ⟨b, o, cap, e, by omega, c.keep hk a⟩
theorem ListR.nil {H : Hp} {n len : Nat} {v : Value} {xs : List Int} (h : ListR H n v len xs) (hp : pureV v = true) : ListR .nil 0 v len xs := by
  obtain ⟨h1, h2, h3⟩ := h
  refine ⟨h1, h2, ?_⟩
  rcases h3 with h3 | ⟨b, o, cap, e, a, c⟩
  · exact .inl h3
  · subst e; simp [pureV] at hp
theorem und44 : P.underlying 44 = some (.slice 3) := by kernel_rfl
theorem sl44 : sliceElem P 44 = some 3 := by kernel_rfl
theorem sz3 : szT P 3 = some 1 := by kernel_rfl
theorem by3 : bytesT P 3 = some 8 := by kernel_rfl
theorem zero3 : zeroT P 3 = some (.int .i64 0) := by kernel_rfl
theorem ListR.len_eq {H : Hp} {n len : Nat} {v : Value} {xs : List Int} (h : ListR H n v len xs) : lenV P 44 v = some (.int .i64 len) := by
  rcases h.2.2 with ⟨rfl, rfl⟩ | ⟨b, o, cap, rfl, _⟩
  · unfold lenV; simp only [und44]; rfl
  · unfold lenV; simp only [und44]; rfl
theorem ListR.at_ {H : Hp} {n len : Nat} {v : Value} {xs : List Int} (h : ListR H n v len xs) {i : Nat} (hi : i < len) :
    ∃ b o, indexAddrV P 44 v (.int .i64 i) = some (.pointer (some ⟨b, o, none⟩)) ∧ b < n ∧ loadV P H 3 ⟨b, o, none⟩ = some (.int .i64 (xs.getD i 0)) := by
  rcases h.2.2 with ⟨rfl, rfl⟩ | ⟨b, o, cap, rfl, a, c⟩
  · omega
  · refine ⟨b, o + i, ?_, a, ?_⟩
    · unfold indexAddrV
      simp only [und44, idx_lt hi, sz3]
      simp [addA]
    · exact loadV_int c agg3 (ints_get (getD_some (by rw [h.1]; exact hi)))
theorem ListR.src {H : Hp} {n len : Nat} {v : Value} {xs : List Int} (h : ListR H n v len xs) : srcCells H 1 v = some (ints xs, len) := by
  obtain ⟨h1, _, h3⟩ := h
  rcases h3 with ⟨rfl, rfl⟩ | ⟨b, o, cap, rfl, a, c⟩
  · have : xs = [] := List.length_eq_zero_iff.1 h1
    subst this; rfl
  · unfold srcCells
    simp only [loadN_all c (ints_noHole _) (show (ints xs).length = len * 1 by rw [ints_length, h1, Nat.mul_one])]
theorem VecAt.list {H : Hp} {n0 n len : Nat} {e : TypeId} {v : Value} {xs : List Int} (h : VecAt H n0 n 1 e v len xs) (hx : ∀ x ∈ xs, I64 x) : ListR H n v len xs := by
  obtain ⟨h1, h2⟩ := h
  refine ⟨by omega, hx, ?_⟩
  rcases h2 with h2 | ⟨b, e, a1, a2, a3, a4⟩
  · exact .inl h2
  · exact .inr ⟨b, 0, capV, e, a2, cells_at a4⟩
theorem row44_0 : rowOf P 44 0 [] = some ([], 3) := by kernel_rfl
theorem list_spec (c : Cal) (k : Nat) {H : Hp} {n len : Nat} {v : Value} {xs : List Int} (h : ListR H n v len xs) (hlen : len ≤ 1000) :
    ∃ u H' n', C23_0 c k v H n = some (u, H', n') ∧ n ≤ n' ∧ Keep n H H' ∧ ListR H' n' u len xs := by
  unfold C23_0 B23_0 rowK
  rw [row44_0, bindO_some]
  unfold newK
  dsimp only
  have hk : Keep n H (H.set n (some (.cells [] 3 false none))) := (Keep.refl n H).set (Nat.le_refl _) _
  have hg : (H.set n (some (.cells [] 3 false none))).get n = some (.cells [] 3 false none) := by rw [Tr.get_set, if_pos rfl]
  have h1 := h.keep hk (show n ≤ n + 1 by omega)
  generalize H.set n (some (.cells [] 3 false none)) = H1 at hk hg h1 ⊢
  have hold : loadN H1 ⟨n, 0, none⟩ (0 * 1) = some [] := loadN_all (L := []) (cells_at hg) rfl rfl
  have hbig : bigOk (0 + len) 1 8 = true := by unfold bigOk; simp; omega
  have hb1 : Nat.beq (cellsV (.int .i64 0)).length 1 = true := rfl
  have c0 : Nat.blt 0 capV = true := by decide +kernel
  by_cases h0 : len = 0
  · subst h0
    have hx : xs = [] := List.length_eq_zero_iff.1 h.1
    subst hx
    have ha : appendV P (bare H1 (n + 1)) 44 44 (.slice (some ⟨n, 0, none⟩) 0 0) v = some (.slice (some ⟨n, 0, none⟩) 0 0, bare (H1.set n (some (.cells [] 3 false none))) (n + 1)) := by
      unfold appendV
      have hs : srcCells (bare H1 (n + 1)).H 1 v = some ([], 0) := h1.src
      have hold' : loadN (bare H1 (n + 1)).H ⟨n, 0, none⟩ (0 * 1) = some [] := hold
      simp only [sl44, sz3, by3, zero3, hs, hb1, hold', hbig]
      unfold appendTo
      have hst : storeN (bare H1 (n + 1)).H (addA ⟨n, 0, none⟩ (0 * 1)) [] = some (H1.set n (some (.cells [] 3 false none))) := by
        unfold storeN
        simp only [addA, bare, hg]
        rfl
      have c1 : Nat.ble (0 + 0) 0 = true := rfl
      simp only [c0, c1, hst]
      rfl
    unfold stK
    dsimp only
    rw [ha, bindO_some]
    dsimp only [bare]
    exact ⟨_, _, _, rfl, by omega, hk.set (Nat.le_refl _) _, rfl, h.2.1, .inr ⟨n, 0, 0, rfl, Nat.lt_succ_self _, _, [], by rw [Tr.get_set, if_pos rfl], rfl, fun k v h => by simp [ints] at h⟩⟩
  · have ha : appendV P (bare H1 (n + 1)) 44 44 (.slice (some ⟨n, 0, none⟩) 0 0) v = some (.slice (some ⟨n + 1, 0, none⟩) len capV, bare (H1.set (n + 1) (some (.cells (ints xs) 3 false (some 1)))) (n + 1 + 1)) := by
      unfold appendV
      have hs : srcCells (bare H1 (n + 1)).H 1 v = some (ints xs, len) := h1.src
      have hold' : loadN (bare H1 (n + 1)).H ⟨n, 0, none⟩ (0 * 1) = some [] := hold
      simp only [sl44, sz3, by3, zero3, hs, hb1, hold', hbig]
      unfold appendTo
      have c1 : Nat.ble len 0 = false := by
        cases len with
        | zero => exact absurd rfl h0
        | succ m => rfl
      simp only [c0, c1, growV, bare, pushB, List.nil_append, Nat.zero_add]
    unfold stK
    dsimp only
    rw [ha, bindO_some]
    dsimp only [bare]
    exact ⟨_, _, _, rfl, by omega, hk.set (by omega) _, h.1, h.2.1, .inr ⟨n + 1, 0, capV, rfl, Nat.lt_succ_self _, _, ints xs, by rw [Tr.get_set, if_pos rfl], rfl, fun k v h => by simpa using h⟩⟩
theorem call23 (l : Nat) (a : Value) (H : Hp) (n : Nat) : (cal (l + 1)).call 23 [a] H n = C23_0 (cal l) KK a H n := by kernel_rfl
theorem flat23 : flatF P 23 = false := by kernel_rfl
theorem list_call (l : Nat) {H : Hp} {n len : Nat} {v : Value} {xs : List Int} (h : ListR H n v len xs) (hlen : len ≤ 1000) :
    ∃ u H' n', (∀ k : Value → Hp → Nat → Option ρ, callFK P (cal (l + 1)) 23 [v] H n k = k u H' n') ∧ n ≤ n' ∧ Keep n H H' ∧ ListR H' n' u len xs := by
  obtain ⟨u, H', n', e, h1, h2, h3⟩ := list_spec (cal l) KK h hlen
  refine ⟨u, H', n', fun k => ?_, h1, h2, h3⟩
  unfold callFK
  rw [flat23, call23, e]
  rfl
theorem ints_loop (c : Cal) (k : Nat) {H : Hp} {n len : Nat} {u v : Value} {xs ys : List Int} (hu : ListR H n u len xs) (hv : ListR H n v len ys) (hlen : len ≤ 1000) : ∀ (m i : Nat), i ≤ len → len - i ≤ m →
    ∃ r, S30_1 c k m u v (.int .i64 i) H n = some (.bool r, H, n) ∧ (r = true ↔ ∀ q, i ≤ q → q < len → xs.getD q 0 = ys.getD q 0) := by
  have body : ∀ (b1 : Value → Value → Value → Hp → Nat → Res) (m i : Nat), i ≤ len → (i < len → ∃ r, b1 u v (.int .i64 ((i + 1 : Nat) : Int)) H n = some (.bool r, H, n) ∧ (r = true ↔ ∀ q, i + 1 ≤ q → q < len → xs.getD q 0 = ys.getD q 0)) →
      ∃ r, C30_1 c k m b1 u v (.int .i64 i) H n = some (.bool r, H, n) ∧ (r = true ↔ ∀ q, i ≤ q → q < len → xs.getD q 0 = ys.getD q 0) := by
    intro b1 m i hi ih
    unfold C30_1 B30_1
    rw [hu.len_eq, bindO_some, binK_some bin_lss, ifK_d]
    by_cases hlt : i < len
    · rw [if_pos (by omega)]
      obtain ⟨b1', o1, x1, _, x3⟩ := hu.at_ hlt
      obtain ⟨b2', o2, y1, _, y3⟩ := hv.at_ hlt
      rw [x1, bindO_some, addrV_eq, bindO_some, x3, bindO_some, y1, bindO_some, addrV_eq, bindO_some, y3, bindO_some, binK_some bin_neq]
      cases hd : decide (xs.getD i 0 = ys.getD i 0) with
      | false =>
        rw [Bool.not_false, ifK_t]
        exact ⟨false, rfl, ⟨fun h => (by cases h), fun h => absurd (h i (Nat.le_refl _) hlt) (of_decide_eq_false hd)⟩⟩
      | true =>
        have hI : I64 ((i : Int) + 1) := by unfold I64; omega
        have hcast : ((i : Int) + 1) = ((i + 1 : Nat) : Int) := by omega
        rw [Bool.not_true, ifK_f, binK_some (bin_add hI), hcast]
        obtain ⟨r, e, h⟩ := ih hlt
        refine ⟨r, e, h.trans ⟨fun g q q1 q2 => ?_, fun g q q1 q2 => g q (by omega) q2⟩⟩
        rcases Nat.eq_or_lt_of_le q1 with z | z
        · subst z; exact of_decide_eq_true hd
        · exact g q z q2
    · rw [if_neg (by omega)]
      exact ⟨true, rfl, ⟨fun _ q q1 q2 => by omega, fun _ => rfl⟩⟩
  intro m
  induction m with
  | zero => intro i h1 h2; exact body _ 0 i h1 (fun h => by omega)
  | succ m ih => intro i h1 h2; exact body _ (m + 1) i h1 (fun h => ih (i + 1) (by omega) (by omega))
theorem ints_spec (c : Cal) {H : Hp} {n l1 l2 : Nat} {u v : Value} {xs ys : List Int} (hu : ListR H n u l1 xs) (hv : ListR H n v l2 ys) (h1 : l1 ≤ 1000) :
    ∃ r, C30_0 c KK u v H n = some (.bool r, H, n) ∧ (r = true ↔ xs = ys) := by
  unfold C30_0 B30_0
  generalize hS : S30_1 c KK KK = S
  rw [hu.len_eq, bindO_some, hv.len_eq, bindO_some, binK_some bin_neq]
  have lx := hu.1
  have ly := hv.1
  cases hd : decide ((l1 : Int) = (l2 : Int)) with
  | false =>
    rw [Bool.not_false, ifK_t]
    refine ⟨false, rfl, ⟨fun h => (by cases h), fun h => ?_⟩⟩
    subst h
    exact absurd (by omega) (of_decide_eq_false hd)
  | true =>
    have e : l1 = l2 := by have := of_decide_eq_true hd; omega
    subst e
    rw [Bool.not_true, ifK_f, ← hS]
    obtain ⟨r, e, h⟩ := ints_loop c KK hu hv h1 KK 0 (by omega) (by unfold KK; omega)
    refine ⟨r, e, h.trans ⟨fun g => ?_, fun g q _ _ => by rw [g]⟩⟩
    apply List.ext_getElem?
    intro q
    by_cases hq : q < l1
    · rw [getD_some (by omega), getD_some (by omega), g q (Nat.zero_le _) hq]
    · rw [List.getElem?_eq_none (by omega), List.getElem?_eq_none (by omega)]
theorem call30 (l : Nat) (a b : Value) (H : Hp) (n : Nat) : (cal (l + 1)).call 30 [a, b] H n = C30_0 (cal l) KK a b H n := by kernel_rfl
theorem ints_call (l : Nat) {H : Hp} {n l1 l2 : Nat} {u v : Value} {xs ys : List Int} (hu : ListR H n u l1 xs) (hv : ListR H n v l2 ys) (h1 : l1 ≤ 1000) :
    ∃ (r : Bool) (H' : Hp) (n' : Nat), (r = true ↔ xs = ys) ∧ (∀ k : Value → Hp → Nat → Option ρ, callFK P (cal (l + 1)) 30 [u, v] H n k = k (.bool r) H' n') ∧ n ≤ n' ∧ Keep n H H' := by
  obtain ⟨r, H', n', ⟨b, rfl, hb⟩, e1, e2, e3⟩ := callFK_spec (ρ := ρ) (P := P) (cal := cal (l + 1)) (f := 30) (args := [u, v]) (H := H) (n := n)
    (Pre := fun H n => ListR H n u l1 xs ∧ ListR H n v l2 ys) (Q := fun r => ∃ b : Bool, r = .bool b ∧ (b = true ↔ xs = ys))
    (fun H n h => by
      obtain ⟨r, e, h2⟩ := ints_spec (cal l) h.1 h.2 h1
      exact ⟨.bool r, ⟨H, n, by rw [call30]; exact e, Nat.le_refl _, Keep.refl _ _⟩, r, rfl, h2⟩) (fun r ⟨b, e, _⟩ _ => by subst e; rfl) ⟨hu, hv⟩ (fun hp => by
        simp only [pureL, Bool.and_eq_true] at hp
        exact ⟨hu.nil hp.1, hv.nil hp.2.1⟩)
  exact ⟨b, H', n', hb, e1, e2, e3⟩
end Go.Proofs.Ytakjjillnllocaa.spec
namespace Go.Proofs.Ytakjjillnllocaa.spec
open Go Go.Ev Go.Proofs.Ytakjjillnllocaa.nestFits Go.Proofs.Ytakjjillnllocaa.G
set_option maxRecDepth 100000
variable {ρ : Type}
theorem und121 : P.underlying 121 = some (.array 8 3) := by kernel_rfl
theorem agg121 : isAggT P 121 = some true := by kernel_rfl
theorem sz121 : szT P 121 = some 8 := by kernel_rfl
theorem zero121 : zeroT P 121 = some (.agg ⟨ints (List.replicate 8 0)⟩) := by kernel_rfl
theorem build121 : buildP P 121 [] = some (.agg ⟨ints (List.replicate 8 0)⟩) := by kernel_rfl
theorem slice121 (b : Nat) : sliceV P 121 (.pointer (some ⟨b, 0, none⟩)) none none = some (.slice (some ⟨b, 0, none⟩) 8 8) := by kernel_rfl
noncomputable def valR (r : Res) : Option Value := match r with
  | some (v, _, _) => some v
  | none => none
theorem valR_some {r : Res} {v : Value} (h : valR r = some v) : ∃ H n, r = some (v, H, n) := by
  unfold valR at h
  split at h
  · cases h; exact ⟨_, _, rfl⟩
  · cases h
theorem bare_run (c : Cal) : valR (C101_0 c KK .nil 0) = some (.agg ⟨ints (List.replicate 8 (-1))⟩) := by kernel_rfl
theorem flat101 : flatF P 101 = true := by kernel_rfl
theorem call101 (l : Nat) (H : Hp) (n : Nat) : (cal (l + 1)).call 101 [] H n = C101_0 (cal l) KK H n := by kernel_rfl
theorem bare_call (l : Nat) (H : Hp) (n : Nat) (k : Value → Hp → Nat → Option ρ) : callFK P (cal (l + 1)) 101 [] H n k = k (.agg ⟨ints (List.replicate 8 (-1))⟩) H n := by
  obtain ⟨H', n', e⟩ := valR_some (bare_run (cal l))
  refine callFK_pure flat101 rfl ((call101 ..).trans e) ?_
  simp only [pureV, pureA, pure_ints]
def takesP (js ks : List Int) (nj np nk p : Nat) (kind : Int) : Prop := 0 ≤ kind ∧ kind < nk ∧ fitD js ks nj np p kind.toNat = true
theorem takes_spec (l : Nat) {H : Hp} {n g np nj nk p : Nat} {f : Nat → Value} {js ks : List Int} {x y z : Value} (hf : CellsF H g 859 117 f) (hs : SiteF f x y z js nj) (hz : lenV P 33 z = some (.int .i64 nk)) (hn : ∀ p kd, p < np → kd < nk → NestAt f js ks nj np p kd) (hks : KindsOk ks nk) (hnp : np ≤ 8) (hnk : nk ≤ 3) (hp : p < np) (kind : Int) :
    ∃ r, C102_0 (cal (l + 3)) KK (.pointer (some ⟨g, 0, none⟩)) (.int .i64 p) (.int .i64 kind) H n = some (.bool r, H, n) ∧ (r = true ↔ takesP js ks nj np nk p kind) := by
  unfold C102_0 B102_0
  have lz : loadV P H 33 ⟨g, 0 + 0 + 2, none⟩ = some z := by
    have := hf.load (P := P) (k := 2) agg33 (by omega)
    rw [hs.z] at this; exact this
  rw [binK_some bin_geq]
  unfold takesP
  cases c1 : decide (0 ≤ kind) with
  | false =>
    simp only [guardK_ft, guardK_u, pickV_f, bindO_some]
    exact ⟨false, rfl, ⟨fun h => (by cases h), fun h => absurd h.1 (of_decide_eq_false c1)⟩⟩
  | true =>
    have h0 := of_decide_eq_true c1
    simp only [guardK_tt, nil_ptr, bindO_some, fa117_0, fa35_2, addrV_eq, lz, hz, binK_some bin_lss, pickV_t]
    cases c2 : decide (kind < (nk : Int)) with
    | false =>
      simp only [guardK_ft, guardK_u, pickV_f, bindO_some]
      exact ⟨false, rfl, ⟨fun h => (by cases h), fun h => absurd h.2.1 (of_decide_eq_false c2)⟩⟩
    | true =>
      have h1 := of_decide_eq_true c2
      obtain ⟨kd, rfl⟩ : ∃ kd : Nat, kind = kd := ⟨kind.toNat, by omega⟩
      have hkd : kd < nk := by omega
      obtain ⟨B, hB, ln⟩ := nest_load hf (hn p kd hp hkd) (by omega) (by omega)
      simp only [guardK_tt, nil_ptr, bindO_some, fa117_2, at115 _ _ (show p < 8 by omega), at114 _ _ (show kd < 3 by omega), addrV_eq, ln, fit_call l (shP_len ..) hB.1 (shP_bounded hks hkd hnp hp), pickV_t]
      refine ⟨_, rfl, ?_⟩
      have e : fitD js ks nj np p (kd : Int).toNat = fitD js ks nj np p kd := by rw [Int.toNat_natCast]
      rw [e]
      unfold fitD
      exact ⟨fun h => ⟨h0, h1, h⟩, fun h => h.2.2⟩
theorem call102 (l : Nat) (a b c : Value) (H : Hp) (n : Nat) : (cal (l + 1)).call 102 [a, b, c] H n = C102_0 (cal l) KK a b c H n := by kernel_rfl
theorem takes_call (l : Nat) {H : Hp} {n g np nj nk p : Nat} {f : Nat → Value} {js ks : List Int} {x y z : Value} (hf : CellsF H g 859 117 f) (hs : SiteF f x y z js nj) (hz : lenV P 33 z = some (.int .i64 nk)) (hn : ∀ p kd, p < np → kd < nk → NestAt f js ks nj np p kd) (hks : KindsOk ks nk) (hnp : np ≤ 8) (hnk : nk ≤ 3) (hp : p < np) (kind : Int) :
    ∃ r : Bool, (r = true ↔ takesP js ks nj np nk p kind) ∧ ∀ k : Value → Hp → Nat → Option ρ, callFK P (cal (l + 4)) 102 [.pointer (some ⟨g, 0, none⟩), .int .i64 p, .int .i64 kind] H n k = k (.bool r) H n := by
  obtain ⟨r, e, h⟩ := takes_spec l (n := n) hf hs hz hn hks hnp hnk hp kind
  refine ⟨r, h, fun k => ?_⟩
  unfold callFK
  have : (flatF P 102 && pureL [.pointer (some ⟨g, 0, none⟩), .int .i64 p, .int .i64 kind]) = false := by rw [Bool.and_eq_false_iff]; exact .inr rfl
  rw [this, call102, e]
  rfl
theorem results65_eq : results65 = [.tmp 4, .cell 5 121, .tmp 6] := by kernel_rfl
theorem res65 {H : Hp} {b : Nat} {v : Value} (p e : Value) (h : loadV P H 121 ⟨b, 0, none⟩ = some v) : resV P (Tr.set (Tr.set (Tr.set Tr.nil 6 (some e)) 5 (some (.pointer (some ⟨b, 0, none⟩)))) 4 (some p)) H results65 = some [p, v, e] := by
  rw [results65_eq]
  simp [resV, Tr.get_set, h]
theorem index121 {L : List Int} (hL : L.length = 8) {i : Nat} (hi : i < 8) : indexV P 121 (.agg ⟨ints L⟩) (.int .i64 i) = some (.int .i64 (L.getD i 0)) := by
  unfold indexV
  have a3 : isAggT P 3 = some false := agg3
  simp only [und121, idx_lt hi, sz3, partV, a3]
  rw [Nat.mul_one]
  exact ints_get (getD_some (by omega))
def laidL (ls : List Int) (np : Nat) : List Int := ls ++ List.replicate (8 - np) (-1)
theorem laidL_len {ls : List Int} {np : Nat} (h : ls.length = np) (hnp : np ≤ 8) : (laidL ls np).length = 8 := by unfold laidL; simp [h]; omega
theorem laidL_in {ls : List Int} {np p : Nat} (h : ls.length = np) (hp : p < np) : (laidL ls np).getD p 0 = ls.getD p 0 := by
  unfold laidL
  rw [List.getD_eq_getElem?_getD, List.getElem?_append_left (by omega), ← List.getD_eq_getElem?_getD]
theorem laidL_out {ls : List Int} {np p : Nat} (h : ls.length = np) (hp : np ≤ p) (hp8 : p < 8) : (laidL ls np).getD p 0 = -1 := by
  unfold laidL
  rw [List.getD_eq_getElem?_getD, List.getElem?_append_right (by omega), List.getElem?_replicate, if_pos (by omega)]
  rfl
def laidOk (js ks ls : List Int) (nj np nk : Nat) : Prop := ∀ p, p < np → ls.getD p 0 = -1 ∨ takesP js ks nj np nk p (ls.getD p 0)
theorem splice_ints : ∀ {L X : List Int}, L.length ≤ X.length → splice.over (ints X) (ints L) = some (ints (L ++ X.drop L.length))
  | [], X, _ => by cases X <;> simp [ints, splice.over]
  | a :: L, [], h => by simp at h
  | a :: L, x :: X, h => by
    have ih := splice_ints (L := L) (X := X) (by simpa using h)
    simp only [ints, List.map_cons, splice.over] at ih ⊢
    rw [ih]
    simp
theorem copy_row {H : Hp} {n b np : Nat} {w : Value} {ls X : List Int} {e : TypeId} (hw : ListR H n w np ls) (h1 : 0 < np) (h8 : np ≤ 8) (hX : X.length = 8) (hg : H.get b = some (.cells (ints X) e false none)) :
    copyV P (bare H n) 44 (.slice (some ⟨b, 0, none⟩) 8 8) w = some (.int .i64 np, bare (H.set b (some (.cells (ints (ls ++ X.drop np)) e false none))) n) := by
  obtain ⟨hl, _, hw⟩ := hw
  rcases hw with ⟨_, h0⟩ | ⟨rb, ro, cap, rfl, hr, hc⟩
  · omega
  have hmin' : Nat.min np 8 = np := Nat.min_eq_left h8
  have hld : loadN H ⟨rb, ro, none⟩ (np * 1) = some (ints ls) := loadN_all hc (ints_noHole _) (by rw [ints_length, hl, Nat.mul_one])
  have hsp : splice (ints X) 0 (ints ls) = some (ints (ls ++ X.drop ls.length)) := by
    unfold splice
    exact splice_ints (by omega)
  have hst : storeN H ⟨b, 0, none⟩ (ints ls) = some (H.set b (some (.cells (ints (ls ++ X.drop np)) e false none))) := by
    unfold storeN
    simp only [hg, ints_leaf, if_true, hsp, hl]
  unfold copyV
  simp only [sl44, sz3, bare, hmin', hld, hst]
  rfl
theorem openLaid_loop (l k : Nat) {H : Hp} {n g np nj nk b5 b9 : Nat} {f : Nat → Value} {js ks ls : List Int} {x y z : Value} (hf : CellsF H g 859 117 f) (hs : SiteF f x y z js nj) (hz : lenV P 33 z = some (.int .i64 nk)) (hn : ∀ p kd, p < np → kd < nk → NestAt f js ks nj np p kd) (hks : KindsOk ks nk) (hnp : np ≤ 8) (hnk : nk ≤ 3)
    (hls : ls.length = np) (h5 : ∃ w, H.get b5 = some (.cells w 121 false none) ∧ w.length = 8) (h9 : H.get b9 = some (.cells (ints (laidL ls np)) 121 false none)) (hne : b5 ≠ b9) : ∀ (m i : Nat), i ≤ 8 → 8 - i ≤ m →
    ((∃ p, i ≤ p ∧ p < np ∧ ¬ (ls.getD p 0 = -1 ∨ takesP js ks nj np nk p (ls.getD p 0))) ∧ ∃ H', S65_1 (cal (l + 4)) k m (.pointer (some ⟨b5, 0, none⟩)) (.pointer (some ⟨g, 0, none⟩)) (.pointer (some ⟨b9, 0, none⟩)) (.agg ⟨ints (laidL ls np)⟩) (.int .i64 i) H n = some (.tuple ⟨[.pointer none, .agg ⟨ints (List.replicate 8 0)⟩, .int .i64 2]⟩, H', n) ∧ ∀ b, b ≠ b5 → H'.get b = H.get b) ∨
    ((∀ p, i ≤ p → p < np → ls.getD p 0 = -1 ∨ takesP js ks nj np nk p (ls.getD p 0)) ∧ ∃ H', S65_1 (cal (l + 4)) k m (.pointer (some ⟨b5, 0, none⟩)) (.pointer (some ⟨g, 0, none⟩)) (.pointer (some ⟨b9, 0, none⟩)) (.agg ⟨ints (laidL ls np)⟩) (.int .i64 i) H n = some (.tuple ⟨[.pointer (some ⟨g, 0, none⟩), .agg ⟨ints (laidL ls np)⟩, .int .i64 0]⟩, H', n) ∧ ∀ b, b ≠ b5 → H'.get b = H.get b) := by
  obtain ⟨w5, h5, hw5⟩ := h5
  have body : ∀ (b1 : Value → Value → Value → Value → Value → Hp → Nat → Res) (m i : Nat), i ≤ 8 →
      (i < 8 → ((∃ p, i + 1 ≤ p ∧ p < np ∧ ¬ (ls.getD p 0 = -1 ∨ takesP js ks nj np nk p (ls.getD p 0))) ∧ ∃ H', b1 (.pointer (some ⟨b5, 0, none⟩)) (.pointer (some ⟨g, 0, none⟩)) (.pointer (some ⟨b9, 0, none⟩)) (.agg ⟨ints (laidL ls np)⟩) (.int .i64 ((i + 1 : Nat) : Int)) H n = some (.tuple ⟨[.pointer none, .agg ⟨ints (List.replicate 8 0)⟩, .int .i64 2]⟩, H', n) ∧ ∀ b, b ≠ b5 → H'.get b = H.get b) ∨
        ((∀ p, i + 1 ≤ p → p < np → ls.getD p 0 = -1 ∨ takesP js ks nj np nk p (ls.getD p 0)) ∧ ∃ H', b1 (.pointer (some ⟨b5, 0, none⟩)) (.pointer (some ⟨g, 0, none⟩)) (.pointer (some ⟨b9, 0, none⟩)) (.agg ⟨ints (laidL ls np)⟩) (.int .i64 ((i + 1 : Nat) : Int)) H n = some (.tuple ⟨[.pointer (some ⟨g, 0, none⟩), .agg ⟨ints (laidL ls np)⟩, .int .i64 0]⟩, H', n) ∧ ∀ b, b ≠ b5 → H'.get b = H.get b)) →
      ((∃ p, i ≤ p ∧ p < np ∧ ¬ (ls.getD p 0 = -1 ∨ takesP js ks nj np nk p (ls.getD p 0))) ∧ ∃ H', C65_1 (cal (l + 4)) k m b1 (.pointer (some ⟨b5, 0, none⟩)) (.pointer (some ⟨g, 0, none⟩)) (.pointer (some ⟨b9, 0, none⟩)) (.agg ⟨ints (laidL ls np)⟩) (.int .i64 i) H n = some (.tuple ⟨[.pointer none, .agg ⟨ints (List.replicate 8 0)⟩, .int .i64 2]⟩, H', n) ∧ ∀ b, b ≠ b5 → H'.get b = H.get b) ∨
      ((∀ p, i ≤ p → p < np → ls.getD p 0 = -1 ∨ takesP js ks nj np nk p (ls.getD p 0)) ∧ ∃ H', C65_1 (cal (l + 4)) k m b1 (.pointer (some ⟨b5, 0, none⟩)) (.pointer (some ⟨g, 0, none⟩)) (.pointer (some ⟨b9, 0, none⟩)) (.agg ⟨ints (laidL ls np)⟩) (.int .i64 i) H n = some (.tuple ⟨[.pointer (some ⟨g, 0, none⟩), .agg ⟨ints (laidL ls np)⟩, .int .i64 0]⟩, H', n) ∧ ∀ b, b ≠ b5 → H'.get b = H.get b) := by
    intro b1 m i hi ih
    unfold C65_1 B65_1
    rw [binK_some bin_lss, ifK_d]
    have l8 := laidL_len hls hnp
    by_cases hlt : i < 8
    · rw [if_pos (by omega), index121 l8 hlt, bindO_some, binK_some bin_neq]
      have hI : I64 ((i : Int) + 1) := by unfold I64; omega
      have hcast : ((i : Int) + 1) = ((i + 1 : Nat) : Int) := by omega
      have go : (i < np → ls.getD i 0 = -1 ∨ takesP js ks nj np nk i (ls.getD i 0)) → ∀ r : Res, r = b1 (.pointer (some ⟨b5, 0, none⟩)) (.pointer (some ⟨g, 0, none⟩)) (.pointer (some ⟨b9, 0, none⟩)) (.agg ⟨ints (laidL ls np)⟩) (.int .i64 ((i + 1 : Nat) : Int)) H n →
          ((∃ p, i ≤ p ∧ p < np ∧ ¬ (ls.getD p 0 = -1 ∨ takesP js ks nj np nk p (ls.getD p 0))) ∧ ∃ H', r = some (.tuple ⟨[.pointer none, .agg ⟨ints (List.replicate 8 0)⟩, .int .i64 2]⟩, H', n) ∧ ∀ b, b ≠ b5 → H'.get b = H.get b) ∨
          ((∀ p, i ≤ p → p < np → ls.getD p 0 = -1 ∨ takesP js ks nj np nk p (ls.getD p 0)) ∧ ∃ H', r = some (.tuple ⟨[.pointer (some ⟨g, 0, none⟩), .agg ⟨ints (laidL ls np)⟩, .int .i64 0]⟩, H', n) ∧ ∀ b, b ≠ b5 → H'.get b = H.get b) := by
        rintro hok r rfl
        rcases ih hlt with ⟨⟨p, q1, q2, q3⟩, q4⟩ | ⟨q1, q2⟩
        · exact .inl ⟨⟨p, by omega, q2, q3⟩, q4⟩
        · refine .inr ⟨fun p p1 p2 => ?_, q2⟩
          rcases Nat.eq_or_lt_of_le p1 with z | z
          · subst z; exact hok p2
          · exact q1 p z p2
      cases c1 : decide ((laidL ls np).getD i 0 = -1) with
      | true =>
        simp only [Bool.not_true, guardK_ft, guardK_u, pickV_f, bindO_some, ifK_f, binK_some (bin_add hI), hcast]
        refine go (fun hp => .inl ?_) _ rfl
        rw [← laidL_in hls hp]; exact of_decide_eq_true c1
      | false =>
        have hip : i < np := by
          rcases Nat.lt_or_ge i np with q | q
          · exact q
          · exact absurd (laidL_out hls q hlt) (of_decide_eq_false c1)
        have hv := laidL_in hls hip
        obtain ⟨r, hr, hc⟩ := takes_call (ρ := Value × Hp × Nat) l (n := n) hf hs hz hn hks hnp hnk hip ((laidL ls np).getD i 0)
        rw [hv] at hr c1
        simp only [Bool.not_false, guardK_tt, hc]
        cases r with
        | true =>
          simp only [guardK_tt, not_t, bindO_some, pickV_t, ifK_f, binK_some (bin_add hI), hcast]
          exact go (fun _ => .inr (hr.1 rfl)) _ rfl
        | false =>
          simp only [guardK_tt, not_f, bindO_some, pickV_t, ifK_t]
          have hst := storeN_all (vs := ints (List.replicate 8 0)) h5 (by rw [hw5]; rfl) (ints_leaf _)
          rw [build121, bindO_some, storeP_agg sz121 rfl, hst, bindO_some, res65 _ _ (load_all (t := 121) (s := 8) (L := ints (List.replicate 8 0)) (e := 121) (vec := none) (by rw [Tr.get_set, if_pos rfl]) agg121 sz121 rfl)]
          refine .inl ⟨⟨i, Nat.le_refl _, hip, ?_⟩, _, rfl, fun b hb => by rw [Tr.get_set, if_neg hb]⟩
          rintro (h | h)
          · exact of_decide_eq_false c1 h
          · exact absurd (hr.2 h) (by simp)
    · have lens : (ints (laidL ls np)).length = 8 := by rw [ints_length, l8]
      have hst := storeN_all (vs := ints (laidL ls np)) h5 (by rw [hw5, lens]) (ints_leaf _)
      rw [if_neg (by omega), addrV_eq, bindO_some, load_all h9 agg121 sz121 lens, bindO_some, storeP_agg sz121 lens, hst, bindO_some,
        res65 _ _ (load_all (t := 121) (s := 8) (L := ints (laidL ls np)) (e := 121) (vec := none) (by rw [Tr.get_set, if_pos rfl]) agg121 sz121 lens)]
      exact .inr ⟨fun p p1 p2 => by omega, _, rfl, fun b hb => by rw [Tr.get_set, if_neg hb]⟩
  intro m
  induction m with
  | zero => intro i h1 h2; exact body _ 0 i h1 (fun h => by omega)
  | succ m ih => intro i h1 h2; exact body _ (m + 1) i h1 (fun h => ih (i + 1) (by omega) (by omega))
end Go.Proofs.Ytakjjillnllocaa.spec
namespace Go.Proofs.Ytakjjillnllocaa.spec
open Go Go.Ev Go.Proofs.Ytakjjillnllocaa.nestFits Go.Proofs.Ytakjjillnllocaa.G
set_option maxRecDepth 100000
variable {ρ : Type}
open Classical in
noncomputable def placedN (np nj nk nl : Nat) (ps js ks ls : List Int) : Int := if faultN np nj nk ps js ks ≠ 0 then faultN np nj nk ps js ks else if nl = np ∧ laidOk js ks ls nj np nk then 0 else 2
def NotLaid (r : Res) (n : Nat) (H : Hp) (e : Int) : Prop := ∃ H' n', r = some (.tuple ⟨[.pointer none, .agg ⟨ints (List.replicate 8 0)⟩, .int .i64 e]⟩, H', n') ∧ n ≤ n' ∧ Keep n H H'
def IsLaid (r : Res) (n : Nat) (H : Hp) (v : Value) (np nj nk : Nat) (js ks ls : List Int) : Prop := ∃ (g : Nat) (x y z : Value) (f : Nat → Value) (H' : Hp) (n' : Nat), r = some (.tuple ⟨[.pointer (some ⟨g, 0, none⟩), .agg ⟨ints (laidL ls np)⟩, .int .i64 0]⟩, H', n') ∧ n ≤ n' ∧ Keep n H H' ∧ n ≤ g ∧ g < n' ∧
  v = .agg ⟨[x, y, z]⟩ ∧ CellsF H' g 859 117 f ∧ SiteF f x y z js nj ∧ ∀ p kd, p < np → kd < nk → NestAt f js ks nj np p kd
theorem openLaid_spec (l : Nat) {np nj nk nl : Nat} {ps js ks ls : List Int} {H : Hp} {n : Nat} {v w : Value} (hg : GroveP H n v np nj nk ps js ks) (hw : ListR H n w nl ls) (hnp : np ≤ 1000) (hnj : nj ≤ 1000) (hnk : nk ≤ 1000) :
    (placedN np nj nk nl ps js ks ls ≠ 0 → NotLaid (C65_0 (cal (l + 6)) KK v w H n) n H (placedN np nj nk nl ps js ks ls)) ∧
    (placedN np nj nk nl ps js ks ls = 0 → IsLaid (C65_0 (cal (l + 6)) KK v w H n) n H v np nj nk js ks ls ∧ nl = np ∧ laidOk js ks ls nj np nk ∧ faultN np nj nk ps js ks = 0) := by
  have hg0 := hg
  obtain ⟨x, y, z, rfl, h1, h2, h3⟩ := hg
  unfold C65_0 B65_0
  generalize hS : S65_1 (cal (l + 6)) KK KK = S
  rw [boxK_eq, allocK_eq zero121]
  simp only [cellsV, ptr]
  have hk : Keep n H ((H.set n (some (.cells [x, y, z] 35 false none))).set (n + 1) (some (.cells (ints (List.replicate 8 0)) 121 false none))) := ((Keep.refl n H).set (Nat.le_refl _) _).set (by omega) _
  have hb : CellsAt ((H.set n (some (.cells [x, y, z] 35 false none))).set (n + 1) (some (.cells (ints (List.replicate 8 0)) 121 false none))) n 0 [x, y, z] := CellsAt.new.set (by omega)
  have hr : ((H.set n (some (.cells [x, y, z] 35 false none))).set (n + 1) (some (.cells (ints (List.replicate 8 0)) 121 false none))).get (n + 1) = some (.cells (ints (List.replicate 8 0)) 121 false none) := by rw [Tr.get_set, if_pos rfl]
  generalize (H.set n (some (.cells [x, y, z] 35 false none))).set (n + 1) (some (.cells (ints (List.replicate 8 0)) 121 false none)) = H1 at hk hb hr ⊢
  have lg : loadV P H1 35 ⟨n, 0, none⟩ = some (.agg ⟨[x, y, z]⟩) := loadV_agg (o := 0) (k := 0) hb agg35 sz35 (by simp) (by simp [h1.hole.1, h2.hole.1, h3.hole.1])
  obtain ⟨o1, o2⟩ := open_spec l (hg0.keep hk (show n ≤ n + 1 + 1 by omega)) hnp hnj hnk
  rw [addrV_eq, bindO_some, lg, bindO_some, open_call]
  have bad : ∀ (H2 : Hp) (n2 : Nat) (e : Int), n + 1 + 1 ≤ n2 → Keep (n + 1 + 1) H1 H2 → NotLaid (bindO (storeP P 121 (.pointer (some ⟨n + 1, 0, none⟩)) (.agg ⟨ints (List.replicate 8 0)⟩) H2) fun H_p =>
      bindO (resV P (Tr.set (Tr.set (Tr.set Tr.nil 6 (some (.int .i64 e))) 5 (some (.pointer (some ⟨n + 1, 0, none⟩)))) 4 (some (Value.pointer none))) H_p results65) fun v_r => some (oneV v_r, H_p, n2)) n H e := by
    intro H2 n2 e hn hk2
    have hr2 := (hk2 (n + 1) (by omega)).trans hr
    rw [storeP_agg sz121 rfl, storeN_all hr2 rfl (ints_leaf _), bindO_some, res65 _ _ (load_all (t := 121) (s := 8) (L := ints (List.replicate 8 0)) (e := 121) (vec := none) (by rw [Tr.get_set, if_pos rfl]) agg121 sz121 rfl)]
    exact ⟨_, _, rfl, by omega, (hk.trans hk2 (by omega)).set (by omega) _⟩
  by_cases he : faultN np nj nk ps js ks = 0
  · have good := good_of he
    obtain ⟨g, x', y', z', f, H2, n2, e1, e2, e3, e4, e5, e6, e7, e8, e9⟩ := o2 he
    simp only [Value.agg.injEq, Array.mk.injEq, List.cons.injEq, and_true] at e6
    obtain ⟨rfl, rfl, rfl⟩ := e6
    have t0 : tupV (.tuple ⟨[.pointer (some ⟨g, 0, none⟩), .int .i64 0]⟩) 0 = some (.pointer (some ⟨g, 0, none⟩)) := rfl
    have t1 : tupV (.tuple ⟨[.pointer (some ⟨g, 0, none⟩), .int .i64 0]⟩) 1 = some (.int .i64 0) := rfl
    have d0 : decide ((0 : Int) = 0) = true := rfl
    have lx : loadV P H2 31 ⟨g, 0 + 0 + 0, none⟩ = some x := by
      have := e7.load (P := P) (k := 0) agg31 (by omega)
      rw [e8.x] at this; exact this
    have hlx : lenV P 31 x = some (.int .i64 np) := h1.len_eq und31
    have hlz : lenV P 33 z = some (.int .i64 nk) := h3.len_eq und33
    have kk : Keep n H H2 := hk.trans e3 (by omega)
    have hw2 := hw.keep kk (show n ≤ n2 by omega)
    rw [e1, bindO_some, t0, bindO_some, t1, bindO_some, binK_some bin_neq, d0, Bool.not_true, ifK_f, hw.len_eq, bindO_some, nil_ptr, bindO_some, fa117_0, bindO_some, fa35_0, bindO_some, addrV_eq, bindO_some, lx, bindO_some, hlx, bindO_some, binK_some bin_neq]
    unfold placedN
    rw [if_neg (fun h => h he)]
    by_cases hl : nl = np
    · subst hl
      have dl : decide ((nl : Int) = (nl : Int)) = true := decide_eq_true rfl
      have l8 := laidL_len hw.1 good.np8
      have lens : (ints (laidL ls nl)).length = 8 := by rw [ints_length, l8]
      rw [dl, Bool.not_true, ifK_f, bare_call (l + 5)]
      obtain ⟨H3, k1, k2, k3⟩ := spill (P := P) (ρ := Value × Hp × Nat) (H := H2) (n := n2) (L := ints (List.replicate 8 (-1))) zero121 rfl sz121 rfl (ints_leaf _)
      rw [k3, slice121, bindO_some]
      have hw3 := hw2.keep k1 (show n2 ≤ n2 + 1 by omega)
      unfold stK
      rw [copy_row hw3 (by have := good.np1; omega) good.np8 rfl k2, bindO_some]
      dsimp only [bare]
      have hrow : (H3.set n2 (some (.cells (ints (ls ++ (List.replicate 8 (-1)).drop nl)) 121 false none))).get n2 = some (.cells (ints (laidL ls nl)) 121 false none) := by
        rw [Tr.get_set, if_pos rfl, List.drop_replicate]; rfl
      have kk3 : Keep n2 H2 (H3.set n2 (some (.cells (ints (ls ++ (List.replicate 8 (-1)).drop nl)) 121 false none))) := k1.set (Nat.le_refl _) _
      generalize H3.set n2 (some (.cells (ints (ls ++ (List.replicate 8 (-1)).drop nl)) 121 false none)) = H4 at hrow kk3 ⊢
      rw [addrV_eq, bindO_some, load_all hrow agg121 sz121 lens, bindO_some, ← hS]
      have hf4 := e7.keep kk3 e5
      have hr4 : H4.get (n + 1) = some (.cells (ints (List.replicate 8 0)) 121 false none) := by rw [kk3 _ (by omega), e3 _ (by omega)]; exact hr
      rcases openLaid_loop (l + 2) KK (n := n2 + 1) hf4 e8 hlz e9 good.kinds good.np8 good.nk3 hw.1 ⟨_, hr4, rfl⟩ hrow (by omega) KK 0 (by omega) (by unfold KK; omega) with ⟨⟨p, q1, q2, q3⟩, H5, q4, q5⟩ | ⟨q1, H5, q4, q5⟩
      · have hno : ¬ (nl = nl ∧ laidOk js ks ls nj nl nk) := fun h => q3 (h.2 p q2)
        rw [if_neg hno]
        refine ⟨fun _ => ⟨H5, n2 + 1, q4, by omega, fun b hb => ?_⟩, fun h => by omega⟩
        rw [q5 b (by omega), kk3 b (by omega), kk b hb]
      · have hyes : nl = nl ∧ laidOk js ks ls nj nl nk := ⟨rfl, fun p hp => q1 p (Nat.zero_le _) hp⟩
        rw [if_pos hyes]
        refine ⟨fun h => absurd rfl h, fun _ => ⟨⟨g, x, y, z, f, H5, n2 + 1, q4, by omega, fun b hb => ?_, by omega, by omega, rfl, ?_, e8, e9⟩, rfl, hyes.2, he⟩⟩
        · rw [q5 b (by omega), kk3 b (by omega), kk b hb]
        · obtain ⟨c, a1, a2, a3⟩ := hf4
          exact ⟨c, by rw [q5 g (by omega)]; exact a1, a2, a3⟩
    · have dl : decide ((nl : Int) = (np : Int)) = false := decide_eq_false (by omega)
      have hno : ¬ (nl = np ∧ laidOk js ks ls nj np nk) := fun h => hl h.1
      rw [dl, Bool.not_false, ifK_t, if_neg hno, build121, bindO_some]
      exact ⟨fun _ => bad H2 n2 2 e2 e3, fun h => by omega⟩
  · obtain ⟨H2, n2, e1, e2, e3⟩ := o1 he
    have t0 : tupV (.tuple ⟨[.pointer none, .int .i64 (faultN np nj nk ps js ks)]⟩) 0 = some (.pointer none) := rfl
    have t1 : tupV (.tuple ⟨[.pointer none, .int .i64 (faultN np nj nk ps js ks)]⟩) 1 = some (.int .i64 (faultN np nj nk ps js ks)) := rfl
    unfold placedN
    rw [if_pos he, e1, bindO_some, t0, bindO_some, t1, bindO_some, binK_some bin_neq, decide_eq_false he, Bool.not_false, ifK_t, build121, bindO_some]
    exact ⟨fun _ => bad H2 n2 _ e2 e3, fun h => absurd h he⟩
theorem flat65 : flatF P 65 = false := by kernel_rfl
theorem call65 (l : Nat) (a b : Value) (H : Hp) (n : Nat) : (cal (l + 1)).call 65 [a, b] H n = C65_0 (cal l) KK a b H n := by kernel_rfl
theorem openLaid_call (l : Nat) (v w : Value) (H : Hp) (n : Nat) (k : Value → Hp → Nat → Option ρ) : callFK P (cal (l + 7)) 65 [v, w] H n k = bindO (C65_0 (cal (l + 6)) KK v w H n) fun r => k r.1 r.2.1 r.2.2 := by
  unfold callFK
  rw [flat65, call65]
  rfl
end Go.Proofs.Ytakjjillnllocaa.spec
namespace Go.Proofs.Ytakjjillnllocaa.spec
open Go Go.Ev Go.Proofs.Ytakjjillnllocaa.nestFits Go.Proofs.Ytakjjillnllocaa.G
set_option maxRecDepth 100000
variable {ρ : Type}
theorem res103 (H : Hp) (b : Nat) : resV P (Tr.set Tr.nil 4 (some (.pointer (some ⟨b, 0, none⟩)))) H results103 = (match loadV P H 111 ⟨b, 0, none⟩ with
  | none => none
  | some v => some [v]) := by kernel_rfl
def Mild (X : List Int) : Prop := ∀ k : Nat, -1000000 ≤ X.getD k 0 ∧ X.getD k 0 ≤ 1000000
structure PlusTo (X Y Z : List Int) (i : Nat) : Prop where
  len : Z.length = 16
  below : ∀ p, p < i → Z.getD (p * 2) 0 = X.getD (p * 2) 0 + Y.getD (p * 2) 0 ∧ Z.getD (p * 2 + 1) 0 = X.getD (p * 2 + 1) 0 + Y.getD (p * 2 + 1) 0
  above : ∀ p, i ≤ p → Z.getD (p * 2) 0 = X.getD (p * 2) 0 ∧ Z.getD (p * 2 + 1) 0 = X.getD (p * 2 + 1) 0
theorem load_int_at {H : Hp} {g o : Nat} {X : List Int} {e : TypeId} {ro : Bool} {vec : Option Nat} (h : H.get g = some (.cells (ints X) e ro vec)) (ho : o < X.length) : loadV P H 3 ⟨g, o, none⟩ = some (.int .i64 (X.getD o 0)) := by
  have := loadV_int (P := P) (t := 3) (o := 0) (k := o) (cells_at h) agg3 (ints_get (getD_some ho))
  rw [Nat.zero_add] at this
  exact this
theorem plus_loop (c : Cal) (k : Nat) {X Y : List Int} (hY : Y.length = 16) (mX : Mild X) (mY : Mild Y) (b2 b4 : Nat) (hne : b2 ≠ b4) : ∀ (m i : Nat) (Z : List Int) (H : Hp) (n : Nat), b2 < n → b4 < n → H.get b2 = some (.cells (ints Z) 111 false none) → (∃ w, H.get b4 = some (.cells w 111 false none) ∧ w.length = 16) → PlusTo X Y Z i → i ≤ 8 → 8 - i ≤ m →
    ∃ Z' H' n', S103_1 c k m (.pointer (some ⟨b2, 0, none⟩)) (.pointer (some ⟨b4, 0, none⟩)) (.agg ⟨ints Y⟩) (.int .i64 i) H n = some (.agg ⟨ints Z'⟩, H', n') ∧ PlusTo X Y Z' 8 := by
  have body : ∀ (b1 : Value → Value → Value → Value → Hp → Nat → Res) (m i : Nat) (Z : List Int) (H : Hp) (n : Nat), b2 < n → b4 < n → H.get b2 = some (.cells (ints Z) 111 false none) → (∃ w, H.get b4 = some (.cells w 111 false none) ∧ w.length = 16) → PlusTo X Y Z i → i ≤ 8 →
      (∀ Z2 H2 n2, b2 < n2 → b4 < n2 → H2.get b2 = some (.cells (ints Z2) 111 false none) → (∃ w, H2.get b4 = some (.cells w 111 false none) ∧ w.length = 16) → PlusTo X Y Z2 (i + 1) → i < 8 →
        ∃ Z' H' n', b1 (.pointer (some ⟨b2, 0, none⟩)) (.pointer (some ⟨b4, 0, none⟩)) (.agg ⟨ints Y⟩) (.int .i64 ((i + 1 : Nat) : Int)) H2 n2 = some (.agg ⟨ints Z'⟩, H', n') ∧ PlusTo X Y Z' 8) →
      ∃ Z' H' n', C103_1 c k m b1 (.pointer (some ⟨b2, 0, none⟩)) (.pointer (some ⟨b4, 0, none⟩)) (.agg ⟨ints Y⟩) (.int .i64 i) H n = some (.agg ⟨ints Z'⟩, H', n') ∧ PlusTo X Y Z' 8 := by
    intro b1 m i Z H n hb2 hb4 hg2 hg4 hZ hi ih
    have lZ := hZ.len
    unfold C103_1 B103_1
    rw [binK_some bin_lss, ifK_d]
    by_cases hlt : i < 8
    · obtain ⟨g1, g2⟩ := ints_take (xs := Y) (i := i) (s := 2) (by omega)
      obtain ⟨H1, k1, k2, k3⟩ := spill (P := P) (ρ := Value × Hp × Nat) (H := H) (n := n) zero53 rfl sz53 g1 g2
      rw [if_pos (by omega), index_row hY hlt, bindO_some, k3]
      rw [two_at (show i * 2 + 2 ≤ Y.length by omega)] at k2
      have q2 : H1.get b2 = some (.cells (ints Z) 111 false none) := (k1 b2 hb2).trans hg2
      obtain ⟨a1, a2⟩ := hZ.above i (Nat.le_refl _)
      have z0 : loadV P H1 3 ⟨b2, 0 + i * 2 + 0, none⟩ = some (.int .i64 (X.getD (i * 2) 0)) := by rw [show 0 + i * 2 + 0 = i * 2 by omega, load_int_at q2 (by omega), a1]
      have y0 : loadV P H1 3 ⟨n, 0 + 0, none⟩ = some (.int .i64 (Y.getD (i * 2) 0)) := loadV_int (cells_at k2) agg3 rfl
      obtain ⟨m1, m2⟩ := mX (i * 2)
      obtain ⟨m3, m4⟩ := mY (i * 2)
      obtain ⟨m5, m6⟩ := mX (i * 2 + 1)
      obtain ⟨m7, m8⟩ := mY (i * 2 + 1)
      have hI0 : I64 (X.getD (i * 2) 0 + Y.getD (i * 2) 0) := by unfold I64; omega
      have hI1 : I64 (X.getD (i * 2 + 1) 0 + Y.getD (i * 2 + 1) 0) := by unfold I64; omega
      have hI : I64 ((i : Int) + 1) := by unfold I64; omega
      have hcast : ((i : Int) + 1) = ((i + 1 : Nat) : Int) := by omega
      have s0 := store_one (a := X.getD (i * 2) 0 + Y.getD (i * 2) 0) (o := 0 + i * 2 + 0) q2 (by omega)
      have q3 : (H1.set b2 (some (.cells (ints (Z.set (0 + i * 2 + 0) (X.getD (i * 2) 0 + Y.getD (i * 2) 0))) 111 false none))).get b2 = some (.cells (ints (Z.set (0 + i * 2 + 0) (X.getD (i * 2) 0 + Y.getD (i * 2) 0))) 111 false none) := by rw [Tr.get_set, if_pos rfl]
      have q4 : ∀ b, b ≠ b2 → (H1.set b2 (some (.cells (ints (Z.set (0 + i * 2 + 0) (X.getD (i * 2) 0 + Y.getD (i * 2) 0))) 111 false none))).get b = H1.get b := fun b hb => by rw [Tr.get_set, if_neg hb]
      generalize H1.set b2 (some (.cells (ints (Z.set (0 + i * 2 + 0) (X.getD (i * 2) 0 + Y.getD (i * 2) 0))) 111 false none)) = H2 at s0 q3 q4
      have z1 : loadV P H2 3 ⟨b2, 0 + i * 2 + 1, none⟩ = some (.int .i64 (X.getD (i * 2 + 1) 0)) := by
        rw [load_int_at q3 (by simp; omega), List.getD_eq_getElem?_getD, List.getElem?_set, if_neg (by omega), ← List.getD_eq_getElem?_getD, show 0 + i * 2 + 1 = i * 2 + 1 by omega, a2]
      have y1 : loadV P H2 3 ⟨n, 0 + 1, none⟩ = some (.int .i64 (Y.getD (i * 2 + 1) 0)) := loadV_int (cells_at ((q4 n (by omega)).trans k2)) agg3 rfl
      have s1 := store_one (a := X.getD (i * 2 + 1) 0 + Y.getD (i * 2 + 1) 0) (o := 0 + i * 2 + 1) q3 (by simp; omega)
      simp only [at111 b2 0 hlt, bindO_some, fa53_0, fa53_1, addrV_eq, z0, y0, binK_some (bin_add hI0), storeP_leaf sz3 (show leafV (.int .i64 _) = true from rfl), s0, z1, y1, binK_some (bin_add hI1), s1, binK_some (bin_add hI), hcast]
      obtain ⟨w, w1, w2⟩ := hg4
      refine ih _ _ (n + 1) (by omega) (by omega) (by rw [Tr.get_set, if_pos rfl]) ⟨w, by rw [Tr.get_set, if_neg (Ne.symm hne), q4 _ (Ne.symm hne), k1 b4 hb4]; exact w1, w2⟩ ?_ hlt
      have e0 : 0 + i * 2 + 0 = i * 2 := by omega
      have e1 : 0 + i * 2 + 1 = i * 2 + 1 := by omega
      rw [e0, e1]
      refine ⟨by rw [set_two_len]; exact lZ, fun p hp => ?_, fun p hp => ?_⟩
      · obtain ⟨t1, t2⟩ := set_two_get (q := p) lZ hlt (X.getD (i * 2) 0 + Y.getD (i * 2) 0) (X.getD (i * 2 + 1) 0 + Y.getD (i * 2 + 1) 0)
        rw [t1, t2]
        by_cases e : p = i
        · subst e; rw [if_pos rfl, if_pos rfl]; exact ⟨rfl, rfl⟩
        · rw [if_neg e, if_neg e]; exact hZ.below p (by omega)
      · obtain ⟨t1, t2⟩ := set_two_get (q := p) lZ hlt (X.getD (i * 2) 0 + Y.getD (i * 2) 0) (X.getD (i * 2 + 1) 0 + Y.getD (i * 2 + 1) 0)
        rw [t1, t2, if_neg (by omega), if_neg (by omega)]
        exact hZ.above p (by omega)
    · have hi' : i = 8 := by omega
      subst hi'
      obtain ⟨w, w1, w2⟩ := hg4
      have lens : (ints Z).length = 16 := by rw [ints_length, lZ]
      rw [if_neg (by omega), addrV_eq, bindO_some, load_all hg2 agg111 sz111 lens, bindO_some, storeP_agg sz111 lens, storeN_all w1 (by rw [lens, w2]) (ints_leaf _), bindO_some, res103,
        load_all (t := 111) (s := 16) (L := ints Z) (e := 111) (vec := none) (by rw [Tr.get_set, if_pos rfl]) agg111 sz111 lens]
      exact ⟨Z, _, _, rfl, hZ⟩
  intro m
  induction m with
  | zero =>
    intro i Z H n h1 h2 h3 h4 h5 h6 h7
    exact body _ 0 i Z H n h1 h2 h3 h4 h5 h6 (fun _ _ _ _ _ _ _ _ h => by omega)
  | succ m ih =>
    intro i Z H n h1 h2 h3 h4 h5 h6 h7
    exact body _ (m + 1) i Z H n h1 h2 h3 h4 h5 h6 (fun Z2 H2 n2 q1 q2 q3 q4 q5 q6 => ih (i + 1) Z2 H2 n2 q1 q2 q3 q4 q5 (by omega) (by omega))
theorem plus_spec (c : Cal) {X Y : List Int} (hX : X.length = 16) (hY : Y.length = 16) (mX : Mild X) (mY : Mild Y) :
    ∃ Z H' n', C103_0 c KK (.agg ⟨ints X⟩) (.agg ⟨ints Y⟩) .nil 0 = some (.agg ⟨ints Z⟩, H', n') ∧ PlusTo X Y Z 8 := by
  unfold C103_0 B103_0
  generalize hS : S103_1 c KK KK = S
  rw [boxK_eq, boxK_eq, allocK_eq zero111]
  simp only [cellsV, ptr]
  have g0 : ((((Tr.nil : Hp).set 0 (some (.cells (ints X) 111 false none))).set (0 + 1) (some (.cells (ints Y) 111 false none))).set (0 + 1 + 1) (some (.cells (ints (List.replicate 16 0)) 111 false none))).get 0 = some (.cells (ints X) 111 false none) := by rw [Tr.get_set, if_neg (by omega), Tr.get_set, if_neg (by omega), Tr.get_set, if_pos rfl]
  have g1 : ((((Tr.nil : Hp).set 0 (some (.cells (ints X) 111 false none))).set (0 + 1) (some (.cells (ints Y) 111 false none))).set (0 + 1 + 1) (some (.cells (ints (List.replicate 16 0)) 111 false none))).get (0 + 1) = some (.cells (ints Y) 111 false none) := by rw [Tr.get_set, if_neg (by omega), Tr.get_set, if_pos rfl]
  have g2 : ((((Tr.nil : Hp).set 0 (some (.cells (ints X) 111 false none))).set (0 + 1) (some (.cells (ints Y) 111 false none))).set (0 + 1 + 1) (some (.cells (ints (List.replicate 16 0)) 111 false none))).get (0 + 1 + 1) = some (.cells (ints (List.replicate 16 0)) 111 false none) := by rw [Tr.get_set, if_pos rfl]
  generalize (((Tr.nil : Hp).set 0 (some (.cells (ints X) 111 false none))).set (0 + 1) (some (.cells (ints Y) 111 false none))).set (0 + 1 + 1) (some (.cells (ints (List.replicate 16 0)) 111 false none)) = H1 at g0 g1 g2 ⊢
  rw [addrV_eq, bindO_some, load_all g1 agg111 sz111 (by rw [ints_length, hY]), bindO_some, ← hS]
  exact plus_loop c KK hY mX mY 0 (0 + 1 + 1) (by omega) KK 0 X H1 (0 + 1 + 1 + 1) (by omega) (by omega) g0 ⟨_, g2, rfl⟩ ⟨hX, fun p hp => by omega, fun p _ => ⟨rfl, rfl⟩⟩ (by omega) (by unfold KK; omega)
theorem flat103 : flatF P 103 = true := by kernel_rfl
theorem call103 (l : Nat) (a b : Value) (H : Hp) (n : Nat) : (cal (l + 1)).call 103 [a, b] H n = C103_0 (cal l) KK a b H n :=
  (show (cal (l + 1)).call 103 [a, b] H n = quick ent103 (cal l) [a, b] H n by kernel_rfl).trans (quick_eq ..)
theorem plus_call (l : Nat) {X Y : List Int} (hX : X.length = 16) (hY : Y.length = 16) (mX : Mild X) (mY : Mild Y) : ∃ Z, PlusTo X Y Z 8 ∧ ∀ (H : Hp) (n : Nat) (k : Value → Hp → Nat → Option ρ),
    callFK P (cal (l + 1)) 103 [.agg ⟨ints X⟩, .agg ⟨ints Y⟩] H n k = k (.agg ⟨ints Z⟩) H n := by
  obtain ⟨Z, H', n', e, hZ⟩ := plus_spec (cal l) hX hY mX mY
  refine ⟨Z, hZ, fun H n k => callFK_pure flat103 ?_ ((call103 ..).trans e) ?_⟩
  · simp only [pureL, pureV, pureA, pure_ints, Bool.and_self]
  · simp only [pureV, pureA, pure_ints]
end Go.Proofs.Ytakjjillnllocaa.spec
namespace Go.Proofs.Ytakjjillnllocaa.spec
open Go Go.Ev Go.Proofs.Ytakjjillnllocaa.nestFits Go.Proofs.Ytakjjillnllocaa.G
set_option maxRecDepth 100000
variable {ρ : Type}
noncomputable def code66 : Code := codeOf 66
noncomputable def results66 : List ResultVar := resOf 66
noncomputable def asg66 : Code := asgOf (cL (cR (cL (cR (cR code66)))))
noncomputable def bod66 : Code := bodOf (cL (cR (cL (cR (cR code66)))))
noncomputable def K66 (c : Cal) (k : Nat) : KC (Value × Hp × Nat) := codeE P c (codeF P c k) none 66 (cR (cR (cR code66))) .leaf (doneK P results66) X0 (doneK P results66)
noncomputable def T66 (v0 v1 v3 v4 v5 v9 v10 : Value) : Tm := ((((((((Tr.nil : Tm).set 0 (some v0)).set 1 (some v1)).set 3 (some v3)).set 4 (some v4)).set 5 (some v5)).set 8 (some v0)).set 9 (some v9)).set 10 (some v10)
theorem pre66 (c : Cal) (k : Nat) (v0 v1 : Value) (H : Hp) (n : Nat) : bodyE P c A (k + 1) 66 [v0, v1] H n =
    (boxK 121 v1 H n fun v3 H n => allocK P 111 H n fun v4 H n => allocK P 111 H n fun v5 H n => bindO (addrV v3) fun a => bindO (loadV P H 121 a) fun v9 => callFK P c 74 [v0, v9] H n fun v10 H n =>
      rangeK P c none 66 v10 #[11, 12] asg66 bod66 (K66 c k) (upX 0 (K66 c k) X0) (doneK P results66) (T66 v0 v1 v3 v4 v5 v9 v10) H n []) := by
  rw [body_eq (fn := Go.Proofs.Try.f66) (c := code66) (rs := results66) (by kernel_rfl) (by kernel_rfl) (by kernel_rfl) (by kernel_rfl)]
  kernel_rfl
theorem post66 (c : Cal) (k : Nat) (v0 v1 v3 v4 v5 v9 v10 : Value) (H : Hp) (n : Nat) (D : List Nat) : K66 c k (T66 v0 v1 v3 v4 v5 v9 v10) H n D =
    (bindO (addrV v5) fun a => bindO (loadV P H 111 a) fun v17 => bindO (storeP P 111 v4 v17 H) fun H => getK (takeD H D) fun H => bindO (resV P ((Tr.nil : Tm).set 4 (some v4)) H results66) fun vs => some (oneV vs, H, n)) := by
  kernel_rfl
theorem call66 (l : Nat) (a b : Value) (H : Hp) (n : Nat) : (cal (l + 1)).call 66 [a, b] H n = bodyE P (cal l) A (KK + 1) 66 [a, b] H n := by kernel_rfl
theorem asg66_eq (l lp : Nat) (v0 v1 v3 v4 v5 v9 v10 p q : Value) (H : Hp) (n : Nat) :
    (cal (l + 1)).body lp 66 asg66 { T := ((T66 v0 v1 v3 v4 v5 v9 v10).set 11 (some p)).set 12 (some q), H, n, D := [] } =
      (allocK P 113 H n fun v7 H n => bindO (storeP P 113 v7 q H) fun H => some (.norm, { T := (((T66 v0 v1 v3 v4 v5 v9 v10).set 11 (some p)).set 12 (some q)).set 7 (some v7), H, n, D := [] })) := by kernel_rfl
theorem bod66_eq (l lp : Nat) (v0 v1 v3 v4 v5 v9 v10 p q v7 : Value) (H : Hp) (n : Nat) :
    (cal (l + 1)).body lp 66 bod66 { T := (((T66 v0 v1 v3 v4 v5 v9 v10).set 11 (some p)).set 12 (some q)).set 7 (some v7), H, n, D := [] } =
      (bindO (addrV v5) fun a => bindO (loadV P H 111 a) fun v13 => bindO (fieldAddrV P 113 v7 2) fun v14 => bindO (addrV v14) fun a => bindO (loadV P H 111 a) fun v15 => callFK P (cal l) 103 [v13, v15] H n fun v16 H n => bindO (storeP P 111 v5 v16 H) fun H =>
        some (.norm, { T := (((((((T66 v0 v1 v3 v4 v5 v9 v10).set 11 (some p)).set 12 (some q)).set 7 (some v7)).set 13 (some v13)).set 14 (some v14)).set 15 (some v15)).set 16 (some v16), H, n, D := [] })) := by kernel_rfl
theorem res66 (H : Hp) (b : Nat) : resV P ((Tr.nil : Tm).set 4 (some (.pointer (some ⟨b, 0, none⟩)))) H results66 = (match loadV P H 111 ⟨b, 0, none⟩ with
  | none => none
  | some v => some [v]) := by kernel_rfl
theorem ntm66 : ntm P 66 = 18 := by kernel_rfl
theorem flat74 : flatF P 74 = false := by kernel_rfl
theorem call74 (l : Nat) (a b : Value) (H : Hp) (n : Nat) : (cal (l + 1)).call 74 [a, b] H n = C74_0 (cal l) KK a b H n := by kernel_rfl
theorem call104 (l : Nat) (a b c : Value) (H : Hp) (n : Nat) : (cal (l + 1)).call 104 [a, b, c] H n = C104_0 (cal l) KK a b c H n := by kernel_rfl
theorem placed_call (l : Nat) (g : Nat) {L : List Int} (H : Hp) (n : Nat) (k : Value → Hp → Nat → Option ρ) : callFK P (cal (l + 1)) 74 [.pointer (some ⟨g, 0, none⟩), .agg ⟨ints L⟩] H n k =
    k (.func (.func 104) ⟨[]⟩ ⟨[.pointer (some ⟨n + 1, 0, none⟩), .pointer (some ⟨n, 0, none⟩)]⟩) ((H.set n (some (.cells [.pointer (some ⟨g, 0, none⟩)] 105 false none))).set (n + 1) (some (.cells (ints L) 121 false none))) (n + 2) := by
  unfold callFK
  rw [flat74, call74]
  rfl
theorem range66 (c : Cal) (a b : Value) (K : KC (Value × Hp × Nat)) (X : XC (Value × Hp × Nat)) (Kr : KC (Value × Hp × Nat)) (T : Tm) (H : Hp) (n : Nat) :
    rangeK P c none 66 (.func (.func 104) ⟨[]⟩ ⟨[a, b]⟩) #[11, 12] asg66 bod66 K X Kr T H n [] =
      callFK P c 104 [.func (.yield (n + 1)) #[] #[], a, b] ((H.set n (some .deferred)).set (n + 1) (some (.loop .ready none 66 T (ntm P 66) #[11, 12] asg66 bod66 n))) (n + 2) fun _ H n' => fin K X Kr (rangeOut (n + 1) { T := T, H, n := n', D := [n] }) := rfl
theorem yield66 (L : Nat) {H : Hp} {n lb b5 d : Nat} {v0 v1 v3 v4 v9 v10 q0 : Value} {X S B : List Int} {y : Int} (hl : H.get lb = some (.loop .ready none 66 (T66 v0 v1 v3 v4 (.pointer (some ⟨b5, 0, none⟩)) v9 v10) (ntm P 66) #[11, 12] asg66 bod66 d))
    (h5 : H.get b5 = some (.cells (ints X) 111 false none)) (hX : X.length = 16) (hS : S.length = 16) (hB : B.length = 16) (mX : Mild X) (mB : Mild B) (n5 : b5 ≠ lb) (hln : lb < n) (h5n : b5 < n) :
    ∃ Z H', PlusTo X B Z 8 ∧ (∀ k : Value → Hp → Nat → Option ρ, callVK P (cal (L + 2)) (.func (.yield lb) #[] #[]) [q0, .agg ⟨ints (nestL y S B)⟩] H n k = k (.bool true) H' (n + 1)) ∧ H'.get lb = H.get lb ∧
      H'.get b5 = some (.cells (ints Z) 111 false none) ∧ ∀ b, b < n → b ≠ lb → b ≠ b5 → H'.get b = H.get b := by
  obtain ⟨Z, hZ, hplus⟩ := plus_call (ρ := Ex × St) L hX hB mX mB
  have lens : (ints (nestL y S B)).length = 33 := by rw [ints_length, nest_cells hS hB]
  have hpar : paramsT (T66 v0 v1 v3 v4 (.pointer (some ⟨b5, 0, none⟩)) v9 v10) (ntm P 66) (#[11, 12] : Array Tmp).toList [q0, .agg ⟨ints (nestL y S B)⟩] = some (((T66 v0 v1 v3 v4 (.pointer (some ⟨b5, 0, none⟩)) v9 v10).set 11 (some q0)).set 12 (some (.agg ⟨ints (nestL y S B)⟩))) := by
    rw [ntm66]; rfl
  generalize hT : T66 v0 v1 v3 v4 (.pointer (some ⟨b5, 0, none⟩)) v9 v10 = T at hl hpar
  obtain ⟨H1, k1, k2, k3⟩ := spill (P := P) (ρ := Ex × St) (H := H) (n := n) (L := ints (nestL y S B)) zero113 (by show (ints (nestL 0 zeros zeros)).length = 33; rw [ints_length, nest_cells zeros_len zeros_len]) sz113 lens (ints_leaf _)
  have hasg : (cal (L + 2)).body lb 66 asg66 { T := (T.set 11 (some q0)).set 12 (some (.agg ⟨ints (nestL y S B)⟩)), H, n, D := [] } = some (.norm, { T := ((T.set 11 (some q0)).set 12 (some (.agg ⟨ints (nestL y S B)⟩))).set 7 (some (.pointer (some ⟨n, 0, none⟩))), H := H1, n := n + 1, D := [] }) := by
    rw [← hT, asg66_eq, k3]
  have hl1 := (k1 lb hln).trans hl
  have h51 := (k1 b5 h5n).trans h5
  have hrdy : isReady H1 lb = true := by unfold isReady; rw [hl1]
  have hpen : pendingOf H1 lb = none := by unfold pendingOf; rw [hl1]
  have hbusy : setLoop H1 lb .busy none = some (H1.set lb (some (.loop .busy none 66 T (ntm P 66) #[11, 12] asg66 bod66 d))) := by unfold setLoop; rw [hl1]
  have g5 : (H1.set lb (some (.loop .busy none 66 T (ntm P 66) #[11, 12] asg66 bod66 d))).get b5 = some (.cells (ints X) 111 false none) := by rw [Tr.get_set, if_neg n5]; exact h51
  have g7 : (H1.set lb (some (.loop .busy none 66 T (ntm P 66) #[11, 12] asg66 bod66 d))).get n = some (.cells (ints (nestL y S B)) 113 false none) := by rw [Tr.get_set, if_neg (by omega)]; exact k2
  have gl : (H1.set lb (some (.loop .busy none 66 T (ntm P 66) #[11, 12] asg66 bod66 d))).get lb = some (.loop .busy none 66 T (ntm P 66) #[11, 12] asg66 bod66 d) := by rw [Tr.get_set, if_pos rfl]
  have ho : ∀ b, b ≠ lb → (H1.set lb (some (.loop .busy none 66 T (ntm P 66) #[11, 12] asg66 bod66 d))).get b = H1.get b := fun b hb => by rw [Tr.get_set, if_neg hb]
  generalize H1.set lb (some (.loop .busy none 66 T (ntm P 66) #[11, 12] asg66 bod66 d)) = H2 at hbusy g5 g7 gl ho
  have hnb : loadV P H2 111 ⟨n, 0 + 17, none⟩ = some (.agg ⟨ints B⟩) := by
    have := loadV_agg (P := P) (k := 17) (cells_at g7) agg111 sz111 (by rw [lens]; omega) (ints_noHole _)
    have e : ((ints (nestL y S B)).drop 17).take 16 = ints B := by
      rw [ints_cut]
      congr 1
      unfold nestL
      rw [List.drop_succ_cons, List.drop_left' hS, ← hB, List.take_length]
    rw [e] at this
    exact this
  have lX : (ints X).length = 16 := by rw [ints_length, hX]
  have lZ : (ints Z).length = 16 := by rw [ints_length, hZ.len]
  have hst := storeN_all (vs := ints Z) g5 (by rw [lX, lZ]) (ints_leaf _)
  have q5 : (H2.set b5 (some (.cells (ints Z) 111 false none))).get b5 = some (.cells (ints Z) 111 false none) := by rw [Tr.get_set, if_pos rfl]
  have ql : (H2.set b5 (some (.cells (ints Z) 111 false none))).get lb = some (.loop .busy none 66 T (ntm P 66) #[11, 12] asg66 bod66 d) := by rw [Tr.get_set, if_neg (Ne.symm n5)]; exact gl
  have qo : ∀ b, b ≠ lb → b ≠ b5 → (H2.set b5 (some (.cells (ints Z) 111 false none))).get b = H1.get b := fun b hb hb5 => by rw [Tr.get_set, if_neg hb5]; exact ho b hb
  have hbody : ∃ T', (cal (L + 2)).body lb 66 bod66 { T := ((T.set 11 (some q0)).set 12 (some (.agg ⟨ints (nestL y S B)⟩))).set 7 (some (.pointer (some ⟨n, 0, none⟩))), H := H2, n := n + 1, D := [] } = some (.norm, { T := T', H := H2.set b5 (some (.cells (ints Z) 111 false none)), n := n + 1, D := [] }) := by
    rw [← hT, bod66_eq (L + 1), addrV_eq, bindO_some, load_all g5 agg111 sz111 lX, bindO_some, fa113_2, bindO_some, addrV_eq, bindO_some, hnb, bindO_some, hplus, storeP_agg sz111 lZ, hst, bindO_some]
    exact ⟨_, rfl⟩
  generalize H2.set b5 (some (.cells (ints Z) 111 false none)) = H3 at q5 ql qo hbody
  obtain ⟨T', hbody⟩ := hbody
  have hend : setLoop H3 lb .ready none = some (H3.set lb (some (.loop .ready none 66 T (ntm P 66) #[11, 12] asg66 bod66 d))) := by unfold setLoop; rw [ql]
  refine ⟨Z, H3.set lb (some (.loop .ready none 66 T (ntm P 66) #[11, 12] asg66 bod66 d)), hZ, fun k => ?_, by rw [Tr.get_set, if_pos rfl, hl], by rw [Tr.get_set, if_neg n5]; exact q5, fun b hbn hb hb5 => by rw [Tr.get_set, if_neg hb, qo b hb hb5]; exact k1 b hbn⟩
  show stK (yieldF (fun | some l => (cal (L + 2)).body l | none => fun _ _ _ => none) P lb [q0, .agg ⟨ints (nestL y S B)⟩] (bare H n)) k = _
  have hy : yieldF (fun | some l => (cal (L + 2)).body l | none => fun _ _ _ => none) P lb [q0, .agg ⟨ints (nestL y S B)⟩] (bare H n) = some (.bool true, { bare H n with H := H3.set lb (some (.loop .ready none 66 T (ntm P 66) #[11, 12] asg66 bod66 d)), n := n + 1 }) := by
    unfold yieldF
    have hb : Nat.beq (ntm P 66) (ntm P 66) = true := Nat.beq_refl _
    have hx : exCode .norm = some none := rfl
    simp only [bare, hl, hb, hpar, hasg, hrdy, hpen, hbusy, hbody, hx, Option.isNone_none, if_true, hend]
  rw [hy]
  rfl
end Go.Proofs.Ytakjjillnllocaa.spec
namespace Go.Proofs.Ytakjjillnllocaa.spec
open Go Go.Ev Go.Proofs.Ytakjjillnllocaa.nestFits Go.Proofs.Ytakjjillnllocaa.G
set_option maxRecDepth 100000
variable {ρ : Type}
def KindsIn (L : List Int) (np nk : Nat) : Prop := ∀ i, i < 8 → L.getD i 0 = -1 ∨ (i < np ∧ ∃ kd : Nat, kd < nk ∧ L.getD i 0 = kd)
theorem iter104_loop (c : Cal) (k : Nat) (yv : Value) (sb g np nj nk : Nat) (js ks L : List Int) (hL : L.length = 8) (hK : KindsIn L np nk) (hnp : np ≤ 8) (hnk : nk ≤ 3) (Inv : Nat → Hp → Nat → Prop)
    (hR : ∀ i H n, Inv i H n → loadV P H 105 ⟨sb, 0, none⟩ = some (.pointer (some ⟨g, 0, none⟩)) ∧ ∀ p kd, p < np → kd < nk → ∃ B, BoundsTo (ks.getD (kd * 5) 0) (shP js ks nj np p kd) B 8 ∧ loadV P H 113 ⟨g, 0 + 67 + p * 99 + kd * 33, none⟩ = some (.agg ⟨ints (nestL (ks.getD (kd * 5) 0) (shP js ks nj np p kd) B)⟩))
    (hY : ∀ (i : Nat) (H : Hp) (n kd : Nat) (B : List Int), Inv i H n → i < np → kd < nk → L.getD i 0 = kd → BoundsTo (ks.getD (kd * 5) 0) (shP js ks nj np i kd) B 8 →
      ∃ H' n', (∀ k : Value → Hp → Nat → Res, callVK P c yv [.int .i64 i, .agg ⟨ints (nestL (ks.getD (kd * 5) 0) (shP js ks nj np i kd) B)⟩] H n k = k (.bool true) H' n') ∧ Inv (i + 1) H' n')
    (hSkip : ∀ (i : Nat) (H : Hp) (n : Nat), Inv i H n → L.getD i 0 = -1 → Inv (i + 1) H n) : ∀ (m i : Nat) (H : Hp) (n : Nat), Inv i H n → i ≤ 8 → 8 - i ≤ m →
    ∃ H' n', S104_1 c k m yv (.pointer (some ⟨sb, 0, none⟩)) (.agg ⟨ints L⟩) (.int .i64 i) H n = some (.tuple ⟨[]⟩, H', n') ∧ Inv 8 H' n' := by
  have body : ∀ (b1 : Value → Value → Value → Value → Hp → Nat → Res) (m i : Nat) (H : Hp) (n : Nat), Inv i H n → i ≤ 8 →
      (∀ H' n', Inv (i + 1) H' n' → i < 8 → ∃ H2 n2, b1 yv (.pointer (some ⟨sb, 0, none⟩)) (.agg ⟨ints L⟩) (.int .i64 ((i + 1 : Nat) : Int)) H' n' = some (.tuple ⟨[]⟩, H2, n2) ∧ Inv 8 H2 n2) →
      ∃ H' n', C104_1 c k m b1 yv (.pointer (some ⟨sb, 0, none⟩)) (.agg ⟨ints L⟩) (.int .i64 i) H n = some (.tuple ⟨[]⟩, H', n') ∧ Inv 8 H' n' := by
    intro b1 m i H n hI hi ih
    unfold C104_1 B104_1
    rw [binK_some bin_lss, ifK_d]
    by_cases hlt : i < 8
    · have hI1 : I64 ((i : Int) + 1) := by unfold I64; omega
      have hcast : ((i : Int) + 1) = ((i + 1 : Nat) : Int) := by omega
      rw [if_pos (by omega), index121 hL hlt, bindO_some, binK_some bin_neq]
      rcases hK i hlt with h | ⟨hip, kd, hkd, h⟩
      · have hd : decide (L.getD i 0 = -1) = true := decide_eq_true h
        simp only [hd, Bool.not_true, guardK_ft, guardK_u, pickV_f, bindO_some, ifK_f, binK_some (bin_add hI1), hcast]
        exact ih H n (hSkip i H n hI h) hlt
      · have hd : decide (L.getD i 0 = -1) = false := decide_eq_false (by omega)
        obtain ⟨r1, r2⟩ := hR _ _ _ hI
        obtain ⟨B, hB, hn⟩ := r2 i kd hip hkd
        obtain ⟨H1, n1, e1, e2⟩ := hY i H n kd B hI hip hkd h hB
        rw [hd, h]
        simp only [Bool.not_false, guardK_tt, addrV_eq, bindO_some, r1, nil_ptr, fa117_2, at115 _ _ hlt, at114 _ _ (show kd < 3 by omega), hn, e1, not_t, pickV_t, ifK_f, binK_some (bin_add hI1), hcast]
        exact ih H1 n1 e2 hlt
    · rw [if_neg (by omega)]
      have hi' : i = 8 := by omega
      subst hi'
      exact ⟨H, n, rfl, hI⟩
  intro m
  induction m with
  | zero => intro i H n h1 h2 h3; exact body _ 0 i H n h1 h2 (fun _ _ _ h => by omega)
  | succ m ih => intro i H n h1 h2 h3; exact body _ (m + 1) i H n h1 h2 (fun H' n' q1 q2 => ih (i + 1) H' n' q1 (by omega) (by omega))
noncomputable def bsum (js ks L : List Int) (nj np i e q : Nat) : Int := sumTo (fun p => if L.getD p 0 = -1 then 0 else ext (ks.getD ((L.getD p 0).toNat * 5) 0) (shP js ks nj np p (L.getD p 0).toNat) e q) i
theorem ext_mild {y : Int} {S : List Int} (hS : Bounded S) (hy : 0 ≤ y ∧ y ≤ 1000) {e q : Nat} (he : e < 2) : -10000 ≤ ext y S e q ∧ ext y S e q ≤ 10000 := by
  obtain ⟨a1, a2⟩ := hS (q * 2 + e)
  obtain ⟨b1, b2⟩ := hS (q * 2 + (1 - e))
  obtain ⟨c1, c2⟩ := total_range hS (1 - e)
  unfold ext
  match e, he with
  | 0, _ => unfold lim; simp only at *; omega
  | 1, _ => unfold lim; simp only at *; omega
theorem sumTo_mild {f : Nat → Int} {c : Int} (hc : 0 ≤ c) : ∀ {i : Nat}, (∀ k, k < i → -c ≤ f k ∧ f k ≤ c) → -(c * i) ≤ sumTo f i ∧ sumTo f i ≤ c * i
  | 0, _ => by simp [sumTo]
  | i + 1, h => by
    obtain ⟨h1, h2⟩ := sumTo_mild hc (i := i) (fun k hk => h k (by omega))
    obtain ⟨g1, g2⟩ := h i (by omega)
    simp only [sumTo]
    have : c * ((i + 1 : Nat) : Int) = c * i + c := by rw [Int.natCast_add, Int.mul_add]; simp
    omega
theorem bsum_mild {js ks L : List Int} {nj np nk i e q : Nat} (hks : KindsOk ks nk) (hnp : np ≤ 8) (hK : KindsIn L np nk) (hi : i ≤ 8) (he : e < 2) : -1000000 ≤ bsum js ks L nj np i e q ∧ bsum js ks L nj np i e q ≤ 1000000 := by
  have h := sumTo_mild (f := fun p => if L.getD p 0 = -1 then 0 else ext (ks.getD ((L.getD p 0).toNat * 5) 0) (shP js ks nj np p (L.getD p 0).toNat) e q) (c := 10000) (by omega) (i := i) (fun p hp => by
    split
    · omega
    · rename_i hne
      rcases hK p (by omega) with h | ⟨hip, kd, hkd, h⟩
      · exact absurd h hne
      · rw [h, Int.toNat_natCast]
        obtain ⟨y1, _, _⟩ := hks kd hkd
        exact ext_mild (shP_bounded hks hkd hnp hip) y1 he)
  unfold bsum
  omega
def RowIs (X : List Int) (js ks L : List Int) (nj np i : Nat) : Prop := X.length = 16 ∧ ∀ q, q < 8 → X.getD (q * 2) 0 = bsum js ks L nj np i 0 q ∧ X.getD (q * 2 + 1) 0 = bsum js ks L nj np i 1 q
theorem row_mild {X : List Int} (hl : X.length = 16) (h : ∀ q, q < 8 → (-1000000 ≤ X.getD (q * 2) 0 ∧ X.getD (q * 2) 0 ≤ 1000000) ∧ (-1000000 ≤ X.getD (q * 2 + 1) 0 ∧ X.getD (q * 2 + 1) 0 ≤ 1000000)) : Mild X := by
  intro k
  by_cases hk : k < 16
  · obtain ⟨h1, h2⟩ := h (k / 2) (by omega)
    rcases Nat.mod_two_eq_zero_or_one k with z | z
    · rw [show k / 2 * 2 = k by omega] at h1; exact h1
    · rw [show k / 2 * 2 + 1 = k by omega] at h2; exact h2
  · rw [List.getD_eq_getElem?_getD, List.getElem?_eq_none (by omega)]
    simp
theorem bounds_spec (l : Nat) {H : Hp} {n g np nj nk : Nat} {f : Nat → Value} {js ks L : List Int} (hgn : g < n) (hf : CellsF H g 859 117 f) (hn : ∀ p kd, p < np → kd < nk → NestAt f js ks nj np p kd) (hks : KindsOk ks nk) (hnp : np ≤ 8) (hnk : nk ≤ 3) (hL : L.length = 8) (hK : KindsIn L np nk) :
    ∃ X, RowIs X js ks L nj np 8 ∧ Ret ((cal (l + 4)).call 66 [.pointer (some ⟨g, 0, none⟩), .agg ⟨ints L⟩] H n) n H (.agg ⟨ints X⟩) := by
  have lens : (ints L).length = 8 := by rw [ints_length, hL]
  rw [call66, pre66]
  simp only [boxK_eq, allocK_eq zero111, cellsV, ptr]
  generalize hH0 : ((H.set n (some (.cells (ints L) 121 false none))).set (n + 1) (some (.cells (ints (List.replicate 16 0)) 111 false none))).set (n + 1 + 1) (some (.cells (ints (List.replicate 16 0)) 111 false none)) = H0
  have k0 : Keep n H H0 := fun b hb => by rw [← hH0, Tr.get_set, if_neg (by omega), Tr.get_set, if_neg (by omega), Tr.get_set, if_neg (by omega)]
  have p0 : H0.get n = some (.cells (ints L) 121 false none) := by rw [← hH0, Tr.get_set, if_neg (by omega), Tr.get_set, if_neg (by omega), Tr.get_set, if_pos rfl]
  have p1 : H0.get (n + 1) = some (.cells (ints (List.replicate 16 0)) 111 false none) := by rw [← hH0, Tr.get_set, if_neg (by omega), Tr.get_set, if_pos rfl]
  have p2 : H0.get (n + 1 + 1) = some (.cells (ints (List.replicate 16 0)) 111 false none) := by rw [← hH0, Tr.get_set, if_pos rfl]
  clear hH0
  rw [addrV_eq, bindO_some, load_all p0 agg121 sz121 lens, bindO_some, placed_call (l + 2), range66]
  generalize hH1 : (H0.set (n + 1 + 1 + 1) (some (.cells [.pointer (some ⟨g, 0, none⟩)] 105 false none))).set (n + 1 + 1 + 1 + 1) (some (.cells (ints L) 121 false none)) = H1
  have k1 : ∀ b, b < n + 1 + 1 + 1 → H1.get b = H0.get b := fun b hb => by rw [← hH1, Tr.get_set, if_neg (by omega), Tr.get_set, if_neg (by omega)]
  have q3 : H1.get (n + 1 + 1 + 1) = some (.cells [.pointer (some ⟨g, 0, none⟩)] 105 false none) := by rw [← hH1, Tr.get_set, if_neg (by omega), Tr.get_set, if_pos rfl]
  have q4 : H1.get (n + 1 + 1 + 1 + 1) = some (.cells (ints L) 121 false none) := by rw [← hH1, Tr.get_set, if_pos rfl]
  clear hH1
  generalize hT : T66 (.pointer (some ⟨g, 0, none⟩)) (.agg ⟨ints L⟩) (.pointer (some ⟨n, 0, none⟩)) (.pointer (some ⟨n + 1, 0, none⟩)) (.pointer (some ⟨n + 1 + 1, 0, none⟩)) (.agg ⟨ints L⟩) (.func (.func 104) ⟨[]⟩ ⟨[.pointer (some ⟨n + 1 + 1 + 1 + 1, 0, none⟩), .pointer (some ⟨n + 1 + 1 + 1, 0, none⟩)]⟩) = T
  have hc104 : ∀ (a b c : Value) (H : Hp) (n : Nat) (k : Value → Hp → Nat → Res), pureV b = false → callFK P (cal (l + 3)) 104 [a, b, c] H n k = bindO (C104_0 (cal (l + 2)) KK a b c H n) fun r => k r.1 r.2.1 r.2.2 := by
    intro a b c H n k hb
    unfold callFK
    have : (flatF P 104 && pureL [a, b, c]) = false := by simp [pureL, hb]
    rw [this, call104]
  rw [hc104 _ _ _ _ _ _ rfl]
  generalize hH2 : (H1.set (n + 1 + 1 + 1 + 2) (some .deferred)).set (n + 1 + 1 + 1 + 2 + 1) (some (.loop .ready none 66 T (ntm P 66) #[11, 12] asg66 bod66 (n + 1 + 1 + 1 + 2))) = H2
  have r1 : ∀ b, b < n + 1 + 1 + 1 + 2 → H2.get b = H1.get b := fun b hb => by rw [← hH2, Tr.get_set, if_neg (by omega), Tr.get_set, if_neg (by omega)]
  have r2 : H2.get (n + 1 + 1 + 1 + 2) = some .deferred := by rw [← hH2, Tr.get_set, if_neg (by omega), Tr.get_set, if_pos rfl]
  have r3 : H2.get (n + 1 + 1 + 1 + 2 + 1) = some (.loop .ready none 66 T (ntm P 66) #[11, 12] asg66 bod66 (n + 1 + 1 + 1 + 2)) := by rw [← hH2, Tr.get_set, if_pos rfl]
  clear hH2
  have hg2 : H2.get g = H.get g := by rw [r1 _ (by omega), k1 _ (by omega), k0 _ hgn]
  have l104 : loadV P H2 121 ⟨n + 1 + 1 + 1 + 1, 0, none⟩ = some (.agg ⟨ints L⟩) := load_all (by rw [r1 _ (by omega)]; exact q4) agg121 sz121 lens
  have base : RowIs (List.replicate 16 0) js ks L nj np 0 := ⟨rfl, fun q hq => by
    have z : ∀ k : Nat, (List.replicate 16 (0 : Int)).getD k 0 = 0 := by
      intro k
      rw [List.getD_eq_getElem?_getD, List.getElem?_replicate]
      split <;> rfl
    rw [z, z]; exact ⟨rfl, rfl⟩⟩
  obtain ⟨H3, n3, e3, i0, i1, X, i2, i3, i4⟩ := iter104_loop (cal (l + 2)) KK (.func (.yield (n + 1 + 1 + 1 + 2 + 1)) #[] #[]) (n + 1 + 1 + 1) g np nj nk js ks L hL hK hnp hnk
    (fun i Hc nc => n + 1 + 1 + 1 + 2 + 2 ≤ nc ∧ Hc.get (n + 1 + 1 + 1 + 2 + 1) = some (.loop .ready none 66 T (ntm P 66) #[11, 12] asg66 bod66 (n + 1 + 1 + 1 + 2)) ∧ ∃ X, Hc.get (n + 1 + 1) = some (.cells (ints X) 111 false none) ∧ (i ≤ 8 → RowIs X js ks L nj np i) ∧ ∀ b, b < n + 1 + 1 + 1 + 2 + 2 → b ≠ n + 1 + 1 + 1 + 2 + 1 → b ≠ n + 1 + 1 → Hc.get b = H2.get b)
    (fun i Hc nc ⟨_, _, X, _, _, h⟩ => by
      refine ⟨loadV_scalar (o := 0) (k := 0) (cells_at (by rw [h _ (by omega) (by omega) (by omega), r1 _ (by omega)]; exact q3)) agg105 rfl rfl rfl, fun p kd hp hkd => ?_⟩
      have cg : CellsF Hc g 859 117 f := by
        obtain ⟨c, e1, e2, e3⟩ := hf
        exact ⟨c, by rw [h _ (by omega) (by omega) (by omega), hg2]; exact e1, e2, e3⟩
      exact nest_load cg (hn p kd hp hkd) (by omega) (by omega))
    (fun i Hc nc kd B ⟨h1, h2, X, h3, h4, h5⟩ hip hkd hLi hB => by
      have hX := h4 (by omega)
      obtain ⟨y1, _, _⟩ := hks kd hkd
      have hsb := shP_bounded (js := js) (nj := nj) hks hkd hnp hip
      have mX : Mild X := row_mild hX.1 fun q hq => by
        obtain ⟨a, b⟩ := hX.2 q hq
        rw [a, b]; exact ⟨bsum_mild hks hnp hK (by omega) (by omega), bsum_mild hks hnp hK (by omega) (by omega)⟩
      have mB : Mild B := row_mild hB.1 fun q hq => by
        obtain ⟨a, b⟩ := hB.2 q hq
        have e0 := ext_mild hsb y1 (e := 0) (q := q) (by omega)
        have e1 := ext_mild hsb y1 (e := 1) (q := q) (by omega)
        rw [a, b]; omega
      rw [← hT] at h2
      obtain ⟨Z, H', z1, z2, z3, z4, z5⟩ := yield66 (ρ := Value × Hp × Nat) l (n := nc) (q0 := .int .i64 i) (y := ks.getD (kd * 5) 0) h2 h3 hX.1 (shP_len ..) hB.1 mX mB (by omega) (by omega) (by omega)
      refine ⟨H', nc + 1, z2, by omega, by rw [z3, h2, hT], Z, z4, fun _ => ⟨z1.len, fun q hq => ?_⟩, fun b hb hb1 hb2 => (z5 b (by omega) hb1 hb2).trans (h5 b hb hb1 hb2)⟩
      obtain ⟨a1, a2⟩ := z1.below q hq
      obtain ⟨b1, b2⟩ := hX.2 q hq
      obtain ⟨c1, c2⟩ := hB.2 q hq
      have hne : ¬ L.getD i 0 = -1 := by omega
      rw [a1, a2, b1, b2, c1, c2]
      unfold bsum
      simp only [sumTo]
      rw [if_neg hne, if_neg hne, hLi, Int.toNat_natCast]
      exact ⟨rfl, rfl⟩)
    (fun i Hc nc ⟨h1, h2, X, h3, h4, h5⟩ hLi => ⟨h1, h2, X, h3, fun h8 => ⟨(h4 (by omega)).1, fun q hq => by
      obtain ⟨b1, b2⟩ := (h4 (by omega)).2 q hq
      rw [b1, b2]
      unfold bsum
      simp only [sumTo]
      rw [if_pos hLi, if_pos hLi]
      omega⟩, h5⟩)
    KK 0 H2 (n + 1 + 1 + 1 + 2 + 2) ⟨Nat.le_refl _, r3, List.replicate 16 0, by rw [r1 _ (by omega), k1 _ (by omega)]; exact p2, fun _ => base, fun _ _ _ _ => rfl⟩ (by omega) (by unfold KK; omega)
  have e3' : C104_0 (cal (l + 2)) KK (.func (.yield (n + 1 + 1 + 1 + 2 + 1)) #[] #[]) (.pointer (some ⟨n + 1 + 1 + 1 + 1, 0, none⟩)) (.pointer (some ⟨n + 1 + 1 + 1, 0, none⟩)) H2 (n + 1 + 1 + 1 + 2 + 2) = some (.tuple ⟨[]⟩, H3, n3) := by
    unfold C104_0 B104_0
    rw [addrV_eq, bindO_some, l104, bindO_some]
    exact e3
  rw [e3', bindO_some]
  have hout : rangeOut (n + 1 + 1 + 1 + 2 + 1) { T := T, H := H3, n := n3, D := [n + 1 + 1 + 1 + 2] } = some (.norm, { T := T, H := H3.set (n + 1 + 1 + 1 + 2 + 1) (some (.loop .exhausted none 66 T (ntm P 66) #[11, 12] asg66 bod66 (n + 1 + 1 + 1 + 2))), n := n3, D := [n + 1 + 1 + 1 + 2] }) := by
    unfold rangeOut
    simp only [i1]
  rw [hout]
  show ∃ X, RowIs X js ks L nj np 8 ∧ Ret (K66 (cal (l + 3)) KK T (H3.set (n + 1 + 1 + 1 + 2 + 1) (some (.loop .exhausted none 66 T (ntm P 66) #[11, 12] asg66 bod66 (n + 1 + 1 + 1 + 2)))) n3 [n + 1 + 1 + 1 + 2]) n H (.agg ⟨ints X⟩)
  have hRow := i3 (by omega)
  have lX : (ints X).length = 16 := by rw [ints_length, hRow.1]
  generalize hH4 : H3.set (n + 1 + 1 + 1 + 2 + 1) (some (.loop .exhausted none 66 T (ntm P 66) #[11, 12] asg66 bod66 (n + 1 + 1 + 1 + 2))) = H4
  have o1 : ∀ b, b < n + 1 + 1 + 1 + 2 + 2 → b ≠ n + 1 + 1 + 1 + 2 + 1 → b ≠ n + 1 + 1 → H4.get b = H2.get b := fun b hb hb1 hb2 => by rw [← hH4, Tr.get_set, if_neg hb1]; exact i4 b hb hb1 hb2
  have o2 : H4.get (n + 1 + 1) = some (.cells (ints X) 111 false none) := by rw [← hH4, Tr.get_set, if_neg (by omega)]; exact i2
  clear hH4 hout
  have o3 : H4.get (n + 1) = some (.cells (ints (List.replicate 16 0)) 111 false none) := by rw [o1 _ (by omega) (by omega) (by omega), r1 _ (by omega), k1 _ (by omega)]; exact p1
  have o4 : H4.get (n + 1 + 1 + 1 + 2) = some .deferred := by rw [o1 _ (by omega) (by omega) (by omega)]; exact r2
  refine ⟨X, hRow, ?_⟩
  rw [← hT, post66, addrV_eq, bindO_some, load_all o2 agg111 sz111 lX, bindO_some, storeP_agg sz111 lX, storeN_all o3 (by rw [lX]; rfl) (ints_leaf _), bindO_some]
  generalize hH6 : H4.set (n + 1) (some (.cells (ints X) 111 false none)) = H6
  have u1 : H6.get (n + 1) = some (.cells (ints X) 111 false none) := by rw [← hH6, Tr.get_set, if_pos rfl]
  have u2 : ∀ b, b ≠ n + 1 → H6.get b = H4.get b := fun b hb => by rw [← hH6, Tr.get_set, if_neg hb]
  clear hH6
  have ht : takeD H6 [n + 1 + 1 + 1 + 2] = some (H6.set (n + 1 + 1 + 1 + 2) none) := by
    have : H6.get (n + 1 + 1 + 1 + 2) = some .deferred := by rw [u2 _ (by omega)]; exact o4
    unfold takeD
    simp only [this]
    rfl
  rw [ht]
  show Ret (bindO (resV P ((Tr.nil : Tm).set 4 (some (.pointer (some ⟨n + 1, 0, none⟩)))) (H6.set (n + 1 + 1 + 1 + 2) none) results66) fun vs => some (oneV vs, H6.set (n + 1 + 1 + 1 + 2) none, n3)) n H _
  rw [res66, load_all (t := 111) (s := 16) (L := ints X) (e := 111) (vec := none) (by rw [Tr.get_set, if_neg (by omega)]; exact u1) agg111 sz111 lX]
  refine ⟨_, _, rfl, by omega, fun b hb => ?_⟩
  rw [Tr.get_set, if_neg (by omega), u2 _ (by omega), o1 _ (by omega) (by omega) (by omega), r1 _ (by omega), k1 _ (by omega), k0 _ hb]
end Go.Proofs.Ytakjjillnllocaa.spec
namespace Go.Proofs.Ytakjjillnllocaa.spec
open Go Go.Ev Go.Proofs.Ytakjjillnllocaa.nestFits Go.Proofs.Ytakjjillnllocaa.G
set_option maxRecDepth 100000
variable {ρ : Type}
theorem laid_kinds {js ks ls : List Int} {nj np nk : Nat} (hl : ls.length = np) (hok : laidOk js ks ls nj np nk) : KindsIn (laidL ls np) np nk := by
  intro i hi
  rcases Nat.lt_or_ge i np with h | h
  · rw [laidL_in hl h]
    rcases hok i h with q | ⟨q1, q2, _⟩
    · exact .inl q
    · exact .inr ⟨h, (ls.getD i 0).toNat, by omega, by omega⟩
  · exact .inl (laidL_out hl h hi)
theorem limit_loads {H : Hp} {n g np p : Nat} {f : Nat → Value} {x y z : Value} {ps js X : List Int} {nj b : Nat} (hf : CellsF H g 859 117 f) (hs : SiteF f x y z js nj) (hx : SliceR H n 2 x np ps) (hp : p < np) (hnp : np ≤ 8) (hb : H.get b = some (.cells (ints X) 111 false none)) (hX : X.length = 16) :
    loadV P H 31 ⟨g, 0 + 0 + 0, none⟩ = some x ∧ loadV P H 3 ⟨b, 0 + p * 2 + 0, none⟩ = some (.int .i64 (X.getD (p * 2) 0)) ∧ loadV P H 3 ⟨b, 0 + p * 2 + 1, none⟩ = some (.int .i64 (X.getD (p * 2 + 1) 0)) ∧
      ∃ rb o, indexAddrV P 31 x (.int .i64 p) = some (.pointer (some ⟨rb, o, none⟩)) ∧ loadV P H 3 ⟨rb, o + 0, none⟩ = some (.int .i64 (ps.getD (p * 2) 0)) ∧ loadV P H 3 ⟨rb, o + 1, none⟩ = some (.int .i64 (ps.getD (p * 2 + 1) 0)) := by
  refine ⟨?_, ?_, ?_, ?_⟩
  · have := hf.load (P := P) (k := 0) agg31 (by omega)
    rw [hs.x] at this; exact this
  · rw [show 0 + p * 2 + 0 = p * 2 by omega]; exact load_int_at hb (by omega)
  · rw [show 0 + p * 2 + 1 = p * 2 + 1 by omega]; exact load_int_at hb (by omega)
  · obtain ⟨rb, o, hix, _, hc⟩ := hx.at_ und31 sz90 hp
    have hl : p * 2 + 2 ≤ ps.length := by rw [hx.1]; omega
    refine ⟨rb, o + p * 2, hix, ?_, ?_⟩
    · rw [show o + p * 2 + 0 = o + (p * 2) by omega]; exact loadV_int hc agg3 (ints_get (getD_some (by omega)))
    · rw [show o + p * 2 + 1 = o + (p * 2 + 1) by omega]; exact loadV_int hc agg3 (ints_get (getD_some (by omega)))
theorem call68 (l : Nat) (a b c : Value) (H : Hp) (n : Nat) : (cal (l + 1)).call 68 [a, b, c] H n = C68_0 (cal l) KK a b c H n := by kernel_rfl
theorem call69 (l : Nat) (a b c : Value) (H : Hp) (n : Nat) : (cal (l + 1)).call 69 [a, b, c] H n = C69_0 (cal l) KK a b c H n := by kernel_rfl
theorem missed_call (l : Nat) {H : Hp} {n g np p : Nat} {f : Nat → Value} {x y z : Value} {ps js X : List Int} {nj : Nat} (hgn : g < n) (hf : CellsF H g 859 117 f) (hs : SiteF f x y z js nj) (hx : SliceR H n 2 x np ps) (hp : p < np) (hnp : np ≤ 8) (hX : X.length = 16) :
    ∃ H' n', (∀ k : Value → Hp → Nat → Option ρ, callFK P (cal (l + 1)) 68 [.pointer (some ⟨g, 0, none⟩), .agg ⟨ints X⟩, .int .i64 p] H n k = k (.bool (decide (X.getD (p * 2) 0 < ps.getD (p * 2) 0))) H' n') ∧ n ≤ n' ∧ Keep n H H' := by
  have hk : Keep n H (H.set n (some (.cells (ints X) 111 false none))) := (Keep.refl n H).set (Nat.le_refl _) _
  have hb : (H.set n (some (.cells (ints X) 111 false none))).get n = some (.cells (ints X) 111 false none) := by rw [Tr.get_set, if_pos rfl]
  refine ⟨H.set n (some (.cells (ints X) 111 false none)), n + 1, fun k => ?_, by omega, hk⟩
  unfold callFK
  have : (flatF P 68 && pureL [.pointer (some ⟨g, 0, none⟩), .agg ⟨ints X⟩, .int .i64 p]) = false := by rw [Bool.and_eq_false_iff]; exact .inr rfl
  rw [this, call68]
  unfold C68_0 B68_0
  rw [boxK_eq]
  simp only [cellsV, ptr]
  obtain ⟨a1, a2, a3, rb, o, a4, a5, a6⟩ := limit_loads (hf.keep hk hgn) hs ((hx.keep hk (Nat.le_refl _)).up (show n ≤ n + 1 by omega)) hp hnp hb hX
  rw [at111 n 0 (by omega), bindO_some, fa53_0, bindO_some, addrV_eq, bindO_some, a2, bindO_some, nil_ptr, bindO_some, fa117_0, bindO_some, fa35_0, bindO_some, addrV_eq, bindO_some, a1, bindO_some, a4, bindO_some, fa90_0, bindO_some, addrV_eq, bindO_some, a5, bindO_some, binK_some bin_lss]
  rfl
theorem over_call (l : Nat) {H : Hp} {n g np p : Nat} {f : Nat → Value} {x y z : Value} {ps js X : List Int} {nj : Nat} (hgn : g < n) (hf : CellsF H g 859 117 f) (hs : SiteF f x y z js nj) (hx : SliceR H n 2 x np ps) (hp : p < np) (hnp : np ≤ 8) (hX : X.length = 16) :
    ∃ H' n', (∀ k : Value → Hp → Nat → Option ρ, callFK P (cal (l + 1)) 69 [.pointer (some ⟨g, 0, none⟩), .agg ⟨ints X⟩, .int .i64 p] H n k = k (.bool (decide (ps.getD (p * 2 + 1) 0 < X.getD (p * 2 + 1) 0))) H' n') ∧ n ≤ n' ∧ Keep n H H' := by
  have hk : Keep n H (H.set n (some (.cells (ints X) 111 false none))) := (Keep.refl n H).set (Nat.le_refl _) _
  have hb : (H.set n (some (.cells (ints X) 111 false none))).get n = some (.cells (ints X) 111 false none) := by rw [Tr.get_set, if_pos rfl]
  refine ⟨H.set n (some (.cells (ints X) 111 false none)), n + 1, fun k => ?_, by omega, hk⟩
  unfold callFK
  have : (flatF P 69 && pureL [.pointer (some ⟨g, 0, none⟩), .agg ⟨ints X⟩, .int .i64 p]) = false := by rw [Bool.and_eq_false_iff]; exact .inr rfl
  rw [this, call69]
  unfold C69_0 B69_0
  rw [boxK_eq]
  simp only [cellsV, ptr]
  obtain ⟨a1, a2, a3, rb, o, a4, a5, a6⟩ := limit_loads (hf.keep hk hgn) hs ((hx.keep hk (Nat.le_refl _)).up (show n ≤ n + 1 by omega)) hp hnp hb hX
  rw [at111 n 0 (by omega), bindO_some, fa53_1, bindO_some, addrV_eq, bindO_some, a3, bindO_some, nil_ptr, bindO_some, fa117_0, bindO_some, fa35_0, bindO_some, addrV_eq, bindO_some, a1, bindO_some, a4, bindO_some, fa90_1, bindO_some, addrV_eq, bindO_some, a6, bindO_some, binK_some bin_gtr]
  rfl
theorem sl45 : sliceElem P 45 = some 53 := by kernel_rfl
theorem by53 : bytesT P 53 = some 16 := by kernel_rfl
theorem und45 : P.underlying 45 = some (.slice 53) := by kernel_rfl
theorem row45_0 : rowOf P 45 0 [] = some ([], 53) := by kernel_rfl
theorem eq45 (p q : Operand) (b l c : Nat) : binV P .eql 45 p q (.slice (some ⟨b, 0, none⟩) l c) (.slice none 0 0) = some (.bool false) := by kernel_rfl
theorem slice111 (b : Nat) {np : Nat} (h : np ≤ 8) : sliceV P 111 (.pointer (some ⟨b, 0, none⟩)) none (some (.int .i64 np)) = some (.slice (some ⟨b, 0, none⟩) np 8) := by
  show sliceV P 111 (.pointer (some ⟨b, 0, none⟩)) none (some (.int .i64 (.ofNat np))) = _
  unfold sliceV
  simp [und111, sz53, boundsV, hiV, loV, bndIn, h, capV, addA]
theorem clone_spec (c : Cal) (k : Nat) {H : Hp} {n b np : Nat} {X : List Int} (hb : H.get b = some (.cells (ints X) 111 false none)) (hbn : b < n) (hX : X.length = 16) (h1 : 0 < np) (h8 : np ≤ 8) :
    ∃ H' n' cp, C67_0 c k (.slice (some ⟨b, 0, none⟩) np 8) H n = some (.slice (some ⟨n + 1, 0, none⟩) np cp, H', n') ∧ n + 1 < n' ∧ Keep n H H' ∧ CellsAt H' (n + 1) 0 (ints (X.take (np * 2))) := by
  unfold C67_0 B67_0
  rw [binK_some (eq45 ..), ifK_f]
  unfold rowK
  rw [row45_0, bindO_some]
  unfold newK
  dsimp only
  have hk : Keep n H (H.set n (some (.cells [] 53 false none))) := (Keep.refl n H).set (Nat.le_refl _) _
  have hg : (H.set n (some (.cells [] 53 false none))).get n = some (.cells [] 53 false none) := by rw [Tr.get_set, if_pos rfl]
  have hb1 := (hk b hbn).trans hb
  generalize H.set n (some (.cells [] 53 false none)) = H1 at hk hg hb1 ⊢
  have hold : loadN H1 ⟨n, 0, none⟩ (0 * 2) = some [] := loadN_all (L := []) (cells_at hg) rfl rfl
  have hbig : bigOk (0 + np) 2 16 = true := by unfold bigOk; simp; omega
  have hbz : Nat.beq (cellsV (.agg #[.int .i64 0, .int .i64 0])).length 2 = true := rfl
  have c0 : Nat.blt 0 capV = true := by decide +kernel
  have c1 : Nat.ble np 0 = false := by
    cases np with
    | zero => omega
    | succ m => rfl
  have hsrc : srcCells H1 2 (.slice (some ⟨b, 0, none⟩) np 8) = some (ints (X.take (np * 2)), np) := by
    have := loadN_at (s := np * 2) (k := 0) (cells_at hb1) (by rw [ints_length]; omega) (ints_noHole _)
    unfold srcCells
    rw [Nat.add_zero, List.drop_zero] at this
    have e : (ints X).take (np * 2) = ints (X.take (np * 2)) := by simp [ints, List.map_take]
    rw [e] at this
    simp only [this]
  have ha : appendV P (bare H1 (n + 1)) 45 45 (.slice (some ⟨n, 0, none⟩) 0 0) (.slice (some ⟨b, 0, none⟩) np 8) = some (.slice (some ⟨n + 1, 0, none⟩) np capV, bare (H1.set (n + 1) (some (.cells (ints (X.take (np * 2))) 53 false (some 2)))) (n + 1 + 1)) := by
    unfold appendV
    have hs : srcCells (bare H1 (n + 1)).H 2 (.slice (some ⟨b, 0, none⟩) np 8) = some (ints (X.take (np * 2)), np) := hsrc
    have hold' : loadN (bare H1 (n + 1)).H ⟨n, 0, none⟩ (0 * 2) = some [] := hold
    simp only [sl45, sz53, by53, zero53, hs, hbz, hold', hbig]
    unfold appendTo
    simp only [c0, c1, growV, bare, pushB, List.nil_append, Nat.zero_add]
  unfold stK
  rw [ha, bindO_some]
  dsimp only [bare]
  exact ⟨_, _, _, rfl, by omega, hk.set (by omega) _, cells_at (by rw [Tr.get_set, if_pos rfl])⟩
theorem flat67 : flatF P 67 = false := by kernel_rfl
theorem call67 (l : Nat) (a : Value) (H : Hp) (n : Nat) : (cal (l + 1)).call 67 [a] H n = C67_0 (cal l) KK a H n := by kernel_rfl
theorem clone_call (l : Nat) (a : Value) (H : Hp) (n : Nat) (k : Value → Hp → Nat → Option ρ) : callFK P (cal (l + 1)) 67 [a] H n k = bindO (C67_0 (cal l) KK a H n) fun r => k r.1 r.2.1 r.2.2 := by
  unfold callFK
  rw [flat67, call67]
  rfl
theorem bounds_call (l : Nat) {H : Hp} {n g np nj nk : Nat} {f : Nat → Value} {js ks L : List Int} (hgn : g < n) (hf : CellsF H g 859 117 f) (hn : ∀ p kd, p < np → kd < nk → NestAt f js ks nj np p kd) (hks : KindsOk ks nk) (hnp : np ≤ 8) (hnk : nk ≤ 3) (hL : L.length = 8) (hK : KindsIn L np nk) :
    ∃ X H' n', RowIs X js ks L nj np 8 ∧ (∀ k : Value → Hp → Nat → Option ρ, callFK P (cal (l + 4)) 66 [.pointer (some ⟨g, 0, none⟩), .agg ⟨ints L⟩] H n k = k (.agg ⟨ints X⟩) H' n') ∧ n ≤ n' ∧ Keep n H H' := by
  obtain ⟨X, hX, H', n', e, h1, h2⟩ := bounds_spec l hgn hf hn hks hnp hnk hL hK
  refine ⟨X, H', n', hX, fun k => ?_, h1, h2⟩
  unfold callFK
  have : (flatF P 66 && pureL [.pointer (some ⟨g, 0, none⟩), .agg ⟨ints L⟩]) = false := by rw [Bool.and_eq_false_iff]; exact .inr rfl
  rw [this, e]
  rfl
def BoundsOut (r : Res) (n : Nat) (H : Hp) (np nj : Nat) (js ks ls : List Int) : Prop := ∃ (b cp : Nat) (X : List Int) (H' : Hp) (n' : Nat), r = some (.tuple ⟨[.slice (some ⟨b, 0, none⟩) np cp, .int .i64 0]⟩, H', n') ∧ n ≤ n' ∧ Keep n H H' ∧ b < n' ∧
  RowIs X js ks (laidL ls np) nj np 8 ∧ CellsAt H' b 0 (ints (X.take (np * 2)))
theorem Bounds_spec (l : Nat) {np nj nk nl : Nat} {ps js ks ls : List Int} {H : Hp} {n : Nat} {v w : Value} (hg : GroveP H n v np nj nk ps js ks) (hw : ListR H n w nl ls) (hnp : np ≤ 1000) (hnj : nj ≤ 1000) (hnk : nk ≤ 1000) :
    (placedN np nj nk nl ps js ks ls ≠ 0 → Ret (C22_0 (cal (l + 7)) KK v w H n) n H (.tuple ⟨[.slice none 0 0, .int .i64 (placedN np nj nk nl ps js ks ls)]⟩)) ∧
    (placedN np nj nk nl ps js ks ls = 0 → BoundsOut (C22_0 (cal (l + 7)) KK v w H n) n H np nj js ks ls) := by
  have hg0 := hg
  obtain ⟨x, y, z, rfl, h1, h2, h3⟩ := hg
  unfold C22_0 B22_0
  rw [boxK_eq]
  simp only [cellsV, ptr]
  have hk : Keep n H (H.set n (some (.cells [x, y, z] 35 false none))) := (Keep.refl n H).set (Nat.le_refl _) _
  have hb : CellsAt (H.set n (some (.cells [x, y, z] 35 false none))) n 0 [x, y, z] := CellsAt.new
  generalize H.set n (some (.cells [x, y, z] 35 false none)) = H1 at hk hb ⊢
  have lg : loadV P H1 35 ⟨n, 0, none⟩ = some (.agg ⟨[x, y, z]⟩) := loadV_agg (o := 0) (k := 0) hb agg35 sz35 (by simp) (by simp [h1.hole.1, h2.hole.1, h3.hole.1])
  obtain ⟨o1, o2⟩ := openLaid_spec l (hg0.keep hk (show n ≤ n + 1 by omega)) (hw.keep hk (show n ≤ n + 1 by omega)) hnp hnj hnk
  rw [addrV_eq, bindO_some, lg, bindO_some, openLaid_call]
  constructor
  · intro hne
    obtain ⟨H2, n2, e1, e2, e3⟩ := o1 hne
    have t0 : tupV (.tuple ⟨[.pointer none, .agg ⟨ints (List.replicate 8 0)⟩, .int .i64 (placedN np nj nk nl ps js ks ls)]⟩) 0 = some (.pointer none) := rfl
    have t1 : tupV (.tuple ⟨[.pointer none, .agg ⟨ints (List.replicate 8 0)⟩, .int .i64 (placedN np nj nk nl ps js ks ls)]⟩) 1 = some (.agg ⟨ints (List.replicate 8 0)⟩) := rfl
    have t2 : tupV (.tuple ⟨[.pointer none, .agg ⟨ints (List.replicate 8 0)⟩, .int .i64 (placedN np nj nk nl ps js ks ls)]⟩) 2 = some (.int .i64 (placedN np nj nk nl ps js ks ls)) := rfl
    obtain ⟨H3, k1, k2, k3⟩ := spill (P := P) (ρ := Value × Hp × Nat) (H := H2) (n := n2) (L := ints (List.replicate 8 0)) zero121 rfl sz121 rfl (ints_leaf _)
    rw [e1, bindO_some, t0, bindO_some, t1, bindO_some, t2, bindO_some, k3, binK_some bin_neq, decide_eq_false hne, Bool.not_false, ifK_t]
    exact ⟨H3, n2 + 1, rfl, by omega, (hk.trans e3 (by omega)).trans k1 (by omega)⟩
  · intro he
    obtain ⟨⟨g, x', y', z', f, H2, n2, e1, e2, e3, e4, e5, e6, e7, e8, e9⟩, hnl, hok, hft⟩ := o2 he
    simp only [Value.agg.injEq, Array.mk.injEq, List.cons.injEq, and_true] at e6
    obtain ⟨rfl, rfl, rfl⟩ := e6
    have good := good_of hft
    subst hnl
    have l8 := laidL_len hw.1 good.np8
    have lens : (ints (laidL ls nl)).length = 8 := by rw [ints_length, l8]
    have t0 : tupV (.tuple ⟨[.pointer (some ⟨g, 0, none⟩), .agg ⟨ints (laidL ls nl)⟩, .int .i64 0]⟩) 0 = some (.pointer (some ⟨g, 0, none⟩)) := rfl
    have t1 : tupV (.tuple ⟨[.pointer (some ⟨g, 0, none⟩), .agg ⟨ints (laidL ls nl)⟩, .int .i64 0]⟩) 1 = some (.agg ⟨ints (laidL ls nl)⟩) := rfl
    have t2 : tupV (.tuple ⟨[.pointer (some ⟨g, 0, none⟩), .agg ⟨ints (laidL ls nl)⟩, .int .i64 0]⟩) 2 = some (.int .i64 0) := rfl
    have d0 : decide ((0 : Int) = 0) = true := rfl
    obtain ⟨H3, k1, k2, k3⟩ := spill (P := P) (ρ := Value × Hp × Nat) (H := H2) (n := n2) (L := ints (laidL ls nl)) zero121 rfl sz121 lens (ints_leaf _)
    rw [e1, bindO_some, t0, bindO_some, t1, bindO_some, t2, bindO_some, k3, binK_some bin_neq, d0, Bool.not_true, ifK_f, addrV_eq, bindO_some, load_all k2 agg121 sz121 lens, bindO_some]
    have f3 := e7.keep k1 e5
    obtain ⟨X, H4, n4, hX, b1, b2, b3⟩ := bounds_call (ρ := Value × Hp × Nat) (l + 3) (n := n2 + 1) (by omega) f3 e9 good.kinds good.np8 good.nk3 l8 (laid_kinds hw.1 hok)
    have lX : (ints X).length = 16 := by rw [ints_length, hX.1]
    have f4 := f3.keep b3 (by omega)
    obtain ⟨H5, c1, c2, c3⟩ := spill (P := P) (ρ := Value × Hp × Nat) (H := H4) (n := n4) (L := ints X) zero111 rfl sz111 lX (ints_leaf _)
    rw [b1, c3]
    have f5 := f4.keep c1 (by omega)
    have lx : loadV P H5 31 ⟨g, 0 + 0 + 0, none⟩ = some x := by
      have := f5.load (P := P) (k := 0) agg31 (by omega)
      rw [e8.x] at this; exact this
    have hlx : lenV P 31 x = some (.int .i64 nl) := h1.len_eq und31
    rw [nil_ptr, bindO_some, fa117_0, bindO_some, fa35_0, bindO_some, addrV_eq, bindO_some, lx, bindO_some, hlx, bindO_some, slice111 _ good.np8, bindO_some, clone_call (l + 6)]
    obtain ⟨H6, n6, cp, d1, d2, d3, d4⟩ := clone_spec (cal (l + 6)) KK c2 (show n4 < n4 + 1 by omega) hX.1 (by have := good.np1; omega) good.np8
    rw [d1, bindO_some]
    refine ⟨n4 + 1 + 1, cp, X, H6, n6, rfl, by omega, fun b hb => ?_, d2, hX, d4⟩
    rw [d3 b (by omega), c1 b (by omega), b3 b (by omega), k1 b (by omega), e3 b (by omega), hk b hb]
theorem flat22 : flatF P 22 = false := by kernel_rfl
theorem call22 (l : Nat) (a b : Value) (H : Hp) (n : Nat) : (cal (l + 1)).call 22 [a, b] H n = C22_0 (cal l) KK a b H n := by kernel_rfl
theorem Bounds_call (l : Nat) (v w : Value) (H : Hp) (n : Nat) (k : Value → Hp → Nat → Option ρ) : callFK P (cal (l + 8)) 22 [v, w] H n k = bindO (C22_0 (cal (l + 7)) KK v w H n) fun r => k r.1 r.2.1 r.2.2 := by
  unfold callFK
  rw [flat22, call22]
  rfl
end Go.Proofs.Ytakjjillnllocaa.spec
namespace Go.Proofs.Ytakjjillnllocaa.spec
open Go Go.Ev Go.Proofs.Ytakjjillnllocaa.nestFits Go.Proofs.Ytakjjillnllocaa.G
set_option maxRecDepth 100000
variable {ρ : Type}
theorem push_int {H : Hp} {base n len : Nat} {u : Value} {xs : List Int} (h : VecAt H base n 1 3 u len xs) (hb : base ≤ n) (hlen : len ≤ 1000) (i : Int) :
    ∃ u' H', (∀ k : Value → Hp → Nat → Option ρ, (rowK P 44 1 [(0, .int .i64 i)] H n fun v H n => stK (appendV P (bare H n) 44 44 u v) k) = k u' H' (n + 1 + 1)) ∧ VecAt H' base (n + 1 + 1) 1 3 u' (len + 1) (xs ++ [i]) ∧
      (∀ b, b < n → ¬ blockIs u b → H'.get b = H.get b) ∧ ∀ b, blockIs u' b → n ≤ b := by
  have hrow : CellsAt (H.set n (some (.cells [.int .i64 i] 3 false none))) n 0 (ints [i]) := CellsAt.new
  have hkn : ∀ b, b < n → (H.set n (some (.cells [.int .i64 i] 3 false none))).get b = H.get b := fun b hb => by rw [Tr.get_set, if_neg (by omega)]
  have hv := h.same (H' := H.set n (some (.cells [.int .i64 i] 3 false none))) (show n ≤ n + 1 by omega) fun b hb _ => hkn b hb
  obtain ⟨H', ea, ev, eo⟩ := append_vec (P := P) (t := 44) (t2 := 44) (cap2 := 1) hv sl44 sl44 sz3 by3 zero3 rfl hrow rfl (by omega) (by omega) (by omega) (by omega)
  refine ⟨_, H', fun k => ?_, ev, fun b hb hn => (eo b (by omega) hn).trans (hkn b hb), fun b hb => by rw [slice_new hb]; omega⟩
  unfold rowK
  rw [row44, bindO_some]
  unfold newK stK
  dsimp only
  rw [ea, bindO_some]
  rfl
def listOf (q : Nat → Bool) (i : Nat) : List Int := ((List.range i).filter q).map fun (p : Nat) => (p : Int)
theorem listOf_next (q : Nat → Bool) (i : Nat) : listOf q (i + 1) = listOf q i ++ if q i = true then [(i : Int)] else [] := by
  unfold listOf
  rw [List.range_succ, List.filter_append, List.map_append]
  congr 1
  simp only [List.filter_cons, List.filter_nil]
  split <;> rfl
theorem listOf_small (q : Nat → Bool) (i : Nat) (hi : i ≤ 1000) : (listOf q i).length ≤ i ∧ ∀ x ∈ listOf q i, I64 x := by
  refine ⟨?_, fun x hx => ?_⟩
  · unfold listOf
    rw [List.length_map]
    exact Nat.le_trans (List.length_filter_le ..) (by simp)
  · unfold listOf at hx
    obtain ⟨p, h1, rfl⟩ := List.mem_map.1 hx
    have := List.mem_range.1 (List.mem_filter.1 h1).1
    unfold I64; omega
def missB (X ps : List Int) (p : Nat) : Bool := decide (X.getD (p * 2) 0 < ps.getD (p * 2) 0)
def overB (X ps : List Int) (p : Nat) : Bool := decide (ps.getD (p * 2 + 1) 0 < X.getD (p * 2 + 1) 0)
structure FL (H : Hp) (base n g b9 : Nat) (f : Nat → Value) (X : List Int) (u4 u5 : Value) (q4 q5 : List Int) : Prop where
  site : CellsF H g 859 117 f
  row : H.get b9 = some (.cells (ints X) 111 false none)
  gl : g < base
  bl : b9 < base
  bn : base ≤ n
  v4 : VecAt H base n 1 3 u4 q4.length q4
  v5 : VecAt H base n 1 3 u5 q5.length q5
  off : ∀ k, blockIs u4 k → ¬ blockIs u5 k
theorem FL.keep {H H' : Hp} {base n m g b9 : Nat} {f : Nat → Value} {X : List Int} {u4 u5 : Value} {q4 q5 : List Int} (h : FL H base n g b9 f X u4 u5 q4 q5) (hk : Keep n H H') (hm : n ≤ m) : FL H' base m g b9 f X u4 u5 q4 q5 := by
  obtain ⟨h1, h2, h3, h4, h5, h6, h7, h8⟩ := h
  exact ⟨h1.keep hk (by omega), (hk b9 (by omega)).trans h2, h3, h4, by omega, h6.same hm fun b hb _ => hk b hb, h7.same hm fun b hb _ => hk b hb, h8⟩
theorem FL.push4 {H H' : Hp} {base n m g b9 : Nat} {f : Nat → Value} {X : List Int} {u4 u5 u : Value} {q4 q5 : List Int} {i : Int} (h : FL H base n g b9 f X u4 u5 q4 q5) (hv : VecAt H' base m 1 3 u (q4.length + 1) (q4 ++ [i])) (hm : n ≤ m) (ho : ∀ b, b < n → ¬ blockIs u4 b → H'.get b = H.get b) (hf : ∀ b, blockIs u b → n ≤ b) :
    FL H' base m g b9 f X u u5 (q4 ++ [i]) q5 := by
  obtain ⟨h1, h2, h3, h4, h5, h6, h7, h8⟩ := h
  have low : ∀ b, b < base → ¬ blockIs u4 b := fun b hb q => by have := (h6.low q).1; omega
  obtain ⟨c, e1, e2, e3⟩ := h1
  refine ⟨⟨c, by rw [ho g (by omega) (low g h3)]; exact e1, e2, e3⟩, by rw [ho b9 (by omega) (low b9 h4)]; exact h2, h3, h4, by omega, by rw [List.length_append]; exact hv, h7.same hm fun b hb hblk => ho b hb fun q => h8 b q hblk, fun k q1 q2 => ?_⟩
  have := hf k q1
  have := (h7.low q2).2
  omega
theorem FL.push5 {H H' : Hp} {base n m g b9 : Nat} {f : Nat → Value} {X : List Int} {u4 u5 u : Value} {q4 q5 : List Int} {i : Int} (h : FL H base n g b9 f X u4 u5 q4 q5) (hv : VecAt H' base m 1 3 u (q5.length + 1) (q5 ++ [i])) (hm : n ≤ m) (ho : ∀ b, b < n → ¬ blockIs u5 b → H'.get b = H.get b) (hf : ∀ b, blockIs u b → n ≤ b) :
    FL H' base m g b9 f X u4 u q4 (q5 ++ [i]) := by
  obtain ⟨h1, h2, h3, h4, h5, h6, h7, h8⟩ := h
  have low : ∀ b, b < base → ¬ blockIs u5 b := fun b hb q => by have := (h7.low q).1; omega
  obtain ⟨c, e1, e2, e3⟩ := h1
  refine ⟨⟨c, by rw [ho g (by omega) (low g h3)]; exact e1, e2, e3⟩, by rw [ho b9 (by omega) (low b9 h4)]; exact h2, h3, h4, by omega, h6.same hm fun b hb hblk => ho b hb fun q => h8 b hblk q, by rw [List.length_append]; exact hv, fun k q1 q2 => ?_⟩
  have := hf k q2
  have := (h6.low q1).2
  omega
def FaultsOut (r : Res) (n : Nat) (H : Hp) (X ps : List Int) (np : Nat) : Prop := ∃ (u4 u5 : Value) (H' : Hp) (n' : Nat), r = some (.tuple ⟨[u4, u5, .int .i64 0]⟩, H', n') ∧ n ≤ n' ∧ Keep n H H' ∧
  ListR H' n' u4 (listOf (missB X ps) np).length (listOf (missB X ps) np) ∧ ListR H' n' u5 (listOf (overB X ps) np).length (listOf (overB X ps) np)
theorem faults_loop (l k : Nat) {H0 : Hp} {n0 base g b9 np nj : Nat} {f : Nat → Value} {x y z : Value} {ps js X : List Int} (hs : SiteF f x y z js nj) (hx : SliceR H0 n0 2 x np ps) (hnp : np ≤ 8) (hX : X.length = 16) (h0 : n0 ≤ base) : ∀ (m i : Nat) (u4 u5 : Value) (H : Hp) (n : Nat), Keep n0 H0 H →
    FL H base n g b9 f X u4 u5 (listOf (missB X ps) i) (listOf (overB X ps) i) → i ≤ np → np - i ≤ m →
    FaultsOut (S24_1 (cal (l + 1)) k m u4 u5 (.pointer (some ⟨g, 0, none⟩)) (.pointer (some ⟨b9, 0, none⟩)) (.int .i64 np) (.int .i64 i) H n) n0 H0 X ps np := by
  have body : ∀ (b1 : Value → Value → Value → Value → Value → Value → Hp → Nat → Res) (m i : Nat) (u4 u5 : Value) (H : Hp) (n : Nat), Keep n0 H0 H → FL H base n g b9 f X u4 u5 (listOf (missB X ps) i) (listOf (overB X ps) i) → i ≤ np →
      (∀ (u4 u5 : Value) (H : Hp) (n : Nat), Keep n0 H0 H → FL H base n g b9 f X u4 u5 (listOf (missB X ps) (i + 1)) (listOf (overB X ps) (i + 1)) → i < np → FaultsOut (b1 u4 u5 (.pointer (some ⟨g, 0, none⟩)) (.pointer (some ⟨b9, 0, none⟩)) (.int .i64 np) (.int .i64 ((i + 1 : Nat) : Int)) H n) n0 H0 X ps np) →
      FaultsOut (C24_1 (cal (l + 1)) k m b1 u4 u5 (.pointer (some ⟨g, 0, none⟩)) (.pointer (some ⟨b9, 0, none⟩)) (.int .i64 np) (.int .i64 i) H n) n0 H0 X ps np := by
    intro b1 m i u4 u5 H n hk hs1 hi ih
    have hbn := hs1.bn
    have hgl := hs1.gl
    have lX : (ints X).length = 16 := by rw [ints_length, hX]
    unfold C24_1 B24_1
    rw [binK_some bin_lss, ifK_d]
    by_cases hlt : i < np
    · have hI : I64 ((i : Int) + 1) := by unfold I64; omega
      have hcast : ((i : Int) + 1) = ((i + 1 : Nat) : Int) := by omega
      have tail : ∀ (u4' : Value) (H' : Hp) (n' : Nat), Keep n0 H0 H' → FL H' base n' g b9 f X u4' u5 (listOf (missB X ps) (i + 1)) (listOf (overB X ps) i) →
          FaultsOut (C24_3 (cal (l + 1)) k m b1 u4' u5 (.pointer (some ⟨g, 0, none⟩)) (.pointer (some ⟨b9, 0, none⟩)) (.int .i64 i) (.int .i64 np) (.int .i64 i) H' n') n0 H0 X ps np := by
        intro u4' H' n' hk' hf'
        have hbn' := hf'.bn
        unfold C24_3 B24_3
        obtain ⟨H2, n2, c1, c2, c3⟩ := over_call (ρ := Value × Hp × Nat) l (show g < n' by omega) hf'.site hs ((hx.keep hk' (Nat.le_refl _)).up (show n0 ≤ n' by omega)) hlt hnp hX
        rw [addrV_eq, bindO_some, load_all hf'.row agg111 sz111 lX, bindO_some, c1]
        have hf2 := hf'.keep c3 c2
        have hk2 : Keep n0 H0 H2 := hk'.trans c3 (by omega)
        cases hb : overB X ps i with
        | true =>
          have hb' : decide (ps.getD (i * 2 + 1) 0 < X.getD (i * 2 + 1) 0) = true := hb
          obtain ⟨u', H3, d1, d2, d3, d4⟩ := push_int (ρ := Value × Hp × Nat) hf2.v5 hf2.bn (by have := (listOf_small (overB X ps) i (by omega)).1; omega) i
          rw [hb', ifK_t, d1]
          unfold C24_2 B24_2
          rw [binK_some (bin_add hI), hcast]
          refine ih _ _ H3 (n2 + 1 + 1) (fun b hb => ?_) ?_ hlt
          · rw [d3 b (by omega) (fun q => by have := (hf2.v5.low q).1; omega)]; exact hk2 b hb
          · have := hf2.push5 d2 (by omega) d3 d4
            rw [listOf_next (overB X ps), if_pos hb]
            exact this
        | false =>
          have hb' : decide (ps.getD (i * 2 + 1) 0 < X.getD (i * 2 + 1) 0) = false := hb
          rw [hb', ifK_f]
          unfold C24_2 B24_2
          rw [binK_some (bin_add hI), hcast]
          refine ih _ _ H2 n2 hk2 ?_ hlt
          rw [listOf_next (overB X ps), if_neg (by rw [hb]; simp), List.append_nil]
          exact hf2
      obtain ⟨H2, n2, c1, c2, c3⟩ := missed_call (ρ := Value × Hp × Nat) l (show g < n by omega) hs1.site hs ((hx.keep hk (Nat.le_refl _)).up (show n0 ≤ n by omega)) hlt hnp hX
      rw [if_pos (by omega), addrV_eq, bindO_some, load_all hs1.row agg111 sz111 lX, bindO_some, c1]
      have hf2 := hs1.keep c3 c2
      have hk2 : Keep n0 H0 H2 := hk.trans c3 (by omega)
      cases hb : missB X ps i with
      | true =>
        have hb' : decide (X.getD (i * 2) 0 < ps.getD (i * 2) 0) = true := hb
        obtain ⟨u', H3, d1, d2, d3, d4⟩ := push_int (ρ := Value × Hp × Nat) hf2.v4 hf2.bn (by have := (listOf_small (missB X ps) i (by omega)).1; omega) i
        rw [hb', ifK_t, d1]
        refine tail _ H3 (n2 + 1 + 1) (fun b hb => ?_) ?_
        · rw [d3 b (by omega) (fun q => by have := (hf2.v4.low q).1; omega)]; exact hk2 b hb
        · have := hf2.push4 d2 (by omega) d3 d4
          rw [listOf_next (missB X ps), if_pos hb]
          exact this
      | false =>
        have hb' : decide (X.getD (i * 2) 0 < ps.getD (i * 2) 0) = false := hb
        rw [hb', ifK_f]
        refine tail _ H2 n2 hk2 ?_
        rw [listOf_next (missB X ps), if_neg (by rw [hb]; simp), List.append_nil]
        exact hf2
    · rw [if_neg (by omega)]
      have hi' : i = np := by omega
      subst hi'
      have i4 := (listOf_small (missB X ps) i (by omega)).2
      have i5 := (listOf_small (overB X ps) i (by omega)).2
      exact ⟨u4, u5, H, n, rfl, by omega, hk, VecAt.list hs1.v4 i4, VecAt.list hs1.v5 i5⟩
  intro m
  induction m with
  | zero =>
    intro i u4 u5 H n h1 h2 h3 h4
    exact body _ 0 i u4 u5 H n h1 h2 h3 (fun _ _ _ _ _ _ h => by omega)
  | succ m ih =>
    intro i u4 u5 H n h1 h2 h3 h4
    exact body _ (m + 1) i u4 u5 H n h1 h2 h3 (fun u4 u5 H n q1 q2 q3 => ih (i + 1) u4 u5 H n q1 q2 (by omega) (by omega))
theorem Faults_spec (l : Nat) {np nj nk nl : Nat} {ps js ks ls : List Int} {H : Hp} {n : Nat} {v w : Value} (hg : GroveP H n v np nj nk ps js ks) (hw : ListR H n w nl ls) (hnp : np ≤ 1000) (hnj : nj ≤ 1000) (hnk : nk ≤ 1000) :
    (placedN np nj nk nl ps js ks ls ≠ 0 → Ret (C24_0 (cal (l + 7)) KK v w H n) n H (.tuple ⟨[.slice none 0 0, .slice none 0 0, .int .i64 (placedN np nj nk nl ps js ks ls)]⟩)) ∧
    (placedN np nj nk nl ps js ks ls = 0 → ∃ X, RowIs X js ks (laidL ls np) nj np 8 ∧ FaultsOut (C24_0 (cal (l + 7)) KK v w H n) n H X ps np) := by
  have hg0 := hg
  obtain ⟨x, y, z, rfl, h1, h2, h3⟩ := hg
  unfold C24_0 B24_0
  generalize hS : S24_1 (cal (l + 7)) KK KK = S
  rw [boxK_eq]
  simp only [cellsV, ptr]
  have hk : Keep n H (H.set n (some (.cells [x, y, z] 35 false none))) := (Keep.refl n H).set (Nat.le_refl _) _
  have hb : CellsAt (H.set n (some (.cells [x, y, z] 35 false none))) n 0 [x, y, z] := CellsAt.new
  generalize H.set n (some (.cells [x, y, z] 35 false none)) = H1 at hk hb ⊢
  have lg : loadV P H1 35 ⟨n, 0, none⟩ = some (.agg ⟨[x, y, z]⟩) := loadV_agg (o := 0) (k := 0) hb agg35 sz35 (by simp) (by simp [h1.hole.1, h2.hole.1, h3.hole.1])
  obtain ⟨o1, o2⟩ := openLaid_spec l (hg0.keep hk (show n ≤ n + 1 by omega)) (hw.keep hk (show n ≤ n + 1 by omega)) hnp hnj hnk
  rw [addrV_eq, bindO_some, lg, bindO_some, openLaid_call]
  constructor
  · intro hne
    obtain ⟨H2, n2, e1, e2, e3⟩ := o1 hne
    have t0 : tupV (.tuple ⟨[.pointer none, .agg ⟨ints (List.replicate 8 0)⟩, .int .i64 (placedN np nj nk nl ps js ks ls)]⟩) 0 = some (.pointer none) := rfl
    have t1 : tupV (.tuple ⟨[.pointer none, .agg ⟨ints (List.replicate 8 0)⟩, .int .i64 (placedN np nj nk nl ps js ks ls)]⟩) 1 = some (.agg ⟨ints (List.replicate 8 0)⟩) := rfl
    have t2 : tupV (.tuple ⟨[.pointer none, .agg ⟨ints (List.replicate 8 0)⟩, .int .i64 (placedN np nj nk nl ps js ks ls)]⟩) 2 = some (.int .i64 (placedN np nj nk nl ps js ks ls)) := rfl
    obtain ⟨H3, k1, k2, k3⟩ := spill (P := P) (ρ := Value × Hp × Nat) (H := H2) (n := n2) (L := ints (List.replicate 8 0)) zero121 rfl sz121 rfl (ints_leaf _)
    rw [e1, bindO_some, t0, bindO_some, t1, bindO_some, t2, bindO_some, k3, binK_some bin_neq, decide_eq_false hne, Bool.not_false, ifK_t]
    exact ⟨H3, n2 + 1, rfl, by omega, (hk.trans e3 (by omega)).trans k1 (by omega)⟩
  · intro he
    obtain ⟨⟨g, x', y', z', f, H2, n2, e1, e2, e3, e4, e5, e6, e7, e8, e9⟩, hnl, hok, hft⟩ := o2 he
    simp only [Value.agg.injEq, Array.mk.injEq, List.cons.injEq, and_true] at e6
    obtain ⟨rfl, rfl, rfl⟩ := e6
    have good := good_of hft
    subst hnl
    have l8 := laidL_len hw.1 good.np8
    have lens : (ints (laidL ls nl)).length = 8 := by rw [ints_length, l8]
    have t0 : tupV (.tuple ⟨[.pointer (some ⟨g, 0, none⟩), .agg ⟨ints (laidL ls nl)⟩, .int .i64 0]⟩) 0 = some (.pointer (some ⟨g, 0, none⟩)) := rfl
    have t1 : tupV (.tuple ⟨[.pointer (some ⟨g, 0, none⟩), .agg ⟨ints (laidL ls nl)⟩, .int .i64 0]⟩) 1 = some (.agg ⟨ints (laidL ls nl)⟩) := rfl
    have t2 : tupV (.tuple ⟨[.pointer (some ⟨g, 0, none⟩), .agg ⟨ints (laidL ls nl)⟩, .int .i64 0]⟩) 2 = some (.int .i64 0) := rfl
    have d0 : decide ((0 : Int) = 0) = true := rfl
    obtain ⟨H3, k1, k2, k3⟩ := spill (P := P) (ρ := Value × Hp × Nat) (H := H2) (n := n2) (L := ints (laidL ls nl)) zero121 rfl sz121 lens (ints_leaf _)
    rw [e1, bindO_some, t0, bindO_some, t1, bindO_some, t2, bindO_some, k3, binK_some bin_neq, d0, Bool.not_true, ifK_f, addrV_eq, bindO_some, load_all k2 agg121 sz121 lens, bindO_some]
    have f3 := e7.keep k1 e5
    obtain ⟨X, H4, n4, hX, b1, b2, b3⟩ := bounds_call (ρ := Value × Hp × Nat) (l + 3) (n := n2 + 1) (by omega) f3 e9 good.kinds good.np8 good.nk3 l8 (laid_kinds hw.1 hok)
    have lX : (ints X).length = 16 := by rw [ints_length, hX.1]
    have f4 := f3.keep b3 (by omega)
    obtain ⟨H5, c1, c2, c3⟩ := spill (P := P) (ρ := Value × Hp × Nat) (H := H4) (n := n4) (L := ints X) zero111 rfl sz111 lX (ints_leaf _)
    rw [b1, c3]
    have f5 := f4.keep c1 (by omega)
    have lx : loadV P H5 31 ⟨g, 0 + 0 + 0, none⟩ = some x := by
      have := f5.load (P := P) (k := 0) agg31 (by omega)
      rw [e8.x] at this; exact this
    have hlx : lenV P 31 x = some (.int .i64 nl) := h1.len_eq und31
    have kk : Keep n H H5 := fun b hb => by rw [c1 b (by omega), b3 b (by omega), k1 b (by omega), e3 b (by omega), hk b hb]
    rw [nil_ptr, bindO_some, fa117_0, bindO_some, fa35_0, bindO_some, addrV_eq, bindO_some, lx, bindO_some, hlx, bindO_some, ← hS]
    refine ⟨X, hX, faults_loop (l + 6) KK (base := n4 + 1) e8 h1 good.np8 hX.1 (by omega) KK 0 (.slice none 0 0) (.slice none 0 0) H5 (n4 + 1) kk ⟨f5, c2, by omega, by omega, Nat.le_refl _, ⟨rfl, .inl ⟨rfl, rfl⟩⟩, ⟨rfl, .inl ⟨rfl, rfl⟩⟩, fun k h => absurd h (nil_off (v := x))⟩ (by omega) (by have := good.np8; unfold KK; omega)⟩
theorem flat24 : flatF P 24 = false := by kernel_rfl
theorem call24 (l : Nat) (a b : Value) (H : Hp) (n : Nat) : (cal (l + 1)).call 24 [a, b] H n = C24_0 (cal l) KK a b H n := by kernel_rfl
theorem Faults_call (l : Nat) (v w : Value) (H : Hp) (n : Nat) (k : Value → Hp → Nat → Option ρ) : callFK P (cal (l + 8)) 24 [v, w] H n k = bindO (C24_0 (cal (l + 7)) KK v w H n) fun r => k r.1 r.2.1 r.2.2 := by
  unfold callFK
  rw [flat24, call24]
  rfl
end Go.Proofs.Ytakjjillnllocaa.spec
