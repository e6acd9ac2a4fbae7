import Derived.Test.YtakjjillnllocaaN3
import Derived.Test.YtakjjillnllocaaEv39
import Derived.Test.YtakjjillnllocaaEv40
namespace Go.Proofs.Ytakjjillnllocaa.spec
open Go Go.Ev Go.Proofs.Ytakjjillnllocaa.nestFits Go.Proofs.Ytakjjillnllocaa.G
set_option maxRecDepth 100000
variable {ρ : Type}
theorem und115 : P.underlying 115 = some (.array 8 114) := by kernel_rfl
theorem und114 : P.underlying 114 = some (.array 3 113) := by kernel_rfl
theorem sz114 : szT P 114 = some 99 := by kernel_rfl
theorem at115 (b o : Nat) {i : Nat} (hi : i < 8) : indexAddrV P 115 (.pointer (some ⟨b, o, none⟩)) (.int .i64 i) = some (.pointer (some ⟨b, o + i * 99, none⟩)) := by
  unfold indexAddrV
  simp only [und115, idx_lt hi, sz114]
  rfl
theorem at114 (b o : Nat) {i : Nat} (hi : i < 3) : indexAddrV P 114 (.pointer (some ⟨b, o, none⟩)) (.int .i64 i) = some (.pointer (some ⟨b, o + i * 33, none⟩)) := by
  unfold indexAddrV
  simp only [und114, idx_lt hi, sz113]
  rfl
open Classical in
noncomputable def nearB (js : List Int) (i : Nat) (a b : Nat) : Bool := decide (∃ q, q < i ∧ J js a b q)
noncomputable def shP (js ks : List Int) (nj np p kd : Nat) : List Int := sharesL (ks.getD (kd * 5 + 1) 0) (ks.getD (kd * 5 + 2) 0) (ks.getD (kd * 5 + 3) 0) (ks.getD (kd * 5 + 4) 0) (nearB js nj p) np p
def NestAt (f : Nat → Value) (js ks : List Int) (nj np p kd : Nat) : Prop := ∃ B, BoundsTo (ks.getD (kd * 5) 0) (shP js ks nj np p kd) B 8 ∧ ∀ j, j < 33 → f (67 + p * 99 + kd * 33 + j) = .int .i64 ((nestL (ks.getD (kd * 5) 0) (shP js ks nj np p kd) B).getD j 0)
structure SiteF (f : Nat → Value) (x y z : Value) (js : List Int) (i : Nat) : Prop where
  x : f 0 = x
  y : f 1 = y
  z : f 2 = z
  near : ∀ a b, a < 8 → b < 8 → f (3 + a * 8 + b) = .bool (nearB js i a b)
open Classical in
theorem nearB_next {js : List Int} {i A B : Nat} (hA : js[i * 2]? = some (A : Int)) (hB : js[i * 2 + 1]? = some (B : Int)) (a b : Nat) :
    nearB js (i + 1) a b = if (a = A ∧ b = B) ∨ (a = B ∧ b = A) then true else nearB js i a b := by
  have hJ : J js a b i ↔ (a = A ∧ b = B) ∨ (a = B ∧ b = A) := by
    unfold J; rw [hA, hB]; simp only [Option.some.injEq]; omega
  unfold nearB
  by_cases h : (a = A ∧ b = B) ∨ (a = B ∧ b = A)
  · rw [if_pos h]
    exact decide_eq_true ⟨i, by omega, hJ.2 h⟩
  · rw [if_neg h]
    congr 1
    exact propext ⟨fun ⟨q, h1, h2⟩ => by
      rcases Nat.lt_or_ge q i with z | z
      · exact ⟨q, z, h2⟩
      · rw [show q = i by omega] at h2
        exact absurd (hJ.1 h2) h, fun ⟨q, h1, h2⟩ => ⟨q, by omega, h2⟩⟩
theorem near_loop61 (c : Cal) (k : Nat) (g np nj : Nat) (js : List Int) (x y z : Value) (hnp : np ≤ 8) (hnj : nj ≤ 1000) (hjs : ∀ i, i < nj → ∃ A B : Nat, js[i * 2]? = some (A : Int) ∧ js[i * 2 + 1]? = some (B : Int) ∧ A < np ∧ B < np)
    (Q : Res → Prop) (H0 : Hp) (n0 : Nat) (hg : n0 ≤ g) (hy0 : SliceR H0 n0 2 y nj js) (hx : ∀ (H : Hp) (n : Nat) (f : Nat → Value), n0 ≤ n → g < n → Keep n0 H0 H → CellsF H g 859 117 f → SiteF f x y z js nj →
      (∀ p kd j, p < 8 → kd < 3 → j < 33 → f (67 + p * 99 + kd * 33 + j) = .int .i64 0 → True) → Q (S61_2 c k k (.pointer (some ⟨g, 0, none⟩)) (.int .i64 np) (.int .i64 0) H n)) (hlx : lenV P 31 x = some (.int .i64 np)) :
    ∀ (m i : Nat) (H : Hp) (n : Nat) (f : Nat → Value), n0 ≤ n → g < n → Keep n0 H0 H → CellsF H g 859 117 f → SiteF f x y z js i → i ≤ nj → nj - i ≤ m →
    Q (S61_1 c k m (.pointer (some ⟨g, 0, none⟩)) y (.int .i64 nj) (.int .i64 i) H n) := by
  have body : ∀ (b1 : Value → Value → Value → Value → Hp → Nat → Res) (m i : Nat) (H : Hp) (n : Nat) (f : Nat → Value), n0 ≤ n → g < n → Keep n0 H0 H → CellsF H g 859 117 f → SiteF f x y z js i → i ≤ nj →
      (∀ (H : Hp) (n : Nat) (f : Nat → Value), n0 ≤ n → g < n → Keep n0 H0 H → CellsF H g 859 117 f → SiteF f x y z js (i + 1) → i < nj → Q (b1 (.pointer (some ⟨g, 0, none⟩)) y (.int .i64 nj) (.int .i64 ((i + 1 : Nat) : Int)) H n)) →
      Q (C61_1 c k m b1 (.pointer (some ⟨g, 0, none⟩)) y (.int .i64 nj) (.int .i64 i) H n) := by
    intro b1 m i H n f hn hgn hk hf hs hi ih
    unfold C61_1 B61_1
    generalize hS : S61_2 c k k = S
    rw [binK_some bin_lss, ifK_d]
    by_cases hlt : i < nj
    · rw [if_pos (by omega)]
      obtain ⟨A, B, hA, hB, hA8, hB8⟩ := hjs i hlt
      have hy := (hy0.keep hk (Nat.le_refl _)).up hn
      obtain ⟨bb, o, hix, hbn, hc⟩ := hy.at_ und32 sz88 hlt
      have hl2 : i * 2 + 2 ≤ js.length := by rw [hy.1]; omega
      obtain ⟨u, w, hu, hw, huw⟩ := pair_at hl2
      rw [hA] at hu; rw [hB] at hw
      cases hu; cases hw
      have hld : loadV P H 88 ⟨bb, o + i * 2, none⟩ = some (.agg ⟨[.int .i64 A, .int .i64 B]⟩) := by
        rw [loadV_agg hc agg88 sz88 (by rw [ints_length]; exact hl2) (ints_noHole _), huw]
      obtain ⟨H1, k1, k2, k3⟩ := spill (P := P) (ρ := Value × Hp × Nat) (H := H) (n := n) (L := [.int .i64 A, .int .i64 B]) zero88 rfl sz88 rfl rfl
      rw [hix, bindO_some, addrV_eq, bindO_some, hld, bindO_some, k3]
      have la : loadV P H1 3 ⟨n, 0 + 0, none⟩ = some (.int .i64 A) := loadV_int (cells_at k2) agg3 rfl
      have lb : loadV P H1 3 ⟨n, 0 + 1, none⟩ = some (.int .i64 B) := loadV_int (cells_at k2) agg3 rfl
      rw [fa88_0, bindO_some, addrV_eq, bindO_some, la, bindO_some, fa88_1, bindO_some, addrV_eq, bindO_some, lb, bindO_some, bindO_some, addrV_eq, bindO_some, lb, bindO_some, bindO_some, addrV_eq, bindO_some, la, bindO_some, nil_ptr, bindO_some, fa117_1, bindO_some,
        at109 _ _ (by omega), bindO_some, at108 _ _ (by omega), bindO_some, bindO_some, fa117_1, bindO_some, at109 _ _ (by omega), bindO_some]
      have hf1 := hf.keep k1 hgn
      obtain ⟨H2, H2', n2, e2, ⟨r1, r2, r3⟩, r4, r5⟩ := effK_gen (P := P) (ρ := Value × Hp × Nat) (ex := [.l 3 ⟨n, 0 + 0, none⟩, .l 3 ⟨n, 0 + 1, none⟩]) (H := H1) (n := n + 1) (v := undef)
        (op := fun H n k => bindO (storeP P 4 (.pointer (some ⟨g, 0 + 3 + A * 8 + B * 1, none⟩)) (.bool true) H) fun H => k undef H n)
        (R := fun H' n' => n' = n + 1 ∧ CellsF H' g 859 117 (putF f (0 + 3 + A * 8 + B * 1) [.bool true]) ∧ ∀ b, b ≠ n → b ≠ g → H'.get b = H1.get b)
        (fun q hq => by
          simp only [List.mem_cons, List.not_mem_nil, or_false] at hq
          rcases hq with rfl | rfl <;> exact ⟨_, _, rfl, .inl ⟨_, _, _, _, k2⟩⟩)
        (fun Hm hm => by
          have hld : ∀ b, ldOf [.l 3 ⟨n, 0 + 0, none⟩, .l 3 ⟨n, 0 + 1, none⟩] b ↔ b = n := fun b => by
            constructor
            · rintro ⟨t, a, h1, h2⟩
              simp only [List.mem_cons, List.not_mem_nil, or_false, Extra.l.injEq] at h1
              rcases h1 with ⟨_, rfl⟩ | ⟨_, rfl⟩ <;> exact h2.symm
            · rintro rfl
              exact ⟨3, ⟨_, 0 + 0, none⟩, by simp, rfl⟩
          have hmg : CellsF Hm g 859 117 f := by
            obtain ⟨c, e1, e2, e3⟩ := hf1
            exact ⟨c, by rw [hm g (fun h => by have := (hld g).1 h; omega)]; exact e1, e2, e3⟩
          obtain ⟨H', s1, s2, s3⟩ := hmg.storeN (o := 0 + 3 + A * 8 + B * 1) (vs := [.bool true]) (by simp; omega) rfl
          refine ⟨H', n + 1, fun k => by rw [storeP_leaf sz4 rfl, s1, bindO_some], fun b hb => s3 b (by have := (hld b).1 hb; omega), rfl, s2, fun b hb hb' => ?_⟩
          rw [s3 b hb', hm b (fun h => hb ((hld b).1 h))])
      rw [e2, at108 _ _ (by omega), bindO_some]
      subst r1
      have hld : ∀ b, ldOf [.l 3 ⟨n, 0 + 0, none⟩, .l 3 ⟨n, 0 + 1, none⟩] b ↔ b = n := fun b => by
        constructor
        · rintro ⟨t, a, h1, h2⟩
          simp only [List.mem_cons, List.not_mem_nil, or_false, Extra.l.injEq] at h1
          rcases h1 with ⟨_, rfl⟩ | ⟨_, rfl⟩ <;> exact h2.symm
        · rintro rfl
          exact ⟨3, ⟨_, 0 + 0, none⟩, by simp, rfl⟩
      have hf2 : CellsF H2 g 859 117 (putF f (0 + 3 + A * 8 + B * 1) [.bool true]) := by
        obtain ⟨c, e1, e2, e3⟩ := r2
        exact ⟨c, by rw [r5 g (fun h => by have := (hld g).1 h; omega)]; exact e1, e2, e3⟩
      obtain ⟨H3, s1, s2, s3⟩ := hf2.storeN (o := 0 + 3 + B * 8 + A * 1) (vs := [.bool true]) (by simp; omega) rfl
      have hI : I64 ((i : Int) + 1) := by unfold I64; omega
      have hcast : ((i : Int) + 1) = ((i + 1 : Nat) : Int) := by omega
      rw [storeP_leaf sz4 rfl, s1, bindO_some, binK_some (bin_add hI), hcast]
      refine ih H3 (n + 1) _ (by omega) (by omega) (fun b hb => ?_) s2 ⟨?_, ?_, ?_, fun a b ha hb => ?_⟩ hlt
      · rw [s3 b (by omega), r5 b (fun h => by have := (hld b).1 h; omega), r3 b (by omega) (by omega), k1 b (by omega), hk b hb]
      · rw [putF_one, if_neg (by omega), putF_one, if_neg (by omega)]; exact hs.x
      · rw [putF_one, if_neg (by omega), putF_one, if_neg (by omega)]; exact hs.y
      · rw [putF_one, if_neg (by omega), putF_one, if_neg (by omega)]; exact hs.z
      · rw [putF_one, putF_one, nearB_next hA hB, hs.near a b ha hb]
        by_cases c1 : 3 + a * 8 + b = 0 + 3 + B * 8 + A * 1
        · rw [if_pos c1, if_pos (.inr ⟨by omega, by omega⟩)]
        · rw [if_neg c1]
          by_cases c2 : 3 + a * 8 + b = 0 + 3 + A * 8 + B * 1
          · rw [if_pos c2, if_pos (.inl ⟨by omega, by omega⟩)]
          · rw [if_neg c2, if_neg]
            rintro (⟨h1, h2⟩ | ⟨h1, h2⟩)
            · exact c2 (by subst h1; subst h2; omega)
            · exact c1 (by subst h1; subst h2; omega)
    · rw [if_neg (by omega)]
      have hi' : i = nj := by omega
      subst hi'
      have lx : loadV P H 31 ⟨g, 0 + 0 + 0, none⟩ = some x := by
        have := hf.load (P := P) (k := 0) agg31 (by omega)
        rw [hs.x] at this; exact this
      rw [nil_ptr, bindO_some, fa117_0, bindO_some, fa35_0, bindO_some, addrV_eq, bindO_some, lx, bindO_some, hlx, bindO_some, ← hS]
      exact hx H n f hn hgn hk hf hs (fun _ _ _ _ _ _ _ => trivial)
  intro m
  induction m with
  | zero =>
    intro i H n f h1 h2 h3 h4 h5 h6 h7
    exact body _ 0 i H n f h1 h2 h3 h4 h5 h6 (fun _ _ _ _ _ _ _ _ h => by omega)
  | succ m ih =>
    intro i H n f h1 h2 h3 h4 h5 h6 h7
    exact body _ (m + 1) i H n f h1 h2 h3 h4 h5 h6 (fun H n f q1 q2 q3 q4 q5 q6 => ih (i + 1) H n f q1 q2 q3 q4 q5 (by omega) (by omega))
end Go.Proofs.Ytakjjillnllocaa.spec
namespace Go.Proofs.Ytakjjillnllocaa.spec
open Go Go.Ev Go.Proofs.Ytakjjillnllocaa.nestFits Go.Proofs.Ytakjjillnllocaa.G
set_option maxRecDepth 100000
variable {ρ : Type}
theorem getD_some {X : List Int} {j : Nat} (h : j < X.length) : X[j]? = some (X.getD j 0) := by
  rw [List.getD_eq_getElem?_getD, List.getElem?_eq_getElem h]; rfl
theorem nestOn_call (l : Nat) {H : Hp} {n g np pad : Nat} {f : Nat → Value} {x : Value} {near : Nat → Bool} {y a1 a2 a3 a4 : Int} (hg : g < n) (hs : CellsF H g 859 117 f) (hx : f 0 = x) (hlen : lenV P 31 x = some (.int .i64 np)) (hnp : np ≤ 8) (hpad : pad < 8)
    (hnear : ∀ b, b < 8 → f (3 + pad * 8 + b) = .bool (near b)) (hy : 0 ≤ y ∧ y ≤ 1000) (h1 : okR a1 a2) (h2 : okR a3 a4) :
    ∃ B H' n', BoundsTo y (sharesL a1 a2 a3 a4 near np pad) B 8 ∧ (∀ k : Value → Hp → Nat → Option ρ, callFK P (cal (l + 5)) 97 [.pointer (some ⟨g, 0, none⟩), .int .i64 pad, .agg ⟨[.int .i64 y, .int .i64 a1, .int .i64 a2, .int .i64 a3, .int .i64 a4]⟩] H n k =
      k (.agg ⟨ints (nestL y (sharesL a1 a2 a3 a4 near np pad) B)⟩) H' n') ∧ n ≤ n' ∧ Keep n H H' := by
  obtain ⟨B, hB, H', n', e, h3, h4⟩ := nestOn_spec l hg hs hx hlen hnp hpad hnear hy h1 h2
  refine ⟨B, H', n', hB, fun k => ?_, h3, h4⟩
  unfold callFK
  have : (flatF P 97 && pureL [.pointer (some ⟨g, 0, none⟩), .int .i64 pad, .agg ⟨[.int .i64 y, .int .i64 a1, .int .i64 a2, .int .i64 a3, .int .i64 a4]⟩]) = false := by rw [Bool.and_eq_false_iff]; exact .inr rfl
  rw [this, e]
  rfl
def NestsTo (f : Nat → Value) (js ks : List Int) (nj np nk pd i : Nat) : Prop := ∀ p kd, p < np → kd < nk → (p < pd ∨ (p = pd ∧ kd < i)) → NestAt f js ks nj np p kd
def KindsOk (ks : List Int) (nk : Nat) : Prop := ∀ kd, kd < nk → (0 ≤ ks.getD (kd * 5) 0 ∧ ks.getD (kd * 5) 0 ≤ 1000) ∧ okR (ks.getD (kd * 5 + 1) 0) (ks.getD (kd * 5 + 2) 0) ∧ okR (ks.getD (kd * 5 + 3) 0) (ks.getD (kd * 5 + 4) 0)
theorem nests_loop3 (l k m1 : Nat) (g np nj nk : Nat) (js ks : List Int) (x y z : Value) (hnp : np ≤ 8) (hnk : nk ≤ 3) (hks : KindsOk ks nk)
    (Q : Res → Prop) (H0 : Hp) (n0 : Nat) (hg : n0 ≤ g) (hz0 : SliceR H0 n0 5 z nk ks) (hlx : lenV P 31 x = some (.int .i64 np)) (pd : Nat) (hpd : pd < np) (b2 : Value → Value → Value → Hp → Nat → Res)
    (hb2 : ∀ (H : Hp) (n : Nat) (f : Nat → Value), n0 ≤ n → g < n → Keep n0 H0 H → CellsF H g 859 117 f → SiteF f x y z js nj → NestsTo f js ks nj np nk (pd + 1) 0 → Q (b2 (.pointer (some ⟨g, 0, none⟩)) (.int .i64 np) (.int .i64 ((pd + 1 : Nat) : Int)) H n)) :
    ∀ (m i : Nat) (H : Hp) (n : Nat) (f : Nat → Value), n0 ≤ n → g < n → Keep n0 H0 H → CellsF H g 859 117 f → SiteF f x y z js nj → NestsTo f js ks nj np nk pd i → i ≤ nk → nk - i ≤ m →
    Q (S61_3 (cal (l + 5)) k m1 b2 m (.pointer (some ⟨g, 0, none⟩)) (.int .i64 pd) (.int .i64 np) (.int .i64 pd) z (.int .i64 nk) (.int .i64 i) H n) := by
  have body : ∀ (b3 : Value → Value → Value → Value → Value → Value → Value → Hp → Nat → Res) (m i : Nat) (H : Hp) (n : Nat) (f : Nat → Value), n0 ≤ n → g < n → Keep n0 H0 H → CellsF H g 859 117 f → SiteF f x y z js nj → NestsTo f js ks nj np nk pd i → i ≤ nk →
      (∀ (H : Hp) (n : Nat) (f : Nat → Value), n0 ≤ n → g < n → Keep n0 H0 H → CellsF H g 859 117 f → SiteF f x y z js nj → NestsTo f js ks nj np nk pd (i + 1) → i < nk →
        Q (b3 (.pointer (some ⟨g, 0, none⟩)) (.int .i64 pd) (.int .i64 np) (.int .i64 pd) z (.int .i64 nk) (.int .i64 ((i + 1 : Nat) : Int)) H n)) →
      Q (C61_3 (cal (l + 5)) k m1 m b2 b3 (.pointer (some ⟨g, 0, none⟩)) (.int .i64 pd) (.int .i64 np) (.int .i64 pd) z (.int .i64 nk) (.int .i64 i) H n) := by
    intro b3 m i H n f hn hgn hk hf hs hnt hi ih
    unfold C61_3 B61_3
    rw [binK_some bin_lss, ifK_d]
    by_cases hlt : i < nk
    · rw [if_pos (by omega)]
      have hz := (hz0.keep hk (Nat.le_refl _)).up hn
      obtain ⟨bb, o, hix, hbn, hc⟩ := hz.at_ und33 sz86 hlt
      have hl2 : i * 5 + 5 ≤ ks.length := by rw [hz.1]; omega
      have hld : loadV P H 86 ⟨bb, o + i * 5, none⟩ = some (.agg ⟨[.int .i64 (ks.getD (i * 5) 0), .int .i64 (ks.getD (i * 5 + 1) 0), .int .i64 (ks.getD (i * 5 + 2) 0), .int .i64 (ks.getD (i * 5 + 3) 0), .int .i64 (ks.getD (i * 5 + 4) 0)]⟩) := by
        rw [loadV_agg hc agg86 sz86 (by rw [ints_length]; exact hl2) (ints_noHole _), five_at hl2]
      obtain ⟨H1, k1, k2, k3⟩ := spill (P := P) (ρ := Value × Hp × Nat) (H := H) (n := n) (L := [.int .i64 (ks.getD (i * 5) 0), .int .i64 (ks.getD (i * 5 + 1) 0), .int .i64 (ks.getD (i * 5 + 2) 0), .int .i64 (ks.getD (i * 5 + 3) 0), .int .i64 (ks.getD (i * 5 + 4) 0)]) zero86 rfl sz86 rfl rfl
      rw [hix, bindO_some, addrV_eq, bindO_some, hld, bindO_some, k3]
      have hback := load_all k2 agg86 sz86 rfl
      rw [addrV_eq, bindO_some, hback, bindO_some, nil_ptr, bindO_some, fa117_2, bindO_some, at115 _ _ (by omega), bindO_some]
      have hf1 := hf.keep k1 hgn
      obtain ⟨y1, y2, y3⟩ := hks i hlt
      obtain ⟨B, H2, n2, hB, e2, e3, e4⟩ := nestOn_call (ρ := Value × Hp × Nat) l (n := n + 1) (by omega) hf1 hs.x hlx hnp (show pd < 8 by omega) (near := nearB js nj pd) (fun b hb => hs.near pd b (by omega) hb) y1 y2 y3
      rw [e2, at114 _ _ (by omega), bindO_some]
      have hf2 := hf1.keep e4 (by omega)
      have lens : (ints (nestL (ks.getD (i * 5) 0) (sharesL (ks.getD (i * 5 + 1) 0) (ks.getD (i * 5 + 2) 0) (ks.getD (i * 5 + 3) 0) (ks.getD (i * 5 + 4) 0) (nearB js nj pd) np pd) B)).length = 33 := by rw [ints_length, nest_cells (sharesL_len ..) hB.1]
      obtain ⟨H3, s1, s2, s3⟩ := hf2.storeN (o := 0 + 67 + pd * 99 + i * 33) (vs := ints (nestL (ks.getD (i * 5) 0) (sharesL (ks.getD (i * 5 + 1) 0) (ks.getD (i * 5 + 2) 0) (ks.getD (i * 5 + 3) 0) (ks.getD (i * 5 + 4) 0) (nearB js nj pd) np pd) B)) (by rw [lens]; omega) (ints_leaf _)
      have hI : I64 ((i : Int) + 1) := by unfold I64; omega
      have hcast : ((i : Int) + 1) = ((i + 1 : Nat) : Int) := by omega
      rw [storeP_agg sz113 lens, s1, bindO_some, binK_some (bin_add hI), hcast]
      refine ih H3 n2 _ (by omega) (by omega) (fun b hb => ?_) s2 ⟨?_, ?_, ?_, fun a b ha hb => ?_⟩ (fun p kd hp hkd hpk => ?_) hlt
      · rw [s3 b (by omega), e4 b (by omega), k1 b (by omega), hk b hb]
      · rw [putF_out _ _ _ (.inl (by omega))]; exact hs.x
      · rw [putF_out _ _ _ (.inl (by omega))]; exact hs.y
      · rw [putF_out _ _ _ (.inl (by omega))]; exact hs.z
      · rw [putF_out _ _ _ (.inl (by omega))]; exact hs.near a b ha hb
      · by_cases hnew : p = pd ∧ kd = i
        · obtain ⟨rfl, rfl⟩ := hnew
          refine ⟨B, hB, fun j hj => ?_⟩
          rw [show 67 + p * 99 + kd * 33 + j = 0 + 67 + p * 99 + kd * 33 + j by omega]
          refine putF_in _ _ _ (ints_get ?_)
          have : j < (nestL (ks.getD (kd * 5) 0) (sharesL (ks.getD (kd * 5 + 1) 0) (ks.getD (kd * 5 + 2) 0) (ks.getD (kd * 5 + 3) 0) (ks.getD (kd * 5 + 4) 0) (nearB js nj p) np p) B).length := by rw [← ints_length, lens]; exact hj
          exact getD_some this
        · obtain ⟨B', hB', hf'⟩ := hnt p kd hp hkd (by omega)
          refine ⟨B', hB', fun j hj => ?_⟩
          rw [putF_out _ _ _ (by rw [lens]; omega)]
          exact hf' j hj
    · rw [if_neg (by omega)]
      have hi' : i = nk := by omega
      subst hi'
      have hI : I64 ((pd : Int) + 1) := by unfold I64; omega
      have hcast : ((pd : Int) + 1) = ((pd + 1 : Nat) : Int) := by omega
      rw [binK_some (bin_add hI), hcast]
      exact hb2 H n f hn hgn hk hf hs (fun p kd hp hkd h => hnt p kd hp hkd (by omega))
  intro m
  induction m with
  | zero =>
    intro i H n f h1 h2 h3 h4 h5 h6 h7 h8
    exact body _ 0 i H n f h1 h2 h3 h4 h5 h6 h7 (fun _ _ _ _ _ _ _ _ _ h => by omega)
  | succ m ih =>
    intro i H n f h1 h2 h3 h4 h5 h6 h7 h8
    exact body _ (m + 1) i H n f h1 h2 h3 h4 h5 h6 h7 (fun H n f q1 q2 q3 q4 q5 q6 q7 => ih (i + 1) H n f q1 q2 q3 q4 q5 q6 (by omega) (by omega))
theorem nests_loop2 (l k : Nat) (g np nj nk : Nat) (js ks : List Int) (x y z : Value) (hnp : np ≤ 8) (hnk : nk ≤ 3) (hks : KindsOk ks nk)
    (Q : Res → Prop) (H0 : Hp) (n0 : Nat) (hg : n0 ≤ g) (hz0 : SliceR H0 n0 5 z nk ks) (hlx : lenV P 31 x = some (.int .i64 np))
    (hq : ∀ (H : Hp) (n : Nat) (f : Nat → Value), n0 ≤ n → g < n → Keep n0 H0 H → CellsF H g 859 117 f → SiteF f x y z js nj → (∀ p kd, p < np → kd < nk → NestAt f js ks nj np p kd) → Q (some (.tuple ⟨[.pointer (some ⟨g, 0, none⟩), .int .i64 0]⟩, H, n))) :
    ∀ (m i : Nat) (H : Hp) (n : Nat) (f : Nat → Value), n0 ≤ n → g < n → Keep n0 H0 H → CellsF H g 859 117 f → SiteF f x y z js nj → NestsTo f js ks nj np nk i 0 → i ≤ np → np - i + 3 ≤ m →
    Q (S61_2 (cal (l + 5)) k m (.pointer (some ⟨g, 0, none⟩)) (.int .i64 np) (.int .i64 i) H n) := by
  have body : ∀ (b2 : Value → Value → Value → Hp → Nat → Res) (m i : Nat) (H : Hp) (n : Nat) (f : Nat → Value), n0 ≤ n → g < n → Keep n0 H0 H → CellsF H g 859 117 f → SiteF f x y z js nj → NestsTo f js ks nj np nk i 0 → i ≤ np → 3 ≤ m →
      (∀ (H : Hp) (n : Nat) (f : Nat → Value), n0 ≤ n → g < n → Keep n0 H0 H → CellsF H g 859 117 f → SiteF f x y z js nj → NestsTo f js ks nj np nk (i + 1) 0 → i < np → Q (b2 (.pointer (some ⟨g, 0, none⟩)) (.int .i64 np) (.int .i64 ((i + 1 : Nat) : Int)) H n)) →
      Q (C61_2 (cal (l + 5)) k m b2 (.pointer (some ⟨g, 0, none⟩)) (.int .i64 np) (.int .i64 i) H n) := by
    intro b2 m i H n f hn hgn hk hf hs hnt hi hm ih
    unfold C61_2 B61_2
    generalize hS : S61_3 (cal (l + 5)) k m b2 m = S
    rw [binK_some bin_lss, ifK_d]
    by_cases hlt : i < np
    · rw [if_pos (by omega)]
      have lz : loadV P H 33 ⟨g, 0 + 0 + 2, none⟩ = some z := by
        have := hf.load (P := P) (k := 2) agg33 (by omega)
        rw [hs.z] at this; exact this
      have e3 : lenV P 33 z = some (.int .i64 nk) := hz0.len_eq und33
      rw [nil_ptr, bindO_some, fa117_0, bindO_some, fa35_2, bindO_some, addrV_eq, bindO_some, lz, bindO_some, e3, bindO_some, ← hS]
      exact nests_loop3 l k m g np nj nk js ks x y z hnp hnk hks Q H0 n0 hg hz0 hlx i hlt b2 (fun H n f q1 q2 q3 q4 q5 q6 => ih H n f q1 q2 q3 q4 q5 q6 hlt) m 0 H n f hn hgn hk hf hs hnt (by omega) (by omega)
    · rw [if_neg (by omega)]
      exact hq H n f hn hgn hk hf hs (fun p kd hp hkd => hnt p kd hp hkd (.inl (by omega)))
  intro m
  induction m with
  | zero =>
    intro i H n f h1 h2 h3 h4 h5 h6 h7 h8
    omega
  | succ m ih =>
    intro i H n f h1 h2 h3 h4 h5 h6 h7 h8
    exact body _ (m + 1) i H n f h1 h2 h3 h4 h5 h6 h7 (by omega) (fun H n f q1 q2 q3 q4 q5 q6 q7 => ih (i + 1) H n f q1 q2 q3 q4 q5 q6 (by omega) (by omega))
end Go.Proofs.Ytakjjillnllocaa.spec
namespace Go.Proofs.Ytakjjillnllocaa.spec
open Go Go.Ev Go.Proofs.Ytakjjillnllocaa.nestFits Go.Proofs.Ytakjjillnllocaa.G
set_option maxRecDepth 100000
variable {ρ : Type}
open Classical in
theorem nearB_zero (js : List Int) (a b : Nat) : nearB js 0 a b = false := by
  unfold nearB
  exact decide_eq_false (fun ⟨q, h, _⟩ => by omega)
theorem build117 (x y z : Value) : buildP P 117 [(0, .agg ⟨[x, y, z]⟩)] = some (.agg ⟨x :: y :: z :: (List.replicate 64 (.bool false) ++ List.replicate 792 (.int .i64 0))⟩) := by kernel_rfl
def site0 (x y z : Value) (k : Nat) : Value := if k = 0 then x else if k = 1 then y else if k = 2 then z else if k < 67 then .bool false else .int .i64 0
theorem site0_at (x y z : Value) (k : Nat) (hk : k < 859) : (x :: y :: z :: (List.replicate 64 (Value.bool false) ++ List.replicate 792 (Value.int .i64 0)))[k]? = some (site0 x y z k) := by
  match k, hk with
  | 0, _ => rfl
  | 1, _ => rfl
  | 2, _ => rfl
  | k + 3, hk =>
    rw [List.getElem?_cons_succ, List.getElem?_cons_succ, List.getElem?_cons_succ]
    unfold site0
    rw [if_neg (by omega), if_neg (by omega), if_neg (by omega)]
    by_cases h : k < 64
    · rw [List.getElem?_append_left (by simp; omega), List.getElem?_replicate, if_pos h, if_pos (by omega)]
    · rw [List.getElem?_append_right (by simp; omega), List.getElem?_replicate, List.length_replicate, if_pos (by omega), if_neg (by omega)]
structure Good (np nj nk : Nat) (ps js ks : List Int) : Prop where
  np8 : np ≤ 8
  nj16 : nj ≤ 16
  nk3 : nk ≤ 3
  np1 : np ≠ 0
  nk1 : nk ≠ 0
  ok : ¬ GBad np nj nk ps js ks
theorem good_of {np nj nk : Nat} {ps js ks : List Int} (h : faultN np nj nk ps js ks = 0) : Good np nj nk ps js ks := by
  unfold faultN at h
  by_cases c1 : 8 < np ∨ 16 < nj ∨ 3 < nk
  · rw [if_pos c1] at h; omega
  · rw [if_neg c1] at h
    by_cases c2 : np = 0 ∨ nk = 0
    · rw [if_pos c2] at h; omega
    · rw [if_neg c2] at h
      by_cases c3 : GBad np nj nk ps js ks
      · rw [if_pos c3] at h; omega
      · exact ⟨by omega, by omega, by omega, by omega, by omega, c3⟩
theorem Good.kinds {np nj nk : Nat} {ps js ks : List Int} (h : Good np nj nk ps js ks) : KindsOk ks nk := by
  intro kd hkd
  have hb : ¬ KBad ks kd := fun c => h.ok (.inr (.inl ⟨kd, hkd, c⟩))
  unfold KBad at hb
  unfold okR
  omega
theorem Good.joins {np nj nk : Nat} {ps js ks : List Int} (h : Good np nj nk ps js ks) (hl : js.length = nj * 2) (i : Nat) (hi : i < nj) : ∃ A B : Nat, js[i * 2]? = some (A : Int) ∧ js[i * 2 + 1]? = some (B : Int) ∧ A < np ∧ B < np := by
  have hb : ∀ i, i < nj → okJ js np nj (js.getD (i * 2) 0) (js.getD (i * 2 + 1) 0) := (joins_all hl).2 fun c => h.ok (.inr (.inr c))
  obtain ⟨o1, o2, _, _⟩ := hb i hi
  refine ⟨(js.getD (i * 2) 0).toNat, (js.getD (i * 2 + 1) 0).toNat, ?_, ?_, by omega, by omega⟩
  · rw [getD_some (show i * 2 < js.length by omega)]; congr 1; omega
  · rw [getD_some (show i * 2 + 1 < js.length by omega)]; congr 1; omega
def Opened (r : Res) (n : Nat) (H : Hp) (v : Value) (np nj nk : Nat) (js ks : List Int) : Prop := ∃ (g : Nat) (x y z : Value) (f : Nat → Value) (H' : Hp) (n' : Nat), r = some (.tuple ⟨[.pointer (some ⟨g, 0, none⟩), .int .i64 0]⟩, H', n') ∧ n ≤ n' ∧ Keep n H H' ∧ n ≤ g ∧ g < n' ∧
  v = .agg ⟨[x, y, z]⟩ ∧ CellsF H' g 859 117 f ∧ SiteF f x y z js nj ∧ ∀ p kd, p < np → kd < nk → NestAt f js ks nj np p kd
theorem open_spec (l : Nat) {np nj nk : Nat} {ps js ks : List Int} {H : Hp} {n : Nat} {v : Value} (hg : GroveP H n v np nj nk ps js ks) (hnp : np ≤ 1000) (hnj : nj ≤ 1000) (hnk : nk ≤ 1000) :
    (faultN np nj nk ps js ks ≠ 0 → Ret (C61_0 (cal (l + 5)) KK v H n) n H (.tuple ⟨[.pointer none, .int .i64 (faultN np nj nk ps js ks)]⟩)) ∧
    (faultN np nj nk ps js ks = 0 → Opened (C61_0 (cal (l + 5)) KK v H n) n H v np nj nk js ks) := by
  have hg0 := hg
  obtain ⟨x, y, z, rfl, h1, h2, h3⟩ := hg
  unfold C61_0 B61_0
  generalize hS : S61_1 (cal (l + 5)) KK KK = S
  rw [boxK_eq]
  simp only [cellsV, ptr]
  have hk : Keep n H (H.set n (some (.cells [x, y, z] 35 false none))) := (Keep.refl n H).set (Nat.le_refl _) _
  have hb : CellsAt (H.set n (some (.cells [x, y, z] 35 false none))) n 0 [x, y, z] := CellsAt.new
  generalize H.set n (some (.cells [x, y, z] 35 false none)) = H1 at hk hb ⊢
  have lg : ∀ H2, CellsAt H2 n 0 [x, y, z] → loadV P H2 35 ⟨n, 0, none⟩ = some (.agg ⟨[x, y, z]⟩) := fun H2 h => loadV_agg (o := 0) (k := 0) h agg35 sz35 (by simp) (by simp [h1.hole.1, h2.hole.1, h3.hole.1])
  obtain ⟨H2, n2, e1, e2, e3⟩ := check_call (ρ := Value × Hp × Nat) (l + 1) (hg0.keep hk (show n ≤ n + 1 by omega)) hnp hnj hnk
  rw [addrV_eq, bindO_some, lg H1 hb, bindO_some, e1, binK_some bin_neq]
  constructor
  · intro hne
    rw [decide_eq_false hne, Bool.not_false, ifK_t]
    exact ⟨H2, n2, rfl, by omega, hk.trans e3 (by omega)⟩
  · intro he
    have good := good_of he
    have hb2 := hb.keep e3 (by omega)
    rw [decide_eq_true he, Bool.not_true, ifK_f, bindO_some, lg H2 hb2, bindO_some, build117, bindO_some, boxK_eq]
    simp only [cellsV, ptr]
    have kk : Keep n H H2 := hk.trans e3 (by omega)
    have hf : CellsF (H2.set n2 (some (.cells (x :: y :: z :: (List.replicate 64 (.bool false) ++ List.replicate 792 (.int .i64 0))) 117 false none))) n2 859 117 (site0 x y z) := CellsF.new (by simp) _ (site0_at x y z)
    have kk2 : Keep n H (H2.set n2 (some (.cells (x :: y :: z :: (List.replicate 64 (.bool false) ++ List.replicate 792 (.int .i64 0))) 117 false none))) := kk.set (by omega) _
    generalize H2.set n2 (some (.cells (x :: y :: z :: (List.replicate 64 (.bool false) ++ List.replicate 792 (.int .i64 0))) 117 false none)) = H3 at hf kk2 ⊢
    have ly : loadV P H3 32 ⟨n2, 0 + 0 + 1, none⟩ = some y := hf.load (P := P) (k := 1) agg32 (by omega)
    have ey : lenV P 32 y = some (.int .i64 nj) := h2.len_eq und32
    rw [nil_ptr, bindO_some, fa117_0, bindO_some, fa35_1, bindO_some, addrV_eq, bindO_some, ly, bindO_some, ey, bindO_some, ← hS]
    have hlx : lenV P 31 x = some (.int .i64 np) := h1.len_eq und31
    refine near_loop61 (cal (l + 5)) KK n2 np nj js x y z good.np8 hnj (good.joins h2.1) (fun r => Opened r n H (.agg ⟨[x, y, z]⟩) np nj nk js ks) H n (by omega) h2
      (fun H4 n4 f4 q1 q2 q3 q4 q5 _ => nests_loop2 l KK n2 np nj nk js ks x y z good.np8 good.nk3 good.kinds (fun r => Opened r n H (.agg ⟨[x, y, z]⟩) np nj nk js ks) H n (by omega) h3 hlx
        (fun H5 n5 f5 p1 p2 p3 p4 p5 p6 => ⟨n2, x, y, z, f5, H5, n5, rfl, by omega, p3, by omega, p2, rfl, p4, p5, p6⟩) KK 0 H4 n4 f4 q1 q2 q3 q4 q5 (fun p kd _ _ h => by omega) (by omega) (by have := good.np8; unfold KK; omega)) hlx
      KK 0 H3 (n2 + 1) (site0 x y z) (by omega) (by omega) kk2 hf ⟨rfl, rfl, rfl, fun a b ha hb => ?_⟩ (by omega) (by unfold KK; omega)
    unfold site0
    rw [if_neg (by omega), if_neg (by omega), if_neg (by omega), if_pos (by omega), nearB_zero]
theorem flat61 : flatF P 61 = false := by kernel_rfl
theorem call61 (l : Nat) (a : Value) (H : Hp) (n : Nat) : (cal (l + 1)).call 61 [a] H n = C61_0 (cal l) KK a H n := by kernel_rfl
theorem open_call (l : Nat) (v : Value) (H : Hp) (n : Nat) (k : Value → Hp → Nat → Option ρ) : callFK P (cal (l + 6)) 61 [v] H n k = bindO (C61_0 (cal (l + 5)) KK v H n) fun r => k r.1 r.2.1 r.2.2 := by
  unfold callFK
  rw [flat61, call61]
  rfl
end Go.Proofs.Ytakjjillnllocaa.spec
namespace Go.Proofs.Ytakjjillnllocaa.spec
open Go Go.Ev Go.Proofs.Ytakjjillnllocaa.nestFits Go.Proofs.Ytakjjillnllocaa.G
set_option maxRecDepth 100000
variable {ρ : Type}
noncomputable def fitD (js ks : List Int) (nj np p kd : Nat) : Bool := decide (total (shP js ks nj np p kd) 0 ≤ ks.getD (kd * 5) 0 ∧ ks.getD (kd * 5) 0 ≤ total (shP js ks nj np p kd) 1)
theorem shP_len (js ks : List Int) (nj np p kd : Nat) : (shP js ks nj np p kd).length = 16 := sharesL_len ..
theorem shP_bounded {js ks : List Int} {nj np nk p kd : Nat} (hks : KindsOk ks nk) (hkd : kd < nk) (hnp : np ≤ 8) (hp : p < np) : Bounded (shP js ks nj np p kd) := by
  obtain ⟨_, h2, h3⟩ := hks kd hkd
  exact sharesL_bounded hnp (by omega) h2 h3
theorem nest_load {H : Hp} {g np nj p kd : Nat} {f : Nat → Value} {js ks : List Int} (hf : CellsF H g 859 117 f) (hn : NestAt f js ks nj np p kd) (hp : p < 8) (hkd : kd < 3) :
    ∃ B, BoundsTo (ks.getD (kd * 5) 0) (shP js ks nj np p kd) B 8 ∧ loadV P H 113 ⟨g, 0 + 67 + p * 99 + kd * 33, none⟩ = some (.agg ⟨ints (nestL (ks.getD (kd * 5) 0) (shP js ks nj np p kd) B)⟩) := by
  obtain ⟨B, hB, hj⟩ := hn
  refine ⟨B, hB, ?_⟩
  rw [hf.load_agg (k := 0 + 67 + p * 99 + kd * 33) agg113 sz113 (by omega)]
  have lens : (nestL (ks.getD (kd * 5) 0) (shP js ks nj np p kd) B).length = 33 := nest_cells (shP_len ..) hB.1
  have e : (List.range 33).map (fun j => f (0 + 67 + p * 99 + kd * 33 + j)) = ints (nestL (ks.getD (kd * 5) 0) (shP js ks nj np p kd) B) := by
    apply List.ext_getElem?
    intro j
    by_cases h : j < 33
    · rw [List.getElem?_map, List.getElem?_range h, ints_get (getD_some (by omega))]
      simp only [Option.map_some]
      rw [show 0 + 67 + p * 99 + kd * 33 + j = 67 + p * 99 + kd * 33 + j by omega, hj j h]
    · rw [List.getElem?_eq_none (by simp; omega), List.getElem?_eq_none (by rw [ints_length]; omega)]
  rw [e]
end Go.Proofs.Ytakjjillnllocaa.spec
namespace Go.Proofs.Ytakjjillnllocaa.spec
open Go Go.Ev Go.Proofs.Ytakjjillnllocaa.nestFits Go.Proofs.Ytakjjillnllocaa.G
set_option maxRecDepth 100000
variable {ρ : Type}
theorem Good.small {np nj nk : Nat} {ps js ks : List Int} (h : Good np nj nk ps js ks) : Small ks nk := by
  intro kd hkd
  obtain ⟨h1, h2, h3⟩ := h.kinds kd hkd
  unfold okR at h2 h3
  omega
theorem Good.inner {np nj nk : Nat} {ps js ks : List Int} (h : Good np nj nk ps js ks) (hl : js.length = nj * 2) : Inner js nj np := by
  intro j hj a b hJ
  obtain ⟨A, B, hA, hB, h1, h2⟩ := h.joins hl j hj
  unfold J at hJ
  rw [hA, hB] at hJ
  simp only [Option.some.injEq] at hJ
  omega
open Classical in
theorem share_reach {js ks : List Int} {nj np p kd : Nat} (hi : Inner js nj np) (hnp : np ≤ 8) (hp : p < np) (q : Nat) :
    (shP js ks nj np p kd).getD (q * 2) 0 = (reach js ks nj kd p q).1 ∧ (shP js ks nj np p kd).getD (q * 2 + 1) 0 = (reach js ks nj kd p q).2 := by
  obtain ⟨g1, g2⟩ := sharesL_get (a1 := ks.getD (kd * 5 + 1) 0) (a2 := ks.getD (kd * 5 + 2) 0) (a3 := ks.getD (kd * 5 + 3) 0) (a4 := ks.getD (kd * 5 + 4) 0) (near := nearB js nj p) hnp (show p < 8 by omega) q
  unfold shP
  rw [g1, g2]
  unfold reach
  by_cases e : q = p
  · subst e
    rw [if_pos rfl, if_pos rfl, if_pos rfl]
    exact ⟨rfl, rfl⟩
  · rw [if_neg e, if_neg e, if_neg (show ¬ (p : Int) = (q : Int) by omega)]
    by_cases hn : Near js nj p q
    · have hb : nearB js nj p q = true := by unfold nearB; rw [decide_eq_true_eq]; exact hn
      have hq : q < np := by obtain ⟨j, h1, h2⟩ := hn; have := hi j h1 _ _ h2; omega
      have hc : q < np ∧ nearB js nj p q = true := ⟨hq, hb⟩
      rw [if_pos hc, if_pos hc, if_pos hn]
      exact ⟨rfl, rfl⟩
    · have hb : ¬ (q < np ∧ nearB js nj p q = true) := fun ⟨_, h⟩ => hn (by unfold nearB at h; rw [decide_eq_true_eq] at h; exact h)
      rw [if_neg hb, if_neg hb, if_neg hn]
      exact ⟨rfl, rfl⟩
theorem fitsB_iff8 {js ks : List Int} {nj np nk kind a : Nat} (hs : Small ks nk) (hk : kind < nk) (ha : a < np) (hi : Inner js nj np) (hnp : np ≤ 8) :
    fitsB js ks nj np kind a ↔ sumTo (fun p => (reach js ks nj kind a p).1) 8 ≤ ks.getD (kind * 5) 0 ∧ ks.getD (kind * 5) 0 ≤ sumTo (fun p => (reach js ks nj kind a p).2) 8 := by
  rw [fitsB_iff hs hk ha hi (by omega)]
  have e1 : sumTo (fun p => (reach js ks nj kind a p).1) 11 = sumTo (fun p => (reach js ks nj kind a p).1) 8 := sumTo_zero (by omega) fun k h1 _ => by rw [reach_far hi ha (by omega)]
  have e2 : sumTo (fun p => (reach js ks nj kind a p).2) 11 = sumTo (fun p => (reach js ks nj kind a p).2) 8 := sumTo_zero (by omega) fun k h1 _ => by rw [reach_far hi ha (by omega)]
  rw [e1, e2]
theorem fits_agree {np nj nk p kd : Nat} {ps js ks : List Int} (good : Good np nj nk ps js ks) (hl : js.length = nj * 2) (hp : p < np) (hkd : kd < nk) : fitD js ks nj np p kd = true ↔ fitsB js ks nj np kd p := by
  rw [fitsB_iff8 good.small hkd hp (good.inner hl) good.np8]
  unfold fitD total
  rw [decide_eq_true_eq, sumTo_same (f := fun q => (shP js ks nj np p kd).getD (q * 2 + 0) 0) (g := fun q => (reach js ks nj kd p q).1) (fun q _ => (share_reach (good.inner hl) good.np8 hp q).1),
    sumTo_same (f := fun q => (shP js ks nj np p kd).getD (q * 2 + 1) 0) (g := fun q => (reach js ks nj kd p q).2) (fun q _ => (share_reach (good.inner hl) good.np8 hp q).2)]
theorem call21 (l : Nat) (a b c : Value) (H : Hp) (n : Nat) : (cal (l + 1)).call 21 [a, b, c] H n = C21_0 (cal l) KK a b c H n := by kernel_rfl
theorem fitsR_call (l : Nat) {np nj nk : Nat} {ps js ks : List Int} (hnj : nj ≤ KK) (hnp : np ≤ 100) (kind : Nat) (hk : kind < nk) (at_ : Int) (hs : Small ks nk) {H : Hp} {n : Nat} {v : Value} (hg : GroveI H n v np nj nk ps js ks) :
    ∃ (r : Bool) (H' : Hp) (n' : Nat), (r = true ↔ fitsB js ks nj np kind at_) ∧ (∀ k : Value → Hp → Nat → Option ρ, callFK P (cal (l + 4)) 21 [v, .int .i64 kind, .int .i64 at_] H n k = k (.bool r) H' n') ∧ n ≤ n' ∧ Keep n H H' := by
  obtain ⟨r, H', n', ⟨b, rfl, hb⟩, e1, e2, e3⟩ := callFK_spec (ρ := ρ) (P := P) (cal := cal (l + 4)) (f := 21) (args := [v, .int .i64 kind, .int .i64 at_]) (H := H) (n := n)
    (Pre := fun H n => GroveI H n v np nj nk ps js ks) (Q := fun r => ∃ b : Bool, r = .bool b ∧ (b = true ↔ fitsB js ks nj np kind at_))
    (fun H n h => by
      obtain ⟨r, h1, h2⟩ := fits_spec l hnj hnp kind hk at_ hs h
      exact ⟨.bool r, by rw [call21]; exact h1, r, rfl, h2⟩) (fun r ⟨b, e, _⟩ _ => by subst e; rfl) hg (fun hp => hg.nil (by simp only [pureL, Bool.and_eq_true] at hp; exact hp.1))
  exact ⟨b, H', n', hb, e1, e2, e3⟩
end Go.Proofs.Ytakjjillnllocaa.spec
