/- Texts S26 to S30 in one. -/
import Derived.Test.YtakjjillnllocaaN3
import Derived.Test.YtakjjillnllocaaEv39
import Derived.Test.YtakjjillnllocaaEv40
/- What the functions of the program do: a grove at work. -/
namespace Go.Proofs.Ytakjjillnllocaa.spec
open Go Go.Ev Go.Proofs.Ytakjjillnllocaa.nestFits Go.Proofs.Ytakjjillnllocaa.G
set_option maxRecDepth 100000
variable {ρ : Type}
theorem und115 : P.underlying 115 = some (.array 8 114) := by kernel_rfl
theorem und114 : P.underlying 114 = some (.array 3 113) := by kernel_rfl
theorem sz114 : szT P 114 = some 99 := by kernel_rfl
theorem at115 (b o : Nat) {i : Nat} (hi : i < 8) : indexAddrV P 115 (.pointer (some ⟨b, o, none⟩)) (.int .i64 i) = some (.pointer (some ⟨b, o + i * 99, none⟩)) := by
  unfold indexAddrV
  simp only [und115, idx_lt hi, sz114]
  rfl
theorem at114 (b o : Nat) {i : Nat} (hi : i < 3) : indexAddrV P 114 (.pointer (some ⟨b, o, none⟩)) (.int .i64 i) = some (.pointer (some ⟨b, o + i * 33, none⟩)) := by
  unfold indexAddrV
  simp only [und114, idx_lt hi, sz113]
  rfl
open Classical in
/-- Whether some of the first joins names two pads. -/
noncomputable def nearB (js : List Int) (i : Nat) (a b : Nat) : Bool := decide (∃ q, q < i ∧ J js a b q)
/-- What a kind allows the pads to get from a nest on a pad. -/
noncomputable def shP (js ks : List Int) (nj np p kd : Nat) : List Int := sharesL (ks.getD (kd * 5 + 1) 0) (ks.getD (kd * 5 + 2) 0) (ks.getD (kd * 5 + 3) 0) (ks.getD (kd * 5 + 4) 0) (nearB js nj p) np p
/-- The nest of a kind on a pad lies where it should. -/
def NestAt (f : Nat → Value) (js ks : List Int) (nj np p kd : Nat) : Prop := ∃ B, BoundsTo (ks.getD (kd * 5) 0) (shP js ks nj np p kd) B 8 ∧ ∀ j, j < 33 → f (67 + p * 99 + kd * 33 + j) = .int .i64 ((nestL (ks.getD (kd * 5) 0) (shP js ks nj np p kd) B).getD j 0)
/-- A grove at work: its lists, and who is near by the first i joins. -/
structure SiteF (f : Nat → Value) (x y z : Value) (js : List Int) (i : Nat) : Prop where
  x : f 0 = x
  y : f 1 = y
  z : f 2 = z
  near : ∀ a b, a < 8 → b < 8 → f (3 + a * 8 + b) = .bool (nearB js i a b)
open Classical in
theorem nearB_next {js : List Int} {i A B : Nat} (hA : js[i * 2]? = some (A : Int)) (hB : js[i * 2 + 1]? = some (B : Int)) (a b : Nat) :
    nearB js (i + 1) a b = if (a = A ∧ b = B) ∨ (a = B ∧ b = A) then true else nearB js i a b := by
  have hJ : J js a b i ↔ (a = A ∧ b = B) ∨ (a = B ∧ b = A) := by
    unfold J; rw [hA, hB]; simp only [Option.some.injEq]; omega
  unfold nearB
  by_cases h : (a = A ∧ b = B) ∨ (a = B ∧ b = A)
  · rw [if_pos h]
    exact decide_eq_true ⟨i, by omega, hJ.2 h⟩
  · rw [if_neg h]
    congr 1
    exact propext ⟨fun ⟨q, h1, h2⟩ => by
      rcases Nat.lt_or_ge q i with z | z
      · exact ⟨q, z, h2⟩
      · rw [show q = i by omega] at h2
        exact absurd (hJ.1 h2) h, fun ⟨q, h1, h2⟩ => ⟨q, by omega, h2⟩⟩
/-- What is behind the joins, as a parameter. -/
theorem near_loop61 (c : Cal) (k : Nat) (g np nj : Nat) (js : List Int) (x y z : Value) (hnp : np ≤ 8) (hnj : nj ≤ 1000) (hjs : ∀ i, i < nj → ∃ A B : Nat, js[i * 2]? = some (A : Int) ∧ js[i * 2 + 1]? = some (B : Int) ∧ A < np ∧ B < np)
    (Q : Res → Prop) (H0 : Hp) (n0 : Nat) (hg : n0 ≤ g) (hy0 : SliceR H0 n0 2 y nj js) (hx : ∀ (H : Hp) (n : Nat) (f : Nat → Value), n0 ≤ n → g < n → Keep n0 H0 H → CellsF H g 859 117 f → SiteF f x y z js nj →
      (∀ p kd j, p < 8 → kd < 3 → j < 33 → f (67 + p * 99 + kd * 33 + j) = .int .i64 0 → True) → Q (S61_2 c k k (.pointer (some ⟨g, 0, none⟩)) (.int .i64 np) (.int .i64 0) H n)) (hlx : lenV P 31 x = some (.int .i64 np)) :
    ∀ (m i : Nat) (H : Hp) (n : Nat) (f : Nat → Value), n0 ≤ n → g < n → Keep n0 H0 H → CellsF H g 859 117 f → SiteF f x y z js i → i ≤ nj → nj - i ≤ m →
    Q (S61_1 c k m (.pointer (some ⟨g, 0, none⟩)) y (.int .i64 nj) (.int .i64 i) H n) := by
  have body : ∀ (b1 : Value → Value → Value → Value → Hp → Nat → Res) (m i : Nat) (H : Hp) (n : Nat) (f : Nat → Value), n0 ≤ n → g < n → Keep n0 H0 H → CellsF H g 859 117 f → SiteF f x y z js i → i ≤ nj →
      (∀ (H : Hp) (n : Nat) (f : Nat → Value), n0 ≤ n → g < n → Keep n0 H0 H → CellsF H g 859 117 f → SiteF f x y z js (i + 1) → i < nj → Q (b1 (.pointer (some ⟨g, 0, none⟩)) y (.int .i64 nj) (.int .i64 ((i + 1 : Nat) : Int)) H n)) →
      Q (C61_1 c k m b1 (.pointer (some ⟨g, 0, none⟩)) y (.int .i64 nj) (.int .i64 i) H n) := by
    intro b1 m i H n f hn hgn hk hf hs hi ih
    unfold C61_1 B61_1
    generalize hS : S61_2 c k k = S
    rw [binK_some bin_lss, ifK_d]
    by_cases hlt : i < nj
    · rw [if_pos (by omega)]
      obtain ⟨A, B, hA, hB, hA8, hB8⟩ := hjs i hlt
      have hy := (hy0.keep hk (Nat.le_refl _)).up hn
      obtain ⟨bb, o, hix, hbn, hc⟩ := hy.at_ und32 sz88 hlt
      have hl2 : i * 2 + 2 ≤ js.length := by rw [hy.1]; omega
      obtain ⟨u, w, hu, hw, huw⟩ := pair_at hl2
      rw [hA] at hu; rw [hB] at hw
      cases hu; cases hw
      have hld : loadV P H 88 ⟨bb, o + i * 2, none⟩ = some (.agg ⟨[.int .i64 A, .int .i64 B]⟩) := by
        rw [loadV_agg hc agg88 sz88 (by rw [ints_length]; exact hl2) (ints_noHole _), huw]
      obtain ⟨H1, k1, k2, k3⟩ := spill (P := P) (ρ := Value × Hp × Nat) (H := H) (n := n) (L := [.int .i64 A, .int .i64 B]) zero88 rfl sz88 rfl rfl
      rw [hix, bindO_some, addrV_eq, bindO_some, hld, bindO_some, k3]
      have la : loadV P H1 3 ⟨n, 0 + 0, none⟩ = some (.int .i64 A) := loadV_int (cells_at k2) agg3 rfl
      have lb : loadV P H1 3 ⟨n, 0 + 1, none⟩ = some (.int .i64 B) := loadV_int (cells_at k2) agg3 rfl
      rw [fa88_0, bindO_some, addrV_eq, bindO_some, la, bindO_some, fa88_1, bindO_some, addrV_eq, bindO_some, lb, bindO_some, bindO_some, addrV_eq, bindO_some, lb, bindO_some, bindO_some, addrV_eq, bindO_some, la, bindO_some, nil_ptr, bindO_some, fa117_1, bindO_some,
        at109 _ _ (by omega), bindO_some, at108 _ _ (by omega), bindO_some, bindO_some, fa117_1, bindO_some, at109 _ _ (by omega), bindO_some]
      have hf1 := hf.keep k1 hgn
      obtain ⟨H2, H2', n2, e2, ⟨r1, r2, r3⟩, r4, r5⟩ := effK_gen (P := P) (ρ := Value × Hp × Nat) (ex := [.l 3 ⟨n, 0 + 0, none⟩, .l 3 ⟨n, 0 + 1, none⟩]) (H := H1) (n := n + 1) (v := undef)
        (op := fun H n k => bindO (storeP P 4 (.pointer (some ⟨g, 0 + 3 + A * 8 + B * 1, none⟩)) (.bool true) H) fun H => k undef H n)
        (R := fun H' n' => n' = n + 1 ∧ CellsF H' g 859 117 (putF f (0 + 3 + A * 8 + B * 1) [.bool true]) ∧ ∀ b, b ≠ n → b ≠ g → H'.get b = H1.get b)
        (fun q hq => by
          simp only [List.mem_cons, List.not_mem_nil, or_false] at hq
          rcases hq with rfl | rfl <;> exact ⟨_, _, rfl, .inl ⟨_, _, _, _, k2⟩⟩)
        (fun Hm hm => by
          have hld : ∀ b, ldOf [.l 3 ⟨n, 0 + 0, none⟩, .l 3 ⟨n, 0 + 1, none⟩] b ↔ b = n := fun b => by
            constructor
            · rintro ⟨t, a, h1, h2⟩
              simp only [List.mem_cons, List.not_mem_nil, or_false, Extra.l.injEq] at h1
              rcases h1 with ⟨_, rfl⟩ | ⟨_, rfl⟩ <;> exact h2.symm
            · rintro rfl
              exact ⟨3, ⟨_, 0 + 0, none⟩, by simp, rfl⟩
          have hmg : CellsF Hm g 859 117 f := by
            obtain ⟨c, e1, e2, e3⟩ := hf1
            exact ⟨c, by rw [hm g (fun h => by have := (hld g).1 h; omega)]; exact e1, e2, e3⟩
          obtain ⟨H', s1, s2, s3⟩ := hmg.storeN (o := 0 + 3 + A * 8 + B * 1) (vs := [.bool true]) (by simp; omega) rfl
          refine ⟨H', n + 1, fun k => by rw [storeP_leaf sz4 rfl, s1, bindO_some], fun b hb => s3 b (by have := (hld b).1 hb; omega), rfl, s2, fun b hb hb' => ?_⟩
          rw [s3 b hb', hm b (fun h => hb ((hld b).1 h))])
      rw [e2, at108 _ _ (by omega), bindO_some]
      subst r1
      have hld : ∀ b, ldOf [.l 3 ⟨n, 0 + 0, none⟩, .l 3 ⟨n, 0 + 1, none⟩] b ↔ b = n := fun b => by
        constructor
        · rintro ⟨t, a, h1, h2⟩
          simp only [List.mem_cons, List.not_mem_nil, or_false, Extra.l.injEq] at h1
          rcases h1 with ⟨_, rfl⟩ | ⟨_, rfl⟩ <;> exact h2.symm
        · rintro rfl
          exact ⟨3, ⟨_, 0 + 0, none⟩, by simp, rfl⟩
      have hf2 : CellsF H2 g 859 117 (putF f (0 + 3 + A * 8 + B * 1) [.bool true]) := by
        obtain ⟨c, e1, e2, e3⟩ := r2
        exact ⟨c, by rw [r5 g (fun h => by have := (hld g).1 h; omega)]; exact e1, e2, e3⟩
      obtain ⟨H3, s1, s2, s3⟩ := hf2.storeN (o := 0 + 3 + B * 8 + A * 1) (vs := [.bool true]) (by simp; omega) rfl
      have hI : I64 ((i : Int) + 1) := by unfold I64; omega
      have hcast : ((i : Int) + 1) = ((i + 1 : Nat) : Int) := by omega
      rw [storeP_leaf sz4 rfl, s1, bindO_some, binK_some (bin_add hI), hcast]
      refine ih H3 (n + 1) _ (by omega) (by omega) (fun b hb => ?_) s2 ⟨?_, ?_, ?_, fun a b ha hb => ?_⟩ hlt
      · rw [s3 b (by omega), r5 b (fun h => by have := (hld b).1 h; omega), r3 b (by omega) (by omega), k1 b (by omega), hk b hb]
      · rw [putF_one, if_neg (by omega), putF_one, if_neg (by omega)]; exact hs.x
      · rw [putF_one, if_neg (by omega), putF_one, if_neg (by omega)]; exact hs.y
      · rw [putF_one, if_neg (by omega), putF_one, if_neg (by omega)]; exact hs.z
      · rw [putF_one, putF_one, nearB_next hA hB, hs.near a b ha hb]
        by_cases c1 : 3 + a * 8 + b = 0 + 3 + B * 8 + A * 1
        · rw [if_pos c1, if_pos (.inr ⟨by omega, by omega⟩)]
        · rw [if_neg c1]
          by_cases c2 : 3 + a * 8 + b = 0 + 3 + A * 8 + B * 1
          · rw [if_pos c2, if_pos (.inl ⟨by omega, by omega⟩)]
          · rw [if_neg c2, if_neg]
            rintro (⟨h1, h2⟩ | ⟨h1, h2⟩)
            · exact c2 (by subst h1; subst h2; omega)
            · exact c1 (by subst h1; subst h2; omega)
    · rw [if_neg (by omega)]
      have hi' : i = nj := by omega
      subst hi'
      have lx : loadV P H 31 ⟨g, 0 + 0 + 0, none⟩ = some x := by
        have := hf.load (P := P) (k := 0) agg31 (by omega)
        rw [hs.x] at this; exact this
      rw [nil_ptr, bindO_some, fa117_0, bindO_some, fa35_0, bindO_some, addrV_eq, bindO_some, lx, bindO_some, hlx, bindO_some, ← hS]
      exact hx H n f hn hgn hk hf hs (fun _ _ _ _ _ _ _ => trivial)
  intro m
  induction m with
  | zero =>
    intro i H n f h1 h2 h3 h4 h5 h6 h7
    exact body _ 0 i H n f h1 h2 h3 h4 h5 h6 (fun _ _ _ _ _ _ _ _ h => by omega)
  | succ m ih =>
    intro i H n f h1 h2 h3 h4 h5 h6 h7
    exact body _ (m + 1) i H n f h1 h2 h3 h4 h5 h6 (fun H n f q1 q2 q3 q4 q5 q6 => ih (i + 1) H n f q1 q2 q3 q4 q5 (by omega) (by omega))
end Go.Proofs.Ytakjjillnllocaa.spec
/- What the functions of the program do: a grove at work, with its nests. -/
namespace Go.Proofs.Ytakjjillnllocaa.spec
open Go Go.Ev Go.Proofs.Ytakjjillnllocaa.nestFits Go.Proofs.Ytakjjillnllocaa.G
set_option maxRecDepth 100000
variable {ρ : Type}
theorem getD_some {X : List Int} {j : Nat} (h : j < X.length) : X[j]? = some (X.getD j 0) := by
  rw [List.getD_eq_getElem?_getD, List.getElem?_eq_getElem h]; rfl
theorem nestOn_call (l : Nat) {H : Hp} {n g np pad : Nat} {f : Nat → Value} {x : Value} {near : Nat → Bool} {y a1 a2 a3 a4 : Int} (hg : g < n) (hs : CellsF H g 859 117 f) (hx : f 0 = x) (hlen : lenV P 31 x = some (.int .i64 np)) (hnp : np ≤ 8) (hpad : pad < 8)
    (hnear : ∀ b, b < 8 → f (3 + pad * 8 + b) = .bool (near b)) (hy : 0 ≤ y ∧ y ≤ 1000) (h1 : okR a1 a2) (h2 : okR a3 a4) :
    ∃ B H' n', BoundsTo y (sharesL a1 a2 a3 a4 near np pad) B 8 ∧ (∀ k : Value → Hp → Nat → Option ρ, callFK P (cal (l + 5)) 97 [.pointer (some ⟨g, 0, none⟩), .int .i64 pad, .agg ⟨[.int .i64 y, .int .i64 a1, .int .i64 a2, .int .i64 a3, .int .i64 a4]⟩] H n k =
      k (.agg ⟨ints (nestL y (sharesL a1 a2 a3 a4 near np pad) B)⟩) H' n') ∧ n ≤ n' ∧ Keep n H H' := by
  obtain ⟨B, hB, H', n', e, h3, h4⟩ := nestOn_spec l hg hs hx hlen hnp hpad hnear hy h1 h2
  refine ⟨B, H', n', hB, fun k => ?_, h3, h4⟩
  unfold callFK
  have : (flatF P 97 && pureL [.pointer (some ⟨g, 0, none⟩), .int .i64 pad, .agg ⟨[.int .i64 y, .int .i64 a1, .int .i64 a2, .int .i64 a3, .int .i64 a4]⟩]) = false := by rw [Bool.and_eq_false_iff]; exact .inr rfl
  rw [this, e]
  rfl
/-- The nests before some place are there. -/
def NestsTo (f : Nat → Value) (js ks : List Int) (nj np nk pd i : Nat) : Prop := ∀ p kd, p < np → kd < nk → (p < pd ∨ (p = pd ∧ kd < i)) → NestAt f js ks nj np p kd
/-- All kinds are valid. -/
def KindsOk (ks : List Int) (nk : Nat) : Prop := ∀ kd, kd < nk → (0 ≤ ks.getD (kd * 5) 0 ∧ ks.getD (kd * 5) 0 ≤ 1000) ∧ okR (ks.getD (kd * 5 + 1) 0) (ks.getD (kd * 5 + 2) 0) ∧ okR (ks.getD (kd * 5 + 3) 0) (ks.getD (kd * 5 + 4) 0)
theorem nests_loop3 (l k m1 : Nat) (g np nj nk : Nat) (js ks : List Int) (x y z : Value) (hnp : np ≤ 8) (hnk : nk ≤ 3) (hks : KindsOk ks nk)
    (Q : Res → Prop) (H0 : Hp) (n0 : Nat) (hg : n0 ≤ g) (hz0 : SliceR H0 n0 5 z nk ks) (hlx : lenV P 31 x = some (.int .i64 np)) (pd : Nat) (hpd : pd < np) (b2 : Value → Value → Value → Hp → Nat → Res)
    (hb2 : ∀ (H : Hp) (n : Nat) (f : Nat → Value), n0 ≤ n → g < n → Keep n0 H0 H → CellsF H g 859 117 f → SiteF f x y z js nj → NestsTo f js ks nj np nk (pd + 1) 0 → Q (b2 (.pointer (some ⟨g, 0, none⟩)) (.int .i64 np) (.int .i64 ((pd + 1 : Nat) : Int)) H n)) :
    ∀ (m i : Nat) (H : Hp) (n : Nat) (f : Nat → Value), n0 ≤ n → g < n → Keep n0 H0 H → CellsF H g 859 117 f → SiteF f x y z js nj → NestsTo f js ks nj np nk pd i → i ≤ nk → nk - i ≤ m →
    Q (S61_3 (cal (l + 5)) k m1 b2 m (.pointer (some ⟨g, 0, none⟩)) (.int .i64 pd) (.int .i64 np) (.int .i64 pd) z (.int .i64 nk) (.int .i64 i) H n) := by
  have body : ∀ (b3 : Value → Value → Value → Value → Value → Value → Value → Hp → Nat → Res) (m i : Nat) (H : Hp) (n : Nat) (f : Nat → Value), n0 ≤ n → g < n → Keep n0 H0 H → CellsF H g 859 117 f → SiteF f x y z js nj → NestsTo f js ks nj np nk pd i → i ≤ nk →
      (∀ (H : Hp) (n : Nat) (f : Nat → Value), n0 ≤ n → g < n → Keep n0 H0 H → CellsF H g 859 117 f → SiteF f x y z js nj → NestsTo f js ks nj np nk pd (i + 1) → i < nk →
        Q (b3 (.pointer (some ⟨g, 0, none⟩)) (.int .i64 pd) (.int .i64 np) (.int .i64 pd) z (.int .i64 nk) (.int .i64 ((i + 1 : Nat) : Int)) H n)) →
      Q (C61_3 (cal (l + 5)) k m1 m b2 b3 (.pointer (some ⟨g, 0, none⟩)) (.int .i64 pd) (.int .i64 np) (.int .i64 pd) z (.int .i64 nk) (.int .i64 i) H n) := by
    intro b3 m i H n f hn hgn hk hf hs hnt hi ih
    unfold C61_3 B61_3
    rw [binK_some bin_lss, ifK_d]
    by_cases hlt : i < nk
    · rw [if_pos (by omega)]
      have hz := (hz0.keep hk (Nat.le_refl _)).up hn
      obtain ⟨bb, o, hix, hbn, hc⟩ := hz.at_ und33 sz86 hlt
      have hl2 : i * 5 + 5 ≤ ks.length := by rw [hz.1]; omega
      have hld : loadV P H 86 ⟨bb, o + i * 5, none⟩ = some (.agg ⟨[.int .i64 (ks.getD (i * 5) 0), .int .i64 (ks.getD (i * 5 + 1) 0), .int .i64 (ks.getD (i * 5 + 2) 0), .int .i64 (ks.getD (i * 5 + 3) 0), .int .i64 (ks.getD (i * 5 + 4) 0)]⟩) := by
        rw [loadV_agg hc agg86 sz86 (by rw [ints_length]; exact hl2) (ints_noHole _), five_at hl2]
      obtain ⟨H1, k1, k2, k3⟩ := spill (P := P) (ρ := Value × Hp × Nat) (H := H) (n := n) (L := [.int .i64 (ks.getD (i * 5) 0), .int .i64 (ks.getD (i * 5 + 1) 0), .int .i64 (ks.getD (i * 5 + 2) 0), .int .i64 (ks.getD (i * 5 + 3) 0), .int .i64 (ks.getD (i * 5 + 4) 0)]) zero86 rfl sz86 rfl rfl
      rw [hix, bindO_some, addrV_eq, bindO_some, hld, bindO_some, k3]
      have hback := load_all k2 agg86 sz86 rfl
      rw [addrV_eq, bindO_some, hback, bindO_some, nil_ptr, bindO_some, fa117_2, bindO_some, at115 _ _ (by omega), bindO_some]
      have hf1 := hf.keep k1 hgn
      obtain ⟨y1, y2, y3⟩ := hks i hlt
      obtain ⟨B, H2, n2, hB, e2, e3, e4⟩ := nestOn_call (ρ := Value × Hp × Nat) l (n := n + 1) (by omega) hf1 hs.x hlx hnp (show pd < 8 by omega) (near := nearB js nj pd) (fun b hb => hs.near pd b (by omega) hb) y1 y2 y3
      rw [e2, at114 _ _ (by omega), bindO_some]
      have hf2 := hf1.keep e4 (by omega)
      have lens : (ints (nestL (ks.getD (i * 5) 0) (sharesL (ks.getD (i * 5 + 1) 0) (ks.getD (i * 5 + 2) 0) (ks.getD (i * 5 + 3) 0) (ks.getD (i * 5 + 4) 0) (nearB js nj pd) np pd) B)).length = 33 := by rw [ints_length, nest_cells (sharesL_len ..) hB.1]
      obtain ⟨H3, s1, s2, s3⟩ := hf2.storeN (o := 0 + 67 + pd * 99 + i * 33) (vs := ints (nestL (ks.getD (i * 5) 0) (sharesL (ks.getD (i * 5 + 1) 0) (ks.getD (i * 5 + 2) 0) (ks.getD (i * 5 + 3) 0) (ks.getD (i * 5 + 4) 0) (nearB js nj pd) np pd) B)) (by rw [lens]; omega) (ints_leaf _)
      have hI : I64 ((i : Int) + 1) := by unfold I64; omega
      have hcast : ((i : Int) + 1) = ((i + 1 : Nat) : Int) := by omega
      rw [storeP_agg sz113 lens, s1, bindO_some, binK_some (bin_add hI), hcast]
      refine ih H3 n2 _ (by omega) (by omega) (fun b hb => ?_) s2 ⟨?_, ?_, ?_, fun a b ha hb => ?_⟩ (fun p kd hp hkd hpk => ?_) hlt
      · rw [s3 b (by omega), e4 b (by omega), k1 b (by omega), hk b hb]
      · rw [putF_out _ _ _ (.inl (by omega))]; exact hs.x
      · rw [putF_out _ _ _ (.inl (by omega))]; exact hs.y
      · rw [putF_out _ _ _ (.inl (by omega))]; exact hs.z
      · rw [putF_out _ _ _ (.inl (by omega))]; exact hs.near a b ha hb
      · by_cases hnew : p = pd ∧ kd = i
        · obtain ⟨rfl, rfl⟩ := hnew
          refine ⟨B, hB, fun j hj => ?_⟩
          rw [show 67 + p * 99 + kd * 33 + j = 0 + 67 + p * 99 + kd * 33 + j by omega]
          refine putF_in _ _ _ (ints_get ?_)
          have : j < (nestL (ks.getD (kd * 5) 0) (sharesL (ks.getD (kd * 5 + 1) 0) (ks.getD (kd * 5 + 2) 0) (ks.getD (kd * 5 + 3) 0) (ks.getD (kd * 5 + 4) 0) (nearB js nj p) np p) B).length := by rw [← ints_length, lens]; exact hj
          exact getD_some this
        · obtain ⟨B', hB', hf'⟩ := hnt p kd hp hkd (by omega)
          refine ⟨B', hB', fun j hj => ?_⟩
          rw [putF_out _ _ _ (by rw [lens]; omega)]
          exact hf' j hj
    · rw [if_neg (by omega)]
      have hi' : i = nk := by omega
      subst hi'
      have hI : I64 ((pd : Int) + 1) := by unfold I64; omega
      have hcast : ((pd : Int) + 1) = ((pd + 1 : Nat) : Int) := by omega
      rw [binK_some (bin_add hI), hcast]
      exact hb2 H n f hn hgn hk hf hs (fun p kd hp hkd h => hnt p kd hp hkd (by omega))
  intro m
  induction m with
  | zero =>
    intro i H n f h1 h2 h3 h4 h5 h6 h7 h8
    exact body _ 0 i H n f h1 h2 h3 h4 h5 h6 h7 (fun _ _ _ _ _ _ _ _ _ h => by omega)
  | succ m ih =>
    intro i H n f h1 h2 h3 h4 h5 h6 h7 h8
    exact body _ (m + 1) i H n f h1 h2 h3 h4 h5 h6 h7 (fun H n f q1 q2 q3 q4 q5 q6 q7 => ih (i + 1) H n f q1 q2 q3 q4 q5 q6 (by omega) (by omega))
theorem nests_loop2 (l k : Nat) (g np nj nk : Nat) (js ks : List Int) (x y z : Value) (hnp : np ≤ 8) (hnk : nk ≤ 3) (hks : KindsOk ks nk)
    (Q : Res → Prop) (H0 : Hp) (n0 : Nat) (hg : n0 ≤ g) (hz0 : SliceR H0 n0 5 z nk ks) (hlx : lenV P 31 x = some (.int .i64 np))
    (hq : ∀ (H : Hp) (n : Nat) (f : Nat → Value), n0 ≤ n → g < n → Keep n0 H0 H → CellsF H g 859 117 f → SiteF f x y z js nj → (∀ p kd, p < np → kd < nk → NestAt f js ks nj np p kd) → Q (some (.tuple ⟨[.pointer (some ⟨g, 0, none⟩), .int .i64 0]⟩, H, n))) :
    ∀ (m i : Nat) (H : Hp) (n : Nat) (f : Nat → Value), n0 ≤ n → g < n → Keep n0 H0 H → CellsF H g 859 117 f → SiteF f x y z js nj → NestsTo f js ks nj np nk i 0 → i ≤ np → np - i + 3 ≤ m →
    Q (S61_2 (cal (l + 5)) k m (.pointer (some ⟨g, 0, none⟩)) (.int .i64 np) (.int .i64 i) H n) := by
  have body : ∀ (b2 : Value → Value → Value → Hp → Nat → Res) (m i : Nat) (H : Hp) (n : Nat) (f : Nat → Value), n0 ≤ n → g < n → Keep n0 H0 H → CellsF H g 859 117 f → SiteF f x y z js nj → NestsTo f js ks nj np nk i 0 → i ≤ np → 3 ≤ m →
      (∀ (H : Hp) (n : Nat) (f : Nat → Value), n0 ≤ n → g < n → Keep n0 H0 H → CellsF H g 859 117 f → SiteF f x y z js nj → NestsTo f js ks nj np nk (i + 1) 0 → i < np → Q (b2 (.pointer (some ⟨g, 0, none⟩)) (.int .i64 np) (.int .i64 ((i + 1 : Nat) : Int)) H n)) →
      Q (C61_2 (cal (l + 5)) k m b2 (.pointer (some ⟨g, 0, none⟩)) (.int .i64 np) (.int .i64 i) H n) := by
    intro b2 m i H n f hn hgn hk hf hs hnt hi hm ih
    unfold C61_2 B61_2
    generalize hS : S61_3 (cal (l + 5)) k m b2 m = S
    rw [binK_some bin_lss, ifK_d]
    by_cases hlt : i < np
    · rw [if_pos (by omega)]
      have lz : loadV P H 33 ⟨g, 0 + 0 + 2, none⟩ = some z := by
        have := hf.load (P := P) (k := 2) agg33 (by omega)
        rw [hs.z] at this; exact this
      have e3 : lenV P 33 z = some (.int .i64 nk) := hz0.len_eq und33
      rw [nil_ptr, bindO_some, fa117_0, bindO_some, fa35_2, bindO_some, addrV_eq, bindO_some, lz, bindO_some, e3, bindO_some, ← hS]
      exact nests_loop3 l k m g np nj nk js ks x y z hnp hnk hks Q H0 n0 hg hz0 hlx i hlt b2 (fun H n f q1 q2 q3 q4 q5 q6 => ih H n f q1 q2 q3 q4 q5 q6 hlt) m 0 H n f hn hgn hk hf hs hnt (by omega) (by omega)
    · rw [if_neg (by omega)]
      exact hq H n f hn hgn hk hf hs (fun p kd hp hkd => hnt p kd hp hkd (.inl (by omega)))
  intro m
  induction m with
  | zero =>
    intro i H n f h1 h2 h3 h4 h5 h6 h7 h8
    omega
  | succ m ih =>
    intro i H n f h1 h2 h3 h4 h5 h6 h7 h8
    exact body _ (m + 1) i H n f h1 h2 h3 h4 h5 h6 h7 (by omega) (fun H n f q1 q2 q3 q4 q5 q6 q7 => ih (i + 1) H n f q1 q2 q3 q4 q5 q6 (by omega) (by omega))
end Go.Proofs.Ytakjjillnllocaa.spec
/- What the functions of the program do: open. -/
namespace Go.Proofs.Ytakjjillnllocaa.spec
open Go Go.Ev Go.Proofs.Ytakjjillnllocaa.nestFits Go.Proofs.Ytakjjillnllocaa.G
set_option maxRecDepth 100000
variable {ρ : Type}
open Classical in
theorem nearB_zero (js : List Int) (a b : Nat) : nearB js 0 a b = false := by
  unfold nearB
  exact decide_eq_false (fun ⟨q, h, _⟩ => by omega)
theorem build117 (x y z : Value) : buildP P 117 [(0, .agg ⟨[x, y, z]⟩)] = some (.agg ⟨x :: y :: z :: (List.replicate 64 (.bool false) ++ List.replicate 792 (.int .i64 0))⟩) := by kernel_rfl
def site0 (x y z : Value) (k : Nat) : Value := if k = 0 then x else if k = 1 then y else if k = 2 then z else if k < 67 then .bool false else .int .i64 0
theorem site0_at (x y z : Value) (k : Nat) (hk : k < 859) : (x :: y :: z :: (List.replicate 64 (Value.bool false) ++ List.replicate 792 (Value.int .i64 0)))[k]? = some (site0 x y z k) := by
  match k, hk with
  | 0, _ => rfl
  | 1, _ => rfl
  | 2, _ => rfl
  | k + 3, hk =>
    rw [List.getElem?_cons_succ, List.getElem?_cons_succ, List.getElem?_cons_succ]
    unfold site0
    rw [if_neg (by omega), if_neg (by omega), if_neg (by omega)]
    by_cases h : k < 64
    · rw [List.getElem?_append_left (by simp; omega), List.getElem?_replicate, if_pos h, if_pos (by omega)]
    · rw [List.getElem?_append_right (by simp; omega), List.getElem?_replicate, List.length_replicate, if_pos (by omega), if_neg (by omega)]
/-- What is known of a valid grove. -/
structure Good (np nj nk : Nat) (ps js ks : List Int) : Prop where
  np8 : np ≤ 8
  nj16 : nj ≤ 16
  nk3 : nk ≤ 3
  np1 : np ≠ 0
  nk1 : nk ≠ 0
  ok : ¬ GBad np nj nk ps js ks
theorem good_of {np nj nk : Nat} {ps js ks : List Int} (h : faultN np nj nk ps js ks = 0) : Good np nj nk ps js ks := by
  unfold faultN at h
  by_cases c1 : 8 < np ∨ 16 < nj ∨ 3 < nk
  · rw [if_pos c1] at h; omega
  · rw [if_neg c1] at h
    by_cases c2 : np = 0 ∨ nk = 0
    · rw [if_pos c2] at h; omega
    · rw [if_neg c2] at h
      by_cases c3 : GBad np nj nk ps js ks
      · rw [if_pos c3] at h; omega
      · exact ⟨by omega, by omega, by omega, by omega, by omega, c3⟩
theorem Good.kinds {np nj nk : Nat} {ps js ks : List Int} (h : Good np nj nk ps js ks) : KindsOk ks nk := by
  intro kd hkd
  have hb : ¬ KBad ks kd := fun c => h.ok (.inr (.inl ⟨kd, hkd, c⟩))
  unfold KBad at hb
  unfold okR
  omega
theorem Good.joins {np nj nk : Nat} {ps js ks : List Int} (h : Good np nj nk ps js ks) (hl : js.length = nj * 2) (i : Nat) (hi : i < nj) : ∃ A B : Nat, js[i * 2]? = some (A : Int) ∧ js[i * 2 + 1]? = some (B : Int) ∧ A < np ∧ B < np := by
  have hb : ∀ i, i < nj → okJ js np nj (js.getD (i * 2) 0) (js.getD (i * 2 + 1) 0) := (joins_all hl).2 fun c => h.ok (.inr (.inr c))
  obtain ⟨o1, o2, _, _⟩ := hb i hi
  refine ⟨(js.getD (i * 2) 0).toNat, (js.getD (i * 2 + 1) 0).toNat, ?_, ?_, by omega, by omega⟩
  · rw [getD_some (show i * 2 < js.length by omega)]; congr 1; omega
  · rw [getD_some (show i * 2 + 1 < js.length by omega)]; congr 1; omega
/-- What open returns for a valid grove. -/
def Opened (r : Res) (n : Nat) (H : Hp) (v : Value) (np nj nk : Nat) (js ks : List Int) : Prop := ∃ (g : Nat) (x y z : Value) (f : Nat → Value) (H' : Hp) (n' : Nat), r = some (.tuple ⟨[.pointer (some ⟨g, 0, none⟩), .int .i64 0]⟩, H', n') ∧ n ≤ n' ∧ Keep n H H' ∧ n ≤ g ∧ g < n' ∧
  v = .agg ⟨[x, y, z]⟩ ∧ CellsF H' g 859 117 f ∧ SiteF f x y z js nj ∧ ∀ p kd, p < np → kd < nk → NestAt f js ks nj np p kd
theorem open_spec (l : Nat) {np nj nk : Nat} {ps js ks : List Int} {H : Hp} {n : Nat} {v : Value} (hg : GroveP H n v np nj nk ps js ks) (hnp : np ≤ 1000) (hnj : nj ≤ 1000) (hnk : nk ≤ 1000) :
    (faultN np nj nk ps js ks ≠ 0 → Ret (C61_0 (cal (l + 5)) KK v H n) n H (.tuple ⟨[.pointer none, .int .i64 (faultN np nj nk ps js ks)]⟩)) ∧
    (faultN np nj nk ps js ks = 0 → Opened (C61_0 (cal (l + 5)) KK v H n) n H v np nj nk js ks) := by
  have hg0 := hg
  obtain ⟨x, y, z, rfl, h1, h2, h3⟩ := hg
  unfold C61_0 B61_0
  generalize hS : S61_1 (cal (l + 5)) KK KK = S
  rw [boxK_eq]
  simp only [cellsV, ptr]
  have hk : Keep n H (H.set n (some (.cells [x, y, z] 35 false none))) := (Keep.refl n H).set (Nat.le_refl _) _
  have hb : CellsAt (H.set n (some (.cells [x, y, z] 35 false none))) n 0 [x, y, z] := CellsAt.new
  generalize H.set n (some (.cells [x, y, z] 35 false none)) = H1 at hk hb ⊢
  have lg : ∀ H2, CellsAt H2 n 0 [x, y, z] → loadV P H2 35 ⟨n, 0, none⟩ = some (.agg ⟨[x, y, z]⟩) := fun H2 h => loadV_agg (o := 0) (k := 0) h agg35 sz35 (by simp) (by simp [h1.hole.1, h2.hole.1, h3.hole.1])
  obtain ⟨H2, n2, e1, e2, e3⟩ := check_call (ρ := Value × Hp × Nat) (l + 1) (hg0.keep hk (show n ≤ n + 1 by omega)) hnp hnj hnk
  rw [addrV_eq, bindO_some, lg H1 hb, bindO_some, e1, binK_some bin_neq]
  constructor
  · intro hne
    rw [decide_eq_false hne, Bool.not_false, ifK_t]
    exact ⟨H2, n2, rfl, by omega, hk.trans e3 (by omega)⟩
  · intro he
    have good := good_of he
    have hb2 := hb.keep e3 (by omega)
    rw [decide_eq_true he, Bool.not_true, ifK_f, bindO_some, lg H2 hb2, bindO_some, build117, bindO_some, boxK_eq]
    simp only [cellsV, ptr]
    have kk : Keep n H H2 := hk.trans e3 (by omega)
    have hf : CellsF (H2.set n2 (some (.cells (x :: y :: z :: (List.replicate 64 (.bool false) ++ List.replicate 792 (.int .i64 0))) 117 false none))) n2 859 117 (site0 x y z) := CellsF.new (by simp) _ (site0_at x y z)
    have kk2 : Keep n H (H2.set n2 (some (.cells (x :: y :: z :: (List.replicate 64 (.bool false) ++ List.replicate 792 (.int .i64 0))) 117 false none))) := kk.set (by omega) _
    generalize H2.set n2 (some (.cells (x :: y :: z :: (List.replicate 64 (.bool false) ++ List.replicate 792 (.int .i64 0))) 117 false none)) = H3 at hf kk2 ⊢
    have ly : loadV P H3 32 ⟨n2, 0 + 0 + 1, none⟩ = some y := hf.load (P := P) (k := 1) agg32 (by omega)
    have ey : lenV P 32 y = some (.int .i64 nj) := h2.len_eq und32
    rw [nil_ptr, bindO_some, fa117_0, bindO_some, fa35_1, bindO_some, addrV_eq, bindO_some, ly, bindO_some, ey, bindO_some, ← hS]
    have hlx : lenV P 31 x = some (.int .i64 np) := h1.len_eq und31
    refine near_loop61 (cal (l + 5)) KK n2 np nj js x y z good.np8 hnj (good.joins h2.1) (fun r => Opened r n H (.agg ⟨[x, y, z]⟩) np nj nk js ks) H n (by omega) h2
      (fun H4 n4 f4 q1 q2 q3 q4 q5 _ => nests_loop2 l KK n2 np nj nk js ks x y z good.np8 good.nk3 good.kinds (fun r => Opened r n H (.agg ⟨[x, y, z]⟩) np nj nk js ks) H n (by omega) h3 hlx
        (fun H5 n5 f5 p1 p2 p3 p4 p5 p6 => ⟨n2, x, y, z, f5, H5, n5, rfl, by omega, p3, by omega, p2, rfl, p4, p5, p6⟩) KK 0 H4 n4 f4 q1 q2 q3 q4 q5 (fun p kd _ _ h => by omega) (by omega) (by have := good.np8; unfold KK; omega)) hlx
      KK 0 H3 (n2 + 1) (site0 x y z) (by omega) (by omega) kk2 hf ⟨rfl, rfl, rfl, fun a b ha hb => ?_⟩ (by omega) (by unfold KK; omega)
    unfold site0
    rw [if_neg (by omega), if_neg (by omega), if_neg (by omega), if_pos (by omega), nearB_zero]
theorem flat61 : flatF P 61 = false := by kernel_rfl
theorem call61 (l : Nat) (a : Value) (H : Hp) (n : Nat) : (cal (l + 1)).call 61 [a] H n = C61_0 (cal l) KK a H n := by kernel_rfl
theorem open_call (l : Nat) (v : Value) (H : Hp) (n : Nat) (k : Value → Hp → Nat → Option ρ) : callFK P (cal (l + 6)) 61 [v] H n k = bindO (C61_0 (cal (l + 5)) KK v H n) fun r => k r.1 r.2.1 r.2.2 := by
  unfold callFK
  rw [flat61, call61]
  rfl
end Go.Proofs.Ytakjjillnllocaa.spec
/- What the functions of the program do: Fits. -/
namespace Go.Proofs.Ytakjjillnllocaa.spec
open Go Go.Ev Go.Proofs.Ytakjjillnllocaa.nestFits Go.Proofs.Ytakjjillnllocaa.G
set_option maxRecDepth 100000
variable {ρ : Type}
theorem sl37 : sliceElem P 37 = some 41 := by kernel_rfl
theorem sl41 : sliceElem P 41 = some 4 := by kernel_rfl
theorem sz41 : szT P 41 = some 1 := by kernel_rfl
theorem by41 : bytesT P 41 = some 24 := by kernel_rfl
theorem by4 : bytesT P 4 = some 1 := by kernel_rfl
theorem zero4 : zeroT P 4 = some (.bool false) := by kernel_rfl
theorem zero41 : zeroT P 41 = some (.slice none 0 0) := by kernel_rfl
theorem row41 (b : Bool) : rowOf P 41 1 [(0, .bool b)] = some ([.bool b], 4) := by kernel_rfl
theorem agg41 : isAggT P 41 = some false := by kernel_rfl
theorem und37 : P.underlying 37 = some (.slice 41) := by kernel_rfl
theorem und41 : P.underlying 41 = some (.slice 4) := by kernel_rfl
theorem at37 (b np : Nat) {i : Nat} (hi : i < np) : indexAddrV P 37 (.slice (some ⟨b, 0, none⟩) np np) (.int .i64 i) = some (.pointer (some ⟨b, 0 + i * 1, none⟩)) := by
  unfold indexAddrV
  simp only [und37, idx_lt hi, sz41]
  rfl
/-- Whether a kind fits on a pad, by the sums of its shares. -/
noncomputable def fitD (js ks : List Int) (nj np p kd : Nat) : Bool := decide (total (shP js ks nj np p kd) 0 ≤ ks.getD (kd * 5) 0 ∧ ks.getD (kd * 5) 0 ≤ total (shP js ks nj np p kd) 1)
def cntR (pd kd nk p : Nat) : Nat := if p < pd then nk else if p = pd then kd else 0
/-- The rows of Fits at work. -/
structure FS (H : Hp) (base n fb g : Nat) (r f : Nat → Value) (np nk pd kd : Nat) (bl : Nat → Nat → Bool) : Prop where
  fits : CellsF H fb np 41 r
  site : CellsF H g 859 117 f
  fbl : fb < base
  gl : g < base
  ne : g ≠ fb
  bn : base ≤ n
  rows : ∀ p, p < np → VecV H base n 1 4 (r p) (cntR pd kd nk p) ((List.range (cntR pd kd nk p)).map fun q => .bool (bl p q))
  dis : ∀ p q, p < np → q < np → p ≠ q → ∀ k, blockIs (r p) k → ¬ blockIs (r q) k
theorem FS.push {H H' : Hp} {base n m fb g np nk pd kd : Nat} {r f : Nat → Value} {bl : Nat → Nat → Bool} {new : Value} (h : FS H base n fb g r f np nk pd kd bl) (hpd : pd < np) (hm : n ≤ m) (hk : ∀ b, b < n → ¬ blockIs (r pd) b → H'.get b = H.get b)
    (hv : VecV H' base m 1 4 new (kd + 1) (((List.range kd).map fun q => .bool (bl pd q)) ++ [.bool (bl pd kd)])) (hf : ∀ k, blockIs new k → n ≤ k) :
    ∃ H'', storeN H' ⟨fb, 0 + pd * 1, none⟩ [new] = some H'' ∧ FS H'' base m fb g (putF r (0 + pd * 1) [new]) f np nk pd (kd + 1) bl ∧ ∀ b, b < base → b ≠ fb → H''.get b = H.get b := by
  have hfb := h.fbl
  have hgl := h.gl
  have hbn := h.bn
  have hne := h.ne
  have low : ∀ b, b < base → ¬ blockIs (r pd) b := fun b hb hblk => by have := ((h.rows pd hpd).low hblk).1; omega
  have cf : CellsF H' fb np 41 r := by
    obtain ⟨c, e1, e2, e3⟩ := h.fits
    exact ⟨c, by rw [hk fb (by omega) (low fb hfb)]; exact e1, e2, e3⟩
  obtain ⟨H'', s1, s2, s3⟩ := cf.storeN (o := 0 + pd * 1) (vs := [new]) (by simp; omega) (by simp [hv.leaf.1])
  refine ⟨H'', s1, ⟨s2, ?_, hfb, hgl, hne, by omega, fun p hp => ?_, fun p q hp hq hpq k => ?_⟩, fun b hb hbf => ?_⟩
  · obtain ⟨c, e1, e2, e3⟩ := h.site
    exact ⟨c, by rw [s3 g hne, hk g (by omega) (low g hgl)]; exact e1, e2, e3⟩
  · rw [putF_one]
    by_cases e : p = pd
    · subst e
      rw [if_pos (by omega)]
      have hc : cntR p (kd + 1) nk p = kd + 1 := by unfold cntR; rw [if_neg (by omega), if_pos rfl]
      rw [hc, List.range_succ, List.map_append]
      exact hv.same (Nat.le_refl _) fun b _ hb => s3 b (by have := (hv.low hb).1; omega)
    · rw [if_neg (by omega)]
      have hc : cntR pd (kd + 1) nk p = cntR pd kd nk p := by unfold cntR; rw [if_neg e, if_neg e]
      rw [hc]
      refine (h.rows p hp).same hm fun b hb hblk => ?_
      rw [s3 b (by have := ((h.rows p hp).low hblk).1; omega)]
      exact hk b hb (h.dis p pd hp hpd e b hblk)
  · rw [putF_one, putF_one]
    by_cases e1 : p = pd
    · subst e1
      rw [if_pos (by omega), if_neg (by omega)]
      intro h1 h2
      have := hf k h1
      have := ((h.rows q hq).low h2).2
      omega
    · rw [if_neg (by omega)]
      by_cases e2 : q = pd
      · subst e2
        rw [if_pos (by omega)]
        intro h1 h2
        have := hf k h2
        have := ((h.rows p hp).low h1).2
        omega
      · rw [if_neg (by omega)]
        exact h.dis p q hp hq hpq k
  · rw [s3 b hbf, hk b (by omega) (low b hb)]
theorem shP_len (js ks : List Int) (nj np p kd : Nat) : (shP js ks nj np p kd).length = 16 := sharesL_len ..
theorem shP_bounded {js ks : List Int} {nj np nk p kd : Nat} (hks : KindsOk ks nk) (hkd : kd < nk) (hnp : np ≤ 8) (hp : p < np) : Bounded (shP js ks nj np p kd) := by
  obtain ⟨_, h2, h3⟩ := hks kd hkd
  exact sharesL_bounded hnp (by omega) h2 h3
theorem nest_load {H : Hp} {g np nj p kd : Nat} {f : Nat → Value} {js ks : List Int} (hf : CellsF H g 859 117 f) (hn : NestAt f js ks nj np p kd) (hp : p < 8) (hkd : kd < 3) :
    ∃ B, BoundsTo (ks.getD (kd * 5) 0) (shP js ks nj np p kd) B 8 ∧ loadV P H 113 ⟨g, 0 + 67 + p * 99 + kd * 33, none⟩ = some (.agg ⟨ints (nestL (ks.getD (kd * 5) 0) (shP js ks nj np p kd) B)⟩) := by
  obtain ⟨B, hB, hj⟩ := hn
  refine ⟨B, hB, ?_⟩
  rw [hf.load_agg (k := 0 + 67 + p * 99 + kd * 33) agg113 sz113 (by omega)]
  have lens : (nestL (ks.getD (kd * 5) 0) (shP js ks nj np p kd) B).length = 33 := nest_cells (shP_len ..) hB.1
  have e : (List.range 33).map (fun j => f (0 + 67 + p * 99 + kd * 33 + j)) = ints (nestL (ks.getD (kd * 5) 0) (shP js ks nj np p kd) B) := by
    apply List.ext_getElem?
    intro j
    by_cases h : j < 33
    · rw [List.getElem?_map, List.getElem?_range h, ints_get (getD_some (by omega))]
      simp only [Option.map_some]
      rw [show 0 + 67 + p * 99 + kd * 33 + j = 67 + p * 99 + kd * 33 + j by omega, hj j h]
    · rw [List.getElem?_eq_none (by simp; omega), List.getElem?_eq_none (by rw [ints_length]; omega)]
  rw [e]
theorem fits_loop2 (l k m1 : Nat) (g fb np nj nk : Nat) (js ks : List Int) (f : Nat → Value) (base : Nat) (hnp : np ≤ 8) (hnk : nk ≤ 3) (hks : KindsOk ks nk) (hn : ∀ p kd, p < np → kd < nk → NestAt f js ks nj np p kd)
    (Q : Res → Prop) (H0 : Hp) (n0 : Nat) (h0 : n0 ≤ base) (hfb : n0 ≤ fb) (pd : Nat) (hpd : pd < np) (b1 : Value → Value → Value → Value → Hp → Nat → Res)
    (hb1 : ∀ (H : Hp) (n : Nat) (r : Nat → Value), Keep n0 H0 H → FS H base n fb g r f np nk pd nk (fitD js ks nj np) → Q (b1 (.pointer (some ⟨g, 0, none⟩)) (.slice (some ⟨fb, 0, none⟩) np np) (.int .i64 np) (.int .i64 ((pd + 1 : Nat) : Int)) H n)) :
    ∀ (m i : Nat) (H : Hp) (n : Nat) (r : Nat → Value), Keep n0 H0 H → FS H base n fb g r f np nk pd i (fitD js ks nj np) → i ≤ nk → nk - i ≤ m →
    Q (S19_2 (cal (l + 3)) k m1 b1 m (.pointer (some ⟨g, 0, none⟩)) (.slice (some ⟨fb, 0, none⟩) np np) (.int .i64 pd) (.int .i64 np) (.int .i64 pd) (.int .i64 nk) (.int .i64 i) H n) := by
  have body : ∀ (b2 : Value → Value → Value → Value → Value → Value → Value → Hp → Nat → Res) (m i : Nat) (H : Hp) (n : Nat) (r : Nat → Value), Keep n0 H0 H → FS H base n fb g r f np nk pd i (fitD js ks nj np) → i ≤ nk →
      (∀ (H : Hp) (n : Nat) (r : Nat → Value), Keep n0 H0 H → FS H base n fb g r f np nk pd (i + 1) (fitD js ks nj np) → i < nk →
        Q (b2 (.pointer (some ⟨g, 0, none⟩)) (.slice (some ⟨fb, 0, none⟩) np np) (.int .i64 pd) (.int .i64 np) (.int .i64 pd) (.int .i64 nk) (.int .i64 ((i + 1 : Nat) : Int)) H n)) →
      Q (C19_2 (cal (l + 3)) k m1 m b1 b2 (.pointer (some ⟨g, 0, none⟩)) (.slice (some ⟨fb, 0, none⟩) np np) (.int .i64 pd) (.int .i64 np) (.int .i64 pd) (.int .i64 nk) (.int .i64 i) H n) := by
    intro b2 m i H n r hk hs hi ih
    have hbn := hs.bn
    have hfbl := hs.fbl
    unfold C19_2 B19_2
    rw [binK_some bin_lss, ifK_d]
    by_cases hlt : i < nk
    · rw [if_pos (by omega)]
      have lr : loadV P H 41 ⟨fb, 0 + pd * 1, none⟩ = some (r (0 + pd * 1)) := hs.fits.load agg41 (by omega)
      rw [show r (0 + pd * 1) = r pd by rw [show 0 + pd * 1 = pd by omega]] at lr
      obtain ⟨B, hB, ln⟩ := nest_load hs.site (hn pd i hpd hlt) (by omega) (by omega)
      rw [at37 _ _ hpd, bindO_some, addrV_eq, bindO_some, lr, bindO_some, nil_ptr, bindO_some, fa117_2, bindO_some, at115 _ _ (by omega), bindO_some, at114 _ _ (by omega), bindO_some, addrV_eq, bindO_some, ln, bindO_some]
      obtain ⟨H2, s2, e2⟩ := effK_still (P := P) (ρ := Value × Hp × Nat) (ex := [.l 41 ⟨fb, 0 + pd * 1, none⟩]) (H := H) (n := n) (v := .bool (fitD js ks nj np pd i))
        (op := fun H n k => callFK P (cal (l + 3)) 62 [.agg ⟨ints (nestL (ks.getD (i * 5) 0) (shP js ks nj np pd i) B)⟩] H n fun v H n => k v H n)
        ⟨fun q hq => .inl (by simp only [List.mem_cons, List.not_mem_nil, or_false] at hq; subst hq; obtain ⟨c, e1, _⟩ := hs.fits; exact ⟨_, _, rfl, .inl ⟨_, _, _, _, e1⟩⟩), fun t a id c e h1 h2 => by simp at h2⟩
        (fun H k => fit_call l (shP_len ..) hB.1 (shP_bounded hks hlt hnp hpd) H _ _)
      rw [e2, row41, bindO_some]
      unfold newK
      have hrow : CellsAt (H2.set n (some (.cells [.bool (fitD js ks nj np pd i)] 4 false none))) n 0 [.bool (fitD js ks nj np pd i)] := CellsAt.new
      have hkn : ∀ b, b < n → (H2.set n (some (.cells [.bool (fitD js ks nj np pd i)] 4 false none))).get b = H.get b := fun b hb => by rw [Tr.get_set, if_neg (by omega), s2]
      generalize H2.set n (some (.cells [.bool (fitD js ks nj np pd i)] 4 false none)) = H3 at hrow hkn ⊢
      have hvec : VecV H3 base (n + 1) 1 4 (r pd) i ((List.range i).map fun q => .bool (fitD js ks nj np pd q)) := by
        have := hs.rows pd hpd
        have hc : cntR pd i nk pd = i := by unfold cntR; rw [if_neg (by omega), if_pos rfl]
        rw [hc] at this
        exact this.same (by omega) fun b hb _ => hkn b hb
      obtain ⟨H4, ea, ev, eo⟩ := append_vecV (P := P) (t := 41) (t2 := 41) (cap2 := 1) hvec sl41 sl41 sz4 by4 zero4 rfl hrow rfl rfl rfl (by omega) (by omega) (by omega) (by omega)
      simp only [stK, ea]
      obtain ⟨H5, es, eg, ek⟩ := hs.push (m := n + 1 + 1) hpd (by omega) (fun b hb hblk => (eo b (by omega) hblk).trans (hkn b hb)) ev (fun q hb => by rw [slice_new hb]; omega)
      have hI : I64 ((i : Int) + 1) := by unfold I64; omega
      have hcast : ((i : Int) + 1) = ((i + 1 : Nat) : Int) := by omega
      simp only [bindO_some, bare]
      rw [storeP_leaf sz41 rfl, es, bindO_some, binK_some (bin_add hI), hcast]
      refine ih H5 (n + 1 + 1) _ (fun b hb => ?_) eg hlt
      rw [ek b (by omega) (by omega)]; exact hk b hb
    · rw [if_neg (by omega)]
      have hi' : i = nk := by omega
      subst hi'
      have hI : I64 ((pd : Int) + 1) := by unfold I64; omega
      have hcast : ((pd : Int) + 1) = ((pd + 1 : Nat) : Int) := by omega
      rw [binK_some (bin_add hI), hcast]
      exact hb1 H n r hk hs
  intro m
  induction m with
  | zero =>
    intro i H n r h1 h2 h3 h4
    exact body _ 0 i H n r h1 h2 h3 (fun _ _ _ _ _ h => by omega)
  | succ m ih =>
    intro i H n r h1 h2 h3 h4
    exact body _ (m + 1) i H n r h1 h2 h3 (fun H n r q1 q2 q3 => ih (i + 1) H n r q1 q2 (by omega) (by omega))
theorem FS.next {H : Hp} {base n fb g np nk pd : Nat} {r f : Nat → Value} {bl : Nat → Nat → Bool} (h : FS H base n fb g r f np nk pd nk bl) : FS H base n fb g r f np nk (pd + 1) 0 bl := by
  refine ⟨h.fits, h.site, h.fbl, h.gl, h.ne, h.bn, fun p hp => ?_, h.dis⟩
  have := h.rows p hp
  have hc : cntR (pd + 1) 0 nk p = cntR pd nk nk p := by
    unfold cntR
    by_cases h1 : p < pd
    · rw [if_pos h1, if_pos (by omega)]
    · by_cases h2 : p = pd
      · rw [if_neg h1, if_pos h2, if_pos (by omega)]
      · rw [if_neg h1, if_neg h2, if_neg (by omega)]; split <;> rfl
  rw [hc]; exact this
theorem fits_loop1 (l k : Nat) (g fb np nj nk : Nat) (js ks : List Int) (f : Nat → Value) (base : Nat) {x y z : Value} (hnp : np ≤ 8) (hnk : nk ≤ 3) (hks : KindsOk ks nk) (hsf : SiteF f x y z js nj) (hlz : lenV P 33 z = some (.int .i64 nk)) (hn : ∀ p kd, p < np → kd < nk → NestAt f js ks nj np p kd)
    (Q : Res → Prop) (H0 : Hp) (n0 : Nat) (h0 : n0 ≤ base) (hfb : n0 ≤ fb)
    (hq : ∀ (H : Hp) (n : Nat) (r : Nat → Value), Keep n0 H0 H → FS H base n fb g r f np nk np 0 (fitD js ks nj np) → Q (some (.tuple ⟨[.slice (some ⟨fb, 0, none⟩) np np, .int .i64 0]⟩, H, n))) :
    ∀ (m i : Nat) (H : Hp) (n : Nat) (r : Nat → Value), Keep n0 H0 H → FS H base n fb g r f np nk i 0 (fitD js ks nj np) → i ≤ np → np - i + 3 ≤ m →
    Q (S19_1 (cal (l + 3)) k m (.pointer (some ⟨g, 0, none⟩)) (.slice (some ⟨fb, 0, none⟩) np np) (.int .i64 np) (.int .i64 i) H n) := by
  have body : ∀ (b1 : Value → Value → Value → Value → Hp → Nat → Res) (m i : Nat) (H : Hp) (n : Nat) (r : Nat → Value), Keep n0 H0 H → FS H base n fb g r f np nk i 0 (fitD js ks nj np) → i ≤ np → 3 ≤ m →
      (∀ (H : Hp) (n : Nat) (r : Nat → Value), Keep n0 H0 H → FS H base n fb g r f np nk (i + 1) 0 (fitD js ks nj np) → i < np → Q (b1 (.pointer (some ⟨g, 0, none⟩)) (.slice (some ⟨fb, 0, none⟩) np np) (.int .i64 np) (.int .i64 ((i + 1 : Nat) : Int)) H n)) →
      Q (C19_1 (cal (l + 3)) k m b1 (.pointer (some ⟨g, 0, none⟩)) (.slice (some ⟨fb, 0, none⟩) np np) (.int .i64 np) (.int .i64 i) H n) := by
    intro b1 m i H n r hk hs hi hm ih
    unfold C19_1 B19_1
    generalize hS : S19_2 (cal (l + 3)) k m b1 m = S
    rw [binK_some bin_lss, ifK_d]
    by_cases hlt : i < np
    · rw [if_pos (by omega)]
      have lz : loadV P H 33 ⟨g, 0 + 0 + 2, none⟩ = some z := by
        have := hs.site.load (P := P) (k := 2) agg33 (by omega)
        rw [hsf.z] at this; exact this
      rw [nil_ptr, bindO_some, fa117_0, bindO_some, fa35_2, bindO_some, addrV_eq, bindO_some, lz, bindO_some, hlz, bindO_some, ← hS]
      exact fits_loop2 l k m g fb np nj nk js ks f base hnp hnk hks hn Q H0 n0 h0 hfb i hlt b1 (fun H n r q1 q2 => ih H n r q1 q2.next hlt) m 0 H n r hk hs (by omega) (by omega)
    · rw [if_neg (by omega)]
      have hi' : i = np := by omega
      subst hi'
      exact hq H n r hk hs
  intro m
  induction m with
  | zero => intro i H n r h1 h2 h3 h4; omega
  | succ m ih =>
    intro i H n r h1 h2 h3 h4
    exact body _ (m + 1) i H n r h1 h2 h3 (by omega) (fun H n r q1 q2 q3 => ih (i + 1) H n r q1 q2 (by omega) (by omega))
end Go.Proofs.Ytakjjillnllocaa.spec
/- What the functions of the program do: Fits, the whole; and that it says what the reference says. -/
namespace Go.Proofs.Ytakjjillnllocaa.spec
open Go Go.Ev Go.Proofs.Ytakjjillnllocaa.nestFits Go.Proofs.Ytakjjillnllocaa.G
set_option maxRecDepth 100000
variable {ρ : Type}
theorem repl_one (z : Value) : ∀ n : Nat, repl n [z] = List.replicate n z
  | 0 => rfl
  | n + 1 => by
    unfold repl
    rw [repl_one z n, List.replicate_succ]
    rfl
theorem make37 (H : Hp) (n : Nat) {np : Nat} (h : np ≤ 1000) : makeSliceP P 37 (.int .i64 np) (.int .i64 np) (bare H n) = some (.slice (some ⟨n, 0, none⟩) np np, bare (H.set n (some (.cells (List.replicate np (.slice none 0 0)) 41 false none))) (n + 1)) := by
  show makeSliceP P 37 (.int .i64 (.ofNat np)) (.int .i64 (.ofNat np)) (bare H n) = _
  unfold makeSliceP
  have hb : bigOk np 1 24 = true := by unfold bigOk; simp; omega
  simp only [sl37, sz41, by41, zero41]
  rw [if_pos ⟨Nat.le_refl _, hb, rfl⟩]
  have : repl np (cellsV (.slice none 0 0)) = List.replicate np (.slice none 0 0) := repl_one _ _
  rw [this]
  rfl
/-- What Fits returns for a valid grove. -/
def FitsOut (r : Res) (n : Nat) (H : Hp) (np nj nk : Nat) (js ks : List Int) : Prop := ∃ (fb : Nat) (rw_ : Nat → Value) (base : Nat) (H' : Hp) (n' : Nat), r = some (.tuple ⟨[.slice (some ⟨fb, 0, none⟩) np np, .int .i64 0]⟩, H', n') ∧ n ≤ n' ∧ Keep n H H' ∧ n ≤ fb ∧ fb < n' ∧ n ≤ base ∧
  CellsF H' fb np 41 rw_ ∧ ∀ p, p < np → VecV H' base n' 1 4 (rw_ p) nk ((List.range nk).map fun q => .bool (fitD js ks nj np p q))
theorem fitsP_spec (l : Nat) {np nj nk : Nat} {ps js ks : List Int} {H : Hp} {n : Nat} {v : Value} (hg : GroveP H n v np nj nk ps js ks) (hnp : np ≤ 1000) (hnj : nj ≤ 1000) (hnk : nk ≤ 1000) :
    (faultN np nj nk ps js ks ≠ 0 → Ret (C19_0 (cal (l + 6)) KK v H n) n H (.tuple ⟨[.slice none 0 0, .int .i64 (faultN np nj nk ps js ks)]⟩)) ∧
    (faultN np nj nk ps js ks = 0 → FitsOut (C19_0 (cal (l + 6)) KK v H n) n H np nj nk js ks) := by
  have hg0 := hg
  obtain ⟨x, y, z, rfl, h1, h2, h3⟩ := hg
  unfold C19_0 B19_0
  generalize hS : S19_1 (cal (l + 6)) KK KK = S
  rw [boxK_eq]
  simp only [cellsV, ptr]
  have hk : Keep n H (H.set n (some (.cells [x, y, z] 35 false none))) := (Keep.refl n H).set (Nat.le_refl _) _
  have hb : CellsAt (H.set n (some (.cells [x, y, z] 35 false none))) n 0 [x, y, z] := CellsAt.new
  generalize H.set n (some (.cells [x, y, z] 35 false none)) = H1 at hk hb ⊢
  have lg : loadV P H1 35 ⟨n, 0, none⟩ = some (.agg ⟨[x, y, z]⟩) := loadV_agg (o := 0) (k := 0) hb agg35 sz35 (by simp) (by simp [h1.hole.1, h2.hole.1, h3.hole.1])
  obtain ⟨o1, o2⟩ := open_spec l (hg0.keep hk (show n ≤ n + 1 by omega)) hnp hnj hnk
  rw [addrV_eq, bindO_some, lg, bindO_some, open_call]
  constructor
  · intro hne
    obtain ⟨H2, n2, e1, e2, e3⟩ := o1 hne
    rw [e1, bindO_some]
    have t0 : tupV (.tuple ⟨[.pointer none, .int .i64 (faultN np nj nk ps js ks)]⟩) 0 = some (.pointer none) := rfl
    have t1 : tupV (.tuple ⟨[.pointer none, .int .i64 (faultN np nj nk ps js ks)]⟩) 1 = some (.int .i64 (faultN np nj nk ps js ks)) := rfl
    rw [t0, bindO_some, t1, bindO_some, binK_some bin_neq, decide_eq_false hne, Bool.not_false, ifK_t]
    exact ⟨H2, n2, rfl, by omega, hk.trans e3 (by omega)⟩
  · intro he
    have good := good_of he
    obtain ⟨g, x', y', z', f, H2, n2, e1, e2, e3, e4, e5, e6, e7, e8, e9⟩ := o2 he
    simp only [Value.agg.injEq, Array.mk.injEq, List.cons.injEq, and_true] at e6
    obtain ⟨rfl, rfl, rfl⟩ := e6
    rw [e1, bindO_some]
    have t0 : tupV (.tuple ⟨[.pointer (some ⟨g, 0, none⟩), .int .i64 0]⟩) 0 = some (.pointer (some ⟨g, 0, none⟩)) := rfl
    have t1 : tupV (.tuple ⟨[.pointer (some ⟨g, 0, none⟩), .int .i64 0]⟩) 1 = some (.int .i64 0) := rfl
    have d0 : decide ((0 : Int) = 0) = true := rfl
    have lx : ∀ H3 : Hp, CellsF H3 g 859 117 f → loadV P H3 31 ⟨g, 0 + 0 + 0, none⟩ = some x := fun H3 h => by
      have := h.load (P := P) (k := 0) agg31 (by omega)
      rw [e8.x] at this; exact this
    have hlx : lenV P 31 x = some (.int .i64 np) := h1.len_eq und31
    have hlz : lenV P 33 z = some (.int .i64 nk) := h3.len_eq und33
    rw [t0, bindO_some, t1, bindO_some, binK_some bin_neq, d0, Bool.not_true, ifK_f, nil_ptr, bindO_some, fa117_0, bindO_some, fa35_0, bindO_some, addrV_eq, bindO_some, lx H2 e7, bindO_some, hlx, bindO_some]
    unfold stK
    rw [make37 H2 n2 hnp, bindO_some]
    simp only [bare]
    have kk : Keep n H H2 := hk.trans e3 (by omega)
    have f2 : CellsF (H2.set n2 (some (.cells (List.replicate np (.slice none 0 0)) 41 false none))) g 859 117 f := e7.other (by omega)
    have f3 : CellsF (H2.set n2 (some (.cells (List.replicate np (.slice none 0 0)) 41 false none))) n2 np 41 (fun _ => .slice none 0 0) := CellsF.new (by simp) _ (fun k hk => by rw [List.getElem?_replicate, if_pos hk])
    have kk2 : Keep n H (H2.set n2 (some (.cells (List.replicate np (.slice none 0 0)) 41 false none))) := kk.set (by omega) _
    generalize H2.set n2 (some (.cells (List.replicate np (.slice none 0 0)) 41 false none)) = H3 at f2 f3 kk2 ⊢
    rw [bindO_some, fa117_0, bindO_some, fa35_0, bindO_some, addrV_eq, bindO_some, lx H3 f2, bindO_some, hlx, bindO_some, ← hS]
    refine fits_loop1 (l + 3) KK g n2 np nj nk js ks f (n2 + 1) good.np8 good.nk3 good.kinds e8 hlz e9 (fun r => FitsOut r n H np nj nk js ks) H n (by omega) (by omega)
      (fun H4 n4 r q1 q2 => ⟨n2, r, n2 + 1, H4, n4, rfl, by have := q2.bn; omega, q1, by omega, by have := q2.bn; omega, by omega, q2.fits, fun p hp => by
        have := q2.rows p hp
        have hc : cntR np 0 nk p = nk := by unfold cntR; rw [if_pos hp]
        rw [hc] at this; exact this⟩) KK 0 H3 (n2 + 1) (fun _ => .slice none 0 0) kk2 ⟨f3, f2, by omega, by omega, by omega, by omega, fun p hp => ?_, fun p q _ _ _ k hb => absurd hb (nil_off (v := x))⟩ (by omega) (by have := good.np8; unfold KK; omega)
    have hc : cntR 0 0 nk p = 0 := by unfold cntR; rw [if_neg (by omega)]; split <;> rfl
    rw [hc]
    exact ⟨rfl, rfl, rfl, .inl ⟨rfl, rfl⟩⟩
theorem flat19 : flatF P 19 = false := by kernel_rfl
theorem call19 (l : Nat) (a : Value) (H : Hp) (n : Nat) : (cal (l + 1)).call 19 [a] H n = C19_0 (cal l) KK a H n := by kernel_rfl
theorem fitsP_call (l : Nat) (v : Value) (H : Hp) (n : Nat) (k : Value → Hp → Nat → Option ρ) : callFK P (cal (l + 7)) 19 [v] H n k = bindO (C19_0 (cal (l + 6)) KK v H n) fun r => k r.1 r.2.1 r.2.2 := by
  unfold callFK
  rw [flat19, call19]
  rfl
/-! the reference -/
theorem Good.small {np nj nk : Nat} {ps js ks : List Int} (h : Good np nj nk ps js ks) : Small ks nk := by
  intro kd hkd
  obtain ⟨h1, h2, h3⟩ := h.kinds kd hkd
  unfold okR at h2 h3
  omega
theorem Good.inner {np nj nk : Nat} {ps js ks : List Int} (h : Good np nj nk ps js ks) (hl : js.length = nj * 2) : Inner js nj np := by
  intro j hj a b hJ
  obtain ⟨A, B, hA, hB, h1, h2⟩ := h.joins hl j hj
  unfold J at hJ
  rw [hA, hB] at hJ
  simp only [Option.some.injEq] at hJ
  omega
open Classical in
theorem share_reach {js ks : List Int} {nj np p kd : Nat} (hi : Inner js nj np) (hnp : np ≤ 8) (hp : p < np) (q : Nat) :
    (shP js ks nj np p kd).getD (q * 2) 0 = (reach js ks nj kd p q).1 ∧ (shP js ks nj np p kd).getD (q * 2 + 1) 0 = (reach js ks nj kd p q).2 := by
  obtain ⟨g1, g2⟩ := sharesL_get (a1 := ks.getD (kd * 5 + 1) 0) (a2 := ks.getD (kd * 5 + 2) 0) (a3 := ks.getD (kd * 5 + 3) 0) (a4 := ks.getD (kd * 5 + 4) 0) (near := nearB js nj p) hnp (show p < 8 by omega) q
  unfold shP
  rw [g1, g2]
  unfold reach
  by_cases e : q = p
  · subst e
    rw [if_pos rfl, if_pos rfl, if_pos rfl]
    exact ⟨rfl, rfl⟩
  · rw [if_neg e, if_neg e, if_neg (show ¬ (p : Int) = (q : Int) by omega)]
    by_cases hn : Near js nj p q
    · have hb : nearB js nj p q = true := by unfold nearB; rw [decide_eq_true_eq]; exact hn
      have hq : q < np := by obtain ⟨j, h1, h2⟩ := hn; have := hi j h1 _ _ h2; omega
      have hc : q < np ∧ nearB js nj p q = true := ⟨hq, hb⟩
      rw [if_pos hc, if_pos hc, if_pos hn]
      exact ⟨rfl, rfl⟩
    · have hb : ¬ (q < np ∧ nearB js nj p q = true) := fun ⟨_, h⟩ => hn (by unfold nearB at h; rw [decide_eq_true_eq] at h; exact h)
      rw [if_neg hb, if_neg hb, if_neg hn]
      exact ⟨rfl, rfl⟩
theorem fitsB_iff8 {js ks : List Int} {nj np nk kind a : Nat} (hs : Small ks nk) (hk : kind < nk) (ha : a < np) (hi : Inner js nj np) (hnp : np ≤ 8) :
    fitsB js ks nj np kind a ↔ sumTo (fun p => (reach js ks nj kind a p).1) 8 ≤ ks.getD (kind * 5) 0 ∧ ks.getD (kind * 5) 0 ≤ sumTo (fun p => (reach js ks nj kind a p).2) 8 := by
  rw [fitsB_iff hs hk ha hi (by omega)]
  have e1 : sumTo (fun p => (reach js ks nj kind a p).1) 11 = sumTo (fun p => (reach js ks nj kind a p).1) 8 := sumTo_zero (by omega) fun k h1 _ => by rw [reach_far hi ha (by omega)]
  have e2 : sumTo (fun p => (reach js ks nj kind a p).2) 11 = sumTo (fun p => (reach js ks nj kind a p).2) 8 := sumTo_zero (by omega) fun k h1 _ => by rw [reach_far hi ha (by omega)]
  rw [e1, e2]
/-- Program and reference agree on which kinds fit. -/
theorem fits_agree {np nj nk p kd : Nat} {ps js ks : List Int} (good : Good np nj nk ps js ks) (hl : js.length = nj * 2) (hp : p < np) (hkd : kd < nk) : fitD js ks nj np p kd = true ↔ fitsB js ks nj np kd p := by
  rw [fitsB_iff8 good.small hkd hp (good.inner hl) good.np8]
  unfold fitD total
  rw [decide_eq_true_eq, sumTo_same (f := fun q => (shP js ks nj np p kd).getD (q * 2 + 0) 0) (g := fun q => (reach js ks nj kd p q).1) (fun q _ => (share_reach (good.inner hl) good.np8 hp q).1),
    sumTo_same (f := fun q => (shP js ks nj np p kd).getD (q * 2 + 1) 0) (g := fun q => (reach js ks nj kd p q).2) (fun q _ => (share_reach (good.inner hl) good.np8 hp q).2)]
theorem call21 (l : Nat) (a b c : Value) (H : Hp) (n : Nat) : (cal (l + 1)).call 21 [a, b, c] H n = C21_0 (cal l) KK a b c H n := by kernel_rfl
theorem fitsR_call (l : Nat) {np nj nk : Nat} {ps js ks : List Int} (hnj : nj ≤ KK) (hnp : np ≤ 100) (kind : Nat) (hk : kind < nk) (at_ : Int) (hs : Small ks nk) {H : Hp} {n : Nat} {v : Value} (hg : GroveI H n v np nj nk ps js ks) :
    ∃ (r : Bool) (H' : Hp) (n' : Nat), (r = true ↔ fitsB js ks nj np kind at_) ∧ (∀ k : Value → Hp → Nat → Option ρ, callFK P (cal (l + 4)) 21 [v, .int .i64 kind, .int .i64 at_] H n k = k (.bool r) H' n') ∧ n ≤ n' ∧ Keep n H H' := by
  obtain ⟨r, H', n', ⟨b, rfl, hb⟩, e1, e2, e3⟩ := callFK_spec (ρ := ρ) (P := P) (cal := cal (l + 4)) (f := 21) (args := [v, .int .i64 kind, .int .i64 at_]) (H := H) (n := n)
    (Pre := fun H n => GroveI H n v np nj nk ps js ks) (Q := fun r => ∃ b : Bool, r = .bool b ∧ (b = true ↔ fitsB js ks nj np kind at_))
    (fun H n h => by
      obtain ⟨r, h1, h2⟩ := fits_spec l hnj hnp kind hk at_ hs h
      exact ⟨.bool r, by rw [call21]; exact h1, r, rfl, h2⟩) (fun r ⟨b, e, _⟩ _ => by subst e; rfl) hg (fun hp => hg.nil (by simp only [pureL, Bool.and_eq_true] at hp; exact hp.1))
  exact ⟨b, H', n', hb, e1, e2, e3⟩
end Go.Proofs.Ytakjjillnllocaa.spec
