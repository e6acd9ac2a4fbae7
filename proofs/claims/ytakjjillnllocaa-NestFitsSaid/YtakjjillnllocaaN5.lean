/-
  The law NestFits returns true, for each grove that can be handed in (any lists of pads, joins and kinds, of any numbers): read as rows of numbers, walked by the texts of all functions that it reaches (G1 to G7), each text specified (N1 to N5).
  No condition beyond those of the statement.
-/
import Derived.Test.YtakjjillnllocaaN4
namespace Go.Proofs.Ytakjjillnllocaa.spec
open Go Go.Ev Go.Proofs.Ytakjjillnllocaa.nestFits Go.Proofs.Ytakjjillnllocaa.G
set_option maxRecDepth 100000
variable {ρ : Type}
theorem neqB (p q : Operand) (a b : Bool) : binV P .neq 4 p q (.bool a) (.bool b) = some (.bool (!decide (a = b))) := by
  cases a <;> cases b <;> kernel_rfl
theorem at41 (b k c : Nat) {i : Nat} (hi : i < k) : indexAddrV P 41 (.slice (some ⟨b, 0, none⟩) k c) (.int .i64 i) = some (.pointer (some ⟨b, 0 + i * 1, none⟩)) := by
  unfold indexAddrV
  simp only [und41, idx_lt hi, sz4]
  rfl
theorem _root_.Go.Proofs.Ytakjjillnllocaa.nestFits.GroveI.js_len {H : Hp} {n : Nat} {v : Value} {np nj nk : Nat} {ps js ks : List Int} (hg : GroveI H n v np nj nk ps js ks) : js.length = nj * 2 := by
  obtain ⟨_, _, _, _, _, h, _⟩ := hg.eq
  exact h.1
/-- What the comparison reads: the grove in its box, and the rows of Fits. -/
structure LawS (H : Hp) (n0 n b0 fb base : Nat) (v x y z : Value) (rw_ : Nat → Value) (np nj nk : Nat) (ps js ks : List Int) : Prop where
  grove : GroveI H n0 v np nj nk ps js ks
  eq : v = .agg ⟨[x, y, z]⟩
  box : CellsAt H b0 0 [x, y, z]
  b0n : n0 ≤ b0
  b0l : b0 < n
  fbl : n0 ≤ fb
  fbn : fb < n
  bl : n0 ≤ base
  fits : CellsF H fb np 41 rw_
  rows : ∀ p, p < np → VecV H base n 1 4 (rw_ p) nk ((List.range nk).map fun q => .bool (fitD js ks nj np p q))
theorem LawS.keep {H H' : Hp} {n0 n m b0 fb base : Nat} {v x y z : Value} {rw_ : Nat → Value} {np nj nk : Nat} {ps js ks : List Int} (h : LawS H n0 n b0 fb base v x y z rw_ np nj nk ps js ks) (hk : ∀ b, b < n → H'.get b = H.get b) (hm : n ≤ m) : LawS H' n0 m b0 fb base v x y z rw_ np nj nk ps js ks := by
  obtain ⟨h1, h2, h3, h4, h5, h6, h7, h8, h9, h10⟩ := h
  exact ⟨h1.keep (fun b hb => hk b (by omega)) (Nat.le_refl _), h2, h3.keep hk h5, h4, by omega, h6, by omega, h8, h9.keep hk h7, fun p hp => (h10 p hp).same hm fun b hb _ => hk b hb⟩
theorem law_loop2 (k m1 : Nat) (n0 b0 fb base np nj nk : Nat) (ps js ks : List Int) (v x y z : Value) (rw_ : Nat → Value) (good : Good np nj nk ps js ks) (hl : js.length = nj * 2) (hnp : np ≤ 100) (hnj : nj ≤ 100) (pd : Nat) (hpd : pd < np)
    (b1 : Value → Value → Value → Hp → Nat → Res) (hb1 : ∀ (H : Hp) (n : Nat), LawS H n0 n b0 fb base v x y z rw_ np nj nk ps js ks → ∃ H' n', b1 (.pointer (some ⟨b0, 0, none⟩)) (.slice (some ⟨fb, 0, none⟩) np np) (.int .i64 ((pd + 1 : Nat) : Int)) H n = some (.bool true, H', n')) :
    ∀ (m i : Nat) (H : Hp) (n : Nat), LawS H n0 n b0 fb base v x y z rw_ np nj nk ps js ks → i ≤ nk → nk - i ≤ m →
    ∃ H' n', S3_2 (cal 60) k m1 b1 m (.pointer (some ⟨b0, 0, none⟩)) (.slice (some ⟨fb, 0, none⟩) np np) (.int .i64 pd) (.int .i64 i) H n = some (.bool true, H', n') := by
  have body : ∀ (b2 : Value → Value → Value → Value → Hp → Nat → Res) (m i : Nat) (H : Hp) (n : Nat), LawS H n0 n b0 fb base v x y z rw_ np nj nk ps js ks → i ≤ nk →
      (∀ (H : Hp) (n : Nat), LawS H n0 n b0 fb base v x y z rw_ np nj nk ps js ks → i < nk → ∃ H' n', b2 (.pointer (some ⟨b0, 0, none⟩)) (.slice (some ⟨fb, 0, none⟩) np np) (.int .i64 pd) (.int .i64 ((i + 1 : Nat) : Int)) H n = some (.bool true, H', n')) →
      ∃ H' n', C3_2 (cal 60) k m1 m b1 b2 (.pointer (some ⟨b0, 0, none⟩)) (.slice (some ⟨fb, 0, none⟩) np np) (.int .i64 pd) (.int .i64 i) H n = some (.bool true, H', n') := by
    intro b2 m i H n hs hi ih
    have lr : loadV P H 41 ⟨fb, 0 + pd * 1, none⟩ = some (rw_ pd) := by
      have := hs.fits.load (P := P) (k := pd) agg41 hpd
      rw [show 0 + pd * 1 = pd by omega]; exact this
    have hrow := hs.rows pd hpd
    have hlr : lenV P 41 (rw_ pd) = some (.int .i64 nk) := hrow.len_eq und41
    unfold C3_2 B3_2
    rw [at37 _ _ hpd, bindO_some, addrV_eq, bindO_some, lr, bindO_some, hlr, bindO_some, binK_some bin_lss, ifK_d]
    by_cases hlt : i < nk
    · rw [if_pos (by omega)]
      obtain ⟨_, _, _, hsl⟩ := hrow
      rcases hsl with ⟨_, h0⟩ | ⟨rb, hrb, hrb1, hrb2, _, hrb4⟩
      · omega
      have hval : ((List.range nk).map fun q => (Value.bool (fitD js ks nj np pd q)))[i]? = some (.bool (fitD js ks nj np pd i)) := by
        rw [List.getElem?_map, List.getElem?_range hlt]; rfl
      have lb : loadV P H 4 ⟨rb, 0 + i * 1, none⟩ = some (.bool (fitD js ks nj np pd i)) := loadV_scalar (cells_at hrb4) agg4 (by rw [Nat.mul_one]; exact hval) rfl rfl
      have hgr := hs.grove
      obtain ⟨x', y', z', hxyz, g1, g2, g3⟩ := hgr.eq
      rw [hs.eq] at hxyz
      cases hxyz
      have lv : loadV P H 26 ⟨b0, 0, none⟩ = some v := by rw [hs.eq]; exact load26 hs.box g1.hole.1 g2.hole.1 g3.hole.1
      have e41 : indexAddrV P 41 (rw_ pd) (.int .i64 i) = some (.pointer (some ⟨rb, 0 + i * 1, none⟩)) := by rw [hrb]; exact at41 _ _ _ hlt
      have hfbn := hs.fbn
      have hfbl := hs.fbl
      have hbl := hs.bl
      have hb0 := hs.b0n
      have hb0l := hs.b0l
      have hld : ∀ b, ldOf [.l 4 ⟨rb, 0 + i * 1, none⟩, .l 41 ⟨fb, 0 + pd * 1, none⟩] b → b = rb ∨ b = fb := fun b => by
        rintro ⟨t, a, h1, h2⟩
        simp only [List.mem_cons, List.not_mem_nil, or_false, Extra.l.injEq] at h1
        rcases h1 with ⟨_, rfl⟩ | ⟨_, rfl⟩
        · exact .inl h2.symm
        · exact .inr h2.symm
      obtain ⟨H2, H2', n2, e2, ⟨r1, r2⟩, r4, r5⟩ := effK_gen (P := P) (ρ := Value × Hp × Nat) (ex := [.l 4 ⟨rb, 0 + i * 1, none⟩, .l 41 ⟨fb, 0 + pd * 1, none⟩]) (H := H) (n := n) (v := .bool (fitD js ks nj np pd i))
        (op := fun H n k => callFK P (cal 60) 21 [v, .int .i64 i, .int .i64 pd] H n fun v H n => k v H n)
        (R := fun H' n' => n ≤ n' ∧ ∀ b, b < n → ¬ ldOf [.l 4 ⟨rb, 0 + i * 1, none⟩, .l 41 ⟨fb, 0 + pd * 1, none⟩] b → H'.get b = H.get b)
        (fun q hq => by
          simp only [List.mem_cons, List.not_mem_nil, or_false] at hq
          rcases hq with rfl | rfl
          · exact ⟨_, _, rfl, .inl ⟨_, _, _, _, hrb4⟩⟩
          · obtain ⟨c, e1, _⟩ := hs.fits; exact ⟨_, _, rfl, .inl ⟨_, _, _, _, e1⟩⟩)
        (fun Hm hm => by
          have hgm : GroveI Hm n v np nj nk ps js ks := hs.grove.keep (fun b hb => hm b (fun h => by rcases hld b h with z | z <;> omega)) (by omega)
          obtain ⟨r, H', n', c1, c2, c3, c4⟩ := fitsR_call (ρ := Value × Hp × Nat) 56 (show nj ≤ KK by unfold KK; omega) hnp i hlt pd good.small hgm
          have hr : r = fitD js ks nj np pd i := by
            have := fits_agree good hl hpd hlt
            cases r <;> cases hf : fitD js ks nj np pd i <;> simp_all
          refine ⟨H', n', fun k => by rw [← hr]; exact c2 _, fun b hb => c4 b (by rcases hld b hb with z | z <;> omega), c3, fun b hb hn => by rw [c4 b hb, hm b hn]⟩)
      have hI : I64 ((i : Int) + 1) := by unfold I64; have := good.nk3; omega
      have hcast : ((i : Int) + 1) = ((i + 1 : Nat) : Int) := by omega
      have dd : decide (fitD js ks nj np pd i = fitD js ks nj np pd i) = true := decide_eq_true rfl
      rw [bindO_some, addrV_eq, bindO_some, lr, bindO_some, e41, bindO_some, addrV_eq, bindO_some, lb, bindO_some, addrV_eq, bindO_some, lv, bindO_some, e2, binK_some (neqB ..), dd, Bool.not_true, ifK_f, binK_some (bin_add hI), hcast]
      refine ih H2 n2 (hs.keep (fun b hb => ?_) r1) hlt
      by_cases q : ldOf [.l 4 ⟨rb, 0 + i * 1, none⟩, .l 41 ⟨fb, 0 + pd * 1, none⟩] b
      · exact r4 b q
      · rw [r5 b q, r2 b hb q]
    · rw [if_neg (by omega)]
      have hI : I64 ((pd : Int) + 1) := by unfold I64; omega
      have hcast : ((pd : Int) + 1) = ((pd + 1 : Nat) : Int) := by omega
      rw [binK_some (bin_add hI), hcast]
      exact hb1 H n hs
  intro m
  induction m with
  | zero =>
    intro i H n h1 h2 h3
    exact body _ 0 i H n h1 h2 (fun _ _ _ h => by omega)
  | succ m ih =>
    intro i H n h1 h2 h3
    exact body _ (m + 1) i H n h1 h2 (fun H n q1 q2 => ih (i + 1) H n q1 (by omega) (by omega))
theorem law_loop1 (k : Nat) (n0 b0 fb base np nj nk : Nat) (ps js ks : List Int) (v x y z : Value) (rw_ : Nat → Value) (good : Good np nj nk ps js ks) (hl : js.length = nj * 2) (hnp : np ≤ 100) (hnj : nj ≤ 100) :
    ∀ (m i : Nat) (H : Hp) (n : Nat), LawS H n0 n b0 fb base v x y z rw_ np nj nk ps js ks → i ≤ np → np - i + 3 ≤ m →
    ∃ H' n', S3_1 (cal 60) k m (.pointer (some ⟨b0, 0, none⟩)) (.slice (some ⟨fb, 0, none⟩) np np) (.int .i64 i) H n = some (.bool true, H', n') := by
  have body : ∀ (b1 : Value → Value → Value → Hp → Nat → Res) (m i : Nat) (H : Hp) (n : Nat), LawS H n0 n b0 fb base v x y z rw_ np nj nk ps js ks → i ≤ np → 3 ≤ m →
      (∀ (H : Hp) (n : Nat), LawS H n0 n b0 fb base v x y z rw_ np nj nk ps js ks → i < np → ∃ H' n', b1 (.pointer (some ⟨b0, 0, none⟩)) (.slice (some ⟨fb, 0, none⟩) np np) (.int .i64 ((i + 1 : Nat) : Int)) H n = some (.bool true, H', n')) →
      ∃ H' n', C3_1 (cal 60) k m b1 (.pointer (some ⟨b0, 0, none⟩)) (.slice (some ⟨fb, 0, none⟩) np np) (.int .i64 i) H n = some (.bool true, H', n') := by
    intro b1 m i H n hs hi hm ih
    unfold C3_1 B3_1
    generalize hS : S3_2 (cal 60) k m b1 m = S
    have hlen : lenV P 37 (.slice (some ⟨fb, 0, none⟩) np np) = some (.int .i64 np) := by unfold lenV; simp only [und37]; rfl
    rw [hlen, bindO_some, binK_some bin_lss, ifK_d]
    by_cases hlt : i < np
    · rw [if_pos (by omega)]
      have lr : loadV P H 41 ⟨fb, 0 + i * 1, none⟩ = some (rw_ i) := by
        have := hs.fits.load (P := P) (k := i) agg41 hlt
        rw [show 0 + i * 1 = i by omega]; exact this
      have hlr : lenV P 41 (rw_ i) = some (.int .i64 nk) := (hs.rows i hlt).len_eq und41
      have hgr := hs.grove
      obtain ⟨x', y', z', hxyz, g1, g2, g3⟩ := hgr.eq
      rw [hs.eq] at hxyz
      cases hxyz
      have lz : loadV P H 24 ⟨b0, 0 + 2, none⟩ = some z := loadV_scalar hs.box agg24 rfl g3.hole.1 g3.hole.2
      have elz : lenV P 24 z = some (.int .i64 nk) := g3.len_eq und24
      have dd : decide ((nk : Int) = (nk : Int)) = true := decide_eq_true rfl
      rw [at37 _ _ hlt, bindO_some, addrV_eq, bindO_some, lr, bindO_some, hlr, bindO_some, fa26_2, bindO_some, addrV_eq, bindO_some, lz, bindO_some, elz, bindO_some, binK_some bin_neq, dd, Bool.not_true, ifK_f, ← hS]
      exact law_loop2 k m n0 b0 fb base np nj nk ps js ks v x y z rw_ good hl hnp hnj i hlt b1 (fun H n q => ih H n q hlt) m 0 H n hs (by omega) (by have := good.nk3; omega)
    · rw [if_neg (by omega), awake_call]
      exact ⟨H, n, rfl⟩
  intro m
  induction m with
  | zero => intro i H n h1 h2 h3; omega
  | succ m ih =>
    intro i H n h1 h2 h3
    exact body _ (m + 1) i H n h1 h2 (by omega) (fun H n q1 q2 => ih (i + 1) H n q1 (by omega) (by omega))
theorem len44_nil : lenV P 44 (.slice none 0 0) = some (.int .i64 ((0 : Nat) : Int)) := by kernel_rfl
theorem len37_nil : lenV P 37 (.slice none 0 0) = some (.int .i64 0) := by kernel_rfl
/-- The law's own text, over what its calls do. -/
theorem law_core (c : Cal) (S : Value → Value → Value → Hp → Nat → Res) {np nj nk : Nat} {ps js ks : List Int}
    (Hawake : ∀ (H : Hp) (n : Nat) (k : Value → Hp → Nat → Res), callFK P c 16 [] H n k = k (.bool true) H n)
    (Hthin : ∀ (H : Hp) (n : Nat) (v : Value), GroveI H n v np nj nk ps js ks → ∃ (r : Bool) (H' : Hp) (n' : Nat), (r = true ↔ thin np nj nk 0) ∧ (∀ k : Value → Hp → Nat → Res, callFK P c 15 [v, .slice none 0 0] H n k = k (.bool r) H' n') ∧ n ≤ n' ∧ Keep n H H')
    (Hgrove : ∀ (H : Hp) (n : Nat) (v : Value), GroveI H n v np nj nk ps js ks → thin np nj nk 0 → ∃ u H' n', (∀ k : Value → Hp → Nat → Res, callFK P c 18 [v] H n k = k u H' n') ∧ n ≤ n' ∧ Keep n H H' ∧ GroveP H' n' u np nj nk ps js ks)
    (Hcheck : ∀ (H : Hp) (n : Nat) (v : Value), GroveP H n v np nj nk ps js ks → thin np nj nk 0 → ∃ H' n', (∀ k : Value → Hp → Nat → Res, callFK P c 17 [v] H n k = k (.int .i64 (faultN np nj nk ps js ks)) H' n') ∧ n ≤ n' ∧ Keep n H H')
    (Hfault : ∀ (H : Hp) (n : Nat) (v : Value), GroveI H n v np nj nk ps js ks → ∃ H' n', (∀ k : Value → Hp → Nat → Res, callFK P c 20 [v] H n k = k (.int .i64 (faultN np nj nk ps js ks)) H' n') ∧ n ≤ n' ∧ Keep n H H')
    (Hbad : faultN np nj nk ps js ks ≠ 0 → ∀ (H : Hp) (n : Nat) (v : Value), GroveP H n v np nj nk ps js ks → thin np nj nk 0 → ∃ H' n', (∀ k : Value → Hp → Nat → Res, callFK P c 19 [v] H n k = k (.tuple ⟨[.slice none 0 0, .int .i64 (faultN np nj nk ps js ks)]⟩) H' n') ∧ n ≤ n' ∧ Keep n H H')
    (Hgood : faultN np nj nk ps js ks = 0 → ∀ (H : Hp) (n : Nat) (v : Value), GroveP H n v np nj nk ps js ks → thin np nj nk 0 → ∃ (fb : Nat) (rw_ : Nat → Value) (base : Nat) (H' : Hp) (n' : Nat), (∀ k : Value → Hp → Nat → Res, callFK P c 19 [v] H n k = k (.tuple ⟨[.slice (some ⟨fb, 0, none⟩) np np, .int .i64 0]⟩) H' n') ∧ n ≤ n' ∧ Keep n H H' ∧ n ≤ fb ∧ fb < n' ∧ n ≤ base ∧
      CellsF H' fb np 41 rw_ ∧ ∀ p, p < np → VecV H' base n' 1 4 (rw_ p) nk ((List.range nk).map fun q => .bool (fitD js ks nj np p q)))
    (Hloop : faultN np nj nk ps js ks = 0 → thin np nj nk 0 → ∀ (n0 b0 fb base : Nat) (v x y z : Value) (rw_ : Nat → Value) (H : Hp) (n : Nat), LawS H n0 n b0 fb base v x y z rw_ np nj nk ps js ks → ∃ H' n', S (.pointer (some ⟨b0, 0, none⟩)) (.slice (some ⟨fb, 0, none⟩) np np) (.int .i64 0) H n = some (.bool true, H', n'))
    {H : Hp} {n : Nat} {v : Value} (hg : GroveI H n v np nj nk ps js ks) : ∃ H' n', B3_0 c KK S v H n = some (.bool true, H', n') := by
  have hg0 := hg
  obtain ⟨x, y, z, rfl, h1, h2, h3⟩ := hg.eq
  unfold B3_0
  rw [boxK_eq]
  simp only [cellsV, ptr]
  have hk : Keep n H (H.set n (some (.cells [x, y, z] 26 false none))) := (Keep.refl n H).set (Nat.le_refl _) _
  have hb : CellsAt (H.set n (some (.cells [x, y, z] 26 false none))) n 0 [x, y, z] := CellsAt.new
  generalize H.set n (some (.cells [x, y, z] 26 false none)) = H1 at hk hb ⊢
  have ld : ∀ H2, CellsAt H2 n 0 [x, y, z] → loadV P H2 26 ⟨n, 0, none⟩ = some (.agg ⟨[x, y, z]⟩) := fun H2 h => load26 h h1.hole.1 h2.hole.1 h3.hole.1
  have hg1 : GroveI H1 (n + 1) (.agg ⟨[x, y, z]⟩) np nj nk ps js ks := hg0.keep hk (by omega)
  obtain ⟨t, H2, n2, t1, t2, t3, t4⟩ := Hthin H1 (n + 1) _ hg1
  rw [addrV_eq, bindO_some, ld H1 hb, bindO_some, t2]
  cases t with
  | false =>
    rw [not_f, bindO_some, ifK_t, Hawake]
    exact ⟨_, _, rfl⟩
  | true =>
    have ht := t1.1 rfl
    have hb2 := hb.keep t4 (by omega)
    have hg2 := hg1.keep t4 t3
    obtain ⟨u, H3, n3, a1, a2, a3, a4⟩ := Hgrove H2 n2 _ hg2 ht
    rw [not_t, bindO_some, ifK_f, bindO_some, ld H2 hb2, bindO_some, a1]
    obtain ⟨H4, n4, b1, b2, b3⟩ := Hcheck H3 n3 u a4 ht
    rw [b1]
    have k24 : Keep n2 H2 H4 := a3.trans b3 a2
    have hb4 := hb2.keep k24 (by omega)
    have hg4 := hg2.keep k24 (show n2 ≤ n4 by omega)
    obtain ⟨w, H5, n5, c1, c2, c3, c4⟩ := Hgrove H4 n4 _ hg4 ht
    rw [bindO_some, ld H4 hb4, bindO_some, c1]
    have hb5 := hb4.keep c3 (by omega)
    have hg5 := hg4.keep c3 c2
    have dz : decide (faultN np nj nk ps js ks = faultN np nj nk ps js ks) = true := decide_eq_true rfl
    have d00 : decide ((0 : Int) = 0) = true := rfl
    have kn5 : Keep n H H5 := ((hk.trans t4 (by omega)).trans k24 (by omega)).trans c3 (by omega)
    by_cases he : faultN np nj nk ps js ks = 0
    · obtain ⟨fb, rw_, base, H6, n6, d1, d2, d3, d4, d5, d6, d7, d8⟩ := Hgood he H5 n5 w c4 ht
      have t0 : tupV (.tuple ⟨[.slice (some ⟨fb, 0, none⟩) np np, .int .i64 0]⟩) 0 = some (.slice (some ⟨fb, 0, none⟩) np np) := rfl
      have t1 : tupV (.tuple ⟨[.slice (some ⟨fb, 0, none⟩) np np, .int .i64 0]⟩) 1 = some (.int .i64 0) := rfl
      have hb6 := hb5.keep d3 (by omega)
      have hg6 := hg5.keep d3 d2
      obtain ⟨H7, n7, s1, s2, s3⟩ := Hfault H6 n6 _ hg6
      have hb7 := hb6.keep s3 (by omega)
      have lx : loadV P H7 22 ⟨n, 0 + 0, none⟩ = some x := loadV_scalar hb7 agg22 rfl h1.hole.1 h1.hole.2
      have elx : lenV P 22 x = some (.int .i64 np) := h1.len_eq und22
      have hlen : lenV P 37 (.slice (some ⟨fb, 0, none⟩) np np) = some (.int .i64 np) := by unfold lenV; simp only [und37]; rfl
      have dnp : decide ((np : Int) = (np : Int)) = true := decide_eq_true rfl
      rw [d1, t0, bindO_some, t1, bindO_some, bindO_some, ld H6 hb6, bindO_some, s1, binK_some bin_neq, dz, Bool.not_true, ifK_f, he, binK_some bin_neq, d00, Bool.not_true, ifK_f, binK_some bin_neq, d00, Bool.not_true]
      simp only [guardK_ff, hlen, bindO_some, fa26_0, addrV_eq, lx, elx, binK_some bin_neq, dnp, Bool.not_true, pickV_f, ifK_f]
      refine Hloop he ht n n fb base (.agg ⟨[x, y, z]⟩) x y z rw_ H7 n7 ⟨hg0.keep ((kn5.trans d3 (by omega)).trans s3 (by omega)) (Nat.le_refl _), rfl, hb7, Nat.le_refl _, by omega, by omega, by omega, by omega, d7.keep s3 d5, fun p hp => (d8 p hp).same s2 fun b hb _ => s3 b hb⟩
    · obtain ⟨H6, n6, d1, d2, d3⟩ := Hbad he H5 n5 w c4 ht
      have t0 : tupV (.tuple ⟨[.slice none 0 0, .int .i64 (faultN np nj nk ps js ks)]⟩) 0 = some (.slice none 0 0) := rfl
      have t1 : tupV (.tuple ⟨[.slice none 0 0, .int .i64 (faultN np nj nk ps js ks)]⟩) 1 = some (.int .i64 (faultN np nj nk ps js ks)) := rfl
      have hb6 := hb5.keep d3 (by omega)
      have hg6 := hg5.keep d3 d2
      obtain ⟨H7, n7, s1, s2, s3⟩ := Hfault H6 n6 _ hg6
      have dne : decide (faultN np nj nk ps js ks = 0) = false := decide_eq_false he
      rw [d1, t0, bindO_some, t1, bindO_some, bindO_some, ld H6 hb6, bindO_some, s1, binK_some bin_neq, dz, Bool.not_true, ifK_f, binK_some bin_neq, dne, Bool.not_false, ifK_t, binK_some bin_eql, dz]
      simp only [guardK_tt, len37_nil, bindO_some, binK_some bin_eql, d00, pickV_t, Hawake]
      exact ⟨_, _, rfl⟩
theorem fits_bad {np nj nk : Nat} {ps js ks : List Int} (he : faultN np nj nk ps js ks ≠ 0) (H : Hp) (n : Nat) (v : Value) (hg : GroveP H n v np nj nk ps js ks) (ht : thin np nj nk 0) :
    ∃ H' n', (∀ k : Value → Hp → Nat → Res, callFK P (cal (53 + 7)) 19 [v] H n k = k (.tuple ⟨[.slice none 0 0, .int .i64 (faultN np nj nk ps js ks)]⟩) H' n') ∧ n ≤ n' ∧ Keep n H H' := by
  obtain ⟨l1, l2, l3, _⟩ := ht
  obtain ⟨H', n', e, h1, h2⟩ := (fitsP_spec 53 hg (by omega) (by omega) (by omega)).1 he
  exact ⟨H', n', fun k => by rw [fitsP_call, e]; rfl, h1, h2⟩
theorem fits_good {np nj nk : Nat} {ps js ks : List Int} (he : faultN np nj nk ps js ks = 0) (H : Hp) (n : Nat) (v : Value) (hg : GroveP H n v np nj nk ps js ks) (ht : thin np nj nk 0) :
    ∃ (fb : Nat) (rw_ : Nat → Value) (base : Nat) (H' : Hp) (n' : Nat), (∀ k : Value → Hp → Nat → Res, callFK P (cal (53 + 7)) 19 [v] H n k = k (.tuple ⟨[.slice (some ⟨fb, 0, none⟩) np np, .int .i64 0]⟩) H' n') ∧ n ≤ n' ∧ Keep n H H' ∧ n ≤ fb ∧ fb < n' ∧ n ≤ base ∧
      CellsF H' fb np 41 rw_ ∧ ∀ p, p < np → VecV H' base n' 1 4 (rw_ p) nk ((List.range nk).map fun q => .bool (fitD js ks nj np p q)) := by
  obtain ⟨l1, l2, l3, _⟩ := ht
  obtain ⟨fb, rw_, base, H', n', e, h1, h2, h3, h4, h5, h6, h7⟩ := (fitsP_spec 53 hg (by omega) (by omega) (by omega)).2 he
  exact ⟨fb, rw_, base, H', n', fun k => by rw [fitsP_call, e]; rfl, h1, h2, h3, h4, h5, h6, h7⟩
theorem law_spec {np nj nk : Nat} {ps js ks : List Int} {H : Hp} {n : Nat} {v : Value} (hg : GroveI H n v np nj nk ps js ks) : ∃ H' n', C3_0 (cal 60) KK v H n = some (.bool true, H', n') := by
  unfold C3_0
  exact law_core (cal 60) (S3_1 (cal 60) KK KK) (fun H n k => awake_call H n k) (fun H n v h => thin_call 59 h len44_nil)
    (fun H n v h ht => grove_call 58 h (by have := ht.1; omega) (by have := ht.2.1; omega) (by have := ht.2.2.1; omega))
    (fun H n v h ht => checkGrove_call 55 h (by have := ht.1; omega) (by have := ht.2.1; omega) (by have := ht.2.2.1; omega))
    (fun H n v h => lawfault_call 56 h) (fun he H n v h ht => fits_bad he H n v h ht) (fun he H n v h ht => fits_good he H n v h ht)
    (fun he ht n0 b0 fb base v x y z rw_ H n hs => law_loop1 KK n0 b0 fb base np nj nk ps js ks v x y z rw_ (good_of he) hs.grove.js_len (by have := ht.1; omega) (by have := ht.2.1; omega) KK 0 H n hs (by omega) (by have := (good_of he).np8; unfold KK; omega)) hg
theorem call3 (v : Value) (H : Hp) (n : Nat) : (cal (60 + 1)).call 3 [v] H n = C3_0 (cal 60) KK v H n := by kernel_rfl
theorem says : Says 3 := by
  intro H n v np nj nk ps js ks hg
  obtain ⟨H', n', e⟩ := law_spec hg
  exact ⟨60 + 1, H', n', (call3 v H n).trans e⟩
/-- ████ THE STATEMENT ████ -/
theorem proved : Rows.NestFitsSaid := said says
#print axioms proved
end Go.Proofs.Ytakjjillnllocaa.spec
