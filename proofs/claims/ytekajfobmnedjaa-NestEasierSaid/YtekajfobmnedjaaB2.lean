/- Texts S25 to S86. -/
import Derived.Test.YtekajfobmnedjaaB1
section
namespace Go.Proofs.Ytekajfobmnedjaa.spec
open Go Go.Ev Go.Proofs.Ytekajfobmnedjaa.nestFits Go.Proofs.Ytekajfobmnedjaa.G
set_option maxRecDepth 100000
variable {ρ : Type}
theorem zero111 : zeroT P 111 = some (.agg ⟨ints (List.replicate 16 0)⟩) := by kernel_rfl
theorem flat113 : flatF P 113 = false := by kernel_rfl
theorem call113 (l : Nat) (a b : Value) (H : Hp) (n : Nat) : (cal (l + 1)).call 113 [a, b] H n = C113_0 (cal l) KK a b H n := by kernel_rfl
theorem call119 (l : Nat) (a b c : Value) (H : Hp) (n : Nat) : (cal (l + 1)).call 119 [a, b, c] H n = C119_0 (cal l) KK a b c H n := by kernel_rfl
theorem reached_call (l : Nat) (g pad : Nat) (H : Hp) (n : Nat) (k : Value → Hp → Nat → Option ρ) : callFK P (cal (l + 1)) 113 [.pointer (some ⟨g, 0, none⟩), .int .i64 pad] H n k =
    k (.func (.func 119) ⟨[]⟩ ⟨[.pointer (some ⟨n + 1, 0, none⟩), .pointer (some ⟨n, 0, none⟩)]⟩) ((H.set n (some (.cells [.pointer (some ⟨g, 0, none⟩)] 105 false none))).set (n + 1) (some (.cells [.int .i64 pad] 3 false none))) (n + 2) := by
  unfold callFK
  rw [flat113, call113]
  rfl
theorem range97 (c : Cal) (a b : Value) (K : KC (Value × Hp × Nat)) (X : XC (Value × Hp × Nat)) (Kr : KC (Value × Hp × Nat)) (T : Tm) (H : Hp) (n : Nat) :
    rangeK P c none 97 (.func (.func 119) ⟨[]⟩ ⟨[a, b]⟩) #[12] asg97 bod97 K X Kr T H n [] =
      callFK P c 119 [.func (.yield (n + 1)) #[] #[], a, b] ((H.set n (some .deferred)).set (n + 1) (some (.loop .ready none 97 T (ntm P 97) #[12] asg97 bod97 n))) (n + 2) fun _ H n' => fin K X Kr (rangeOut (n + 1) { T := T, H, n := n', D := [n] }) := rfl
def sharesL (a1 a2 a3 a4 : Int) (near : Nat → Bool) (np pad : Nat) : List Int := ((fillS a3 a4 (pad :: (List.range np).filter near)).set (pad * 2) a1).set (pad * 2 + 1) a2
theorem sharesL_len (a1 a2 a3 a4 : Int) (near : Nat → Bool) (np pad : Nat) : (sharesL a1 a2 a3 a4 near np pad).length = 16 := by
  unfold sharesL; rw [set_two_len, fillS_len]
theorem sharesL_get {a1 a2 a3 a4 : Int} {near : Nat → Bool} {np pad : Nat} (hnp : np ≤ 8) (hpad : pad < 8) (q : Nat) :
    (sharesL a1 a2 a3 a4 near np pad).getD (q * 2) 0 = (if q = pad then a1 else if q < np ∧ near q = true then a3 else 0) ∧ (sharesL a1 a2 a3 a4 near np pad).getD (q * 2 + 1) 0 = (if q = pad then a2 else if q < np ∧ near q = true then a4 else 0) := by
  unfold sharesL
  obtain ⟨h1, h2⟩ := set_two_get (q := q) (fillS_len a3 a4 (pad :: (List.range np).filter near)) hpad a1 a2
  obtain ⟨g1, g2⟩ := fillS_get a3 a4 q (pad :: (List.range np).filter near) (by
    intro p hp
    rcases List.mem_cons.1 hp with z | z
    · omega
    · have := List.mem_range.1 (List.mem_filter.1 z).1; omega)
  rw [h1, h2, g1, g2]
  have hm : q ≠ pad → (q ∈ pad :: (List.range np).filter near ↔ q < np ∧ near q = true) := fun e => by simp [e]
  by_cases e : q = pad
  · simp [e]
  · rw [if_neg e, if_neg e, if_neg e, if_neg e]
    by_cases e2 : q < np ∧ near q = true
    · rw [if_pos ((hm e).2 e2), if_pos ((hm e).2 e2), if_pos e2, if_pos e2]; exact ⟨rfl, rfl⟩
    · rw [if_neg (fun h => e2 ((hm e).1 h)), if_neg (fun h => e2 ((hm e).1 h)), if_neg e2, if_neg e2]; exact ⟨rfl, rfl⟩
theorem sharesL_bounded {a1 a2 a3 a4 : Int} {near : Nat → Bool} {np pad : Nat} (hnp : np ≤ 8) (hpad : pad < 8) (h1 : okR a1 a2) (h2 : okR a3 a4) : Bounded (sharesL a1 a2 a3 a4 near np pad) := by
  intro k
  unfold okR at h1 h2
  by_cases hk : k < 16
  · obtain ⟨g1, g2⟩ := sharesL_get (a1 := a1) (a2 := a2) (a3 := a3) (a4 := a4) (near := near) hnp hpad (k / 2)
    rcases Nat.mod_two_eq_zero_or_one k with z | z
    · rw [show k / 2 * 2 = k by omega] at g1
      rw [g1]
      split
      · omega
      · split <;> omega
    · rw [show k / 2 * 2 + 1 = k by omega] at g2
      rw [g2]
      split
      · omega
      · split <;> omega
  · rw [List.getD_eq_getElem?_getD, List.getElem?_eq_none (by rw [sharesL_len]; omega)]
    simp
theorem nestOn_spec (l : Nat) {H : Hp} {n g np pad : Nat} {f : Nat → Value} {x : Value} {near : Nat → Bool} {y a1 a2 a3 a4 : Int} (hg : g < n) (hs : CellsF H g 859 117 f) (hx : f 0 = x) (hlen : lenV P 31 x = some (.int .i64 np)) (hnp : np ≤ 8) (hpad : pad < 8)
    (hnear : ∀ b, b < 8 → f (3 + pad * 8 + b) = .bool (near b)) (hy : 0 ≤ y ∧ y ≤ 1000) (h1 : okR a1 a2) (h2 : okR a3 a4) :
    ∃ B, BoundsTo y (sharesL a1 a2 a3 a4 near np pad) B 8 ∧ Ret ((cal (l + 5)).call 97 [.pointer (some ⟨g, 0, none⟩), .int .i64 pad, .agg ⟨[.int .i64 y, .int .i64 a1, .int .i64 a2, .int .i64 a3, .int .i64 a4]⟩] H n) n H
      (.agg ⟨ints (nestL y (sharesL a1 a2 a3 a4 near np pad) B)⟩) := by
  obtain ⟨B, hB, hnest⟩ := newNest_call (ρ := Value × Hp × Nat) l (sharesL_len a1 a2 a3 a4 near np pad) (sharesL_bounded hnp hpad h1 h2) hy
  refine ⟨B, hB, ?_⟩
  rw [call97, pre97]
  simp only [boxK_eq, allocK_eq zero113, allocK_eq zero111, cellsV, ptr, reached_call (l + 3)]
  rw [range97]
  generalize hH1 : ((((H.set n (some (.cells [.int .i64 y, .int .i64 a1, .int .i64 a2, .int .i64 a3, .int .i64 a4] 86 false none))).set (n + 1) (some (.cells (ints (nestL 0 zeros zeros)) 113 false none))).set (n + 1 + 1) (some (.cells (ints (List.replicate 16 0)) 111 false none))).set (n + 1 + 1 + 1) (some (.cells [.pointer (some ⟨g, 0, none⟩)] 105 false none))).set (n + 1 + 1 + 1 + 1) (some (.cells [.int .i64 pad] 3 false none)) = H1
  have k1 : Keep n H H1 := fun b hb => by rw [← hH1, Tr.get_set, if_neg (by omega), Tr.get_set, if_neg (by omega), Tr.get_set, if_neg (by omega), Tr.get_set, if_neg (by omega), Tr.get_set, if_neg (by omega)]
  have q0 : H1.get n = some (.cells [.int .i64 y, .int .i64 a1, .int .i64 a2, .int .i64 a3, .int .i64 a4] 86 false none) := by rw [← hH1, Tr.get_set, if_neg (by omega), Tr.get_set, if_neg (by omega), Tr.get_set, if_neg (by omega), Tr.get_set, if_neg (by omega), Tr.get_set, if_pos rfl]
  have q1 : H1.get (n + 1) = some (.cells (ints (nestL 0 zeros zeros)) 113 false none) := by rw [← hH1, Tr.get_set, if_neg (by omega), Tr.get_set, if_neg (by omega), Tr.get_set, if_neg (by omega), Tr.get_set, if_pos rfl]
  have q2 : H1.get (n + 1 + 1) = some (.cells (ints (List.replicate 16 0)) 111 false none) := by rw [← hH1, Tr.get_set, if_neg (by omega), Tr.get_set, if_neg (by omega), Tr.get_set, if_pos rfl]
  have q3 : H1.get (n + 1 + 1 + 1) = some (.cells [.pointer (some ⟨g, 0, none⟩)] 105 false none) := by rw [← hH1, Tr.get_set, if_neg (by omega), Tr.get_set, if_pos rfl]
  have q4 : H1.get (n + 1 + 1 + 1 + 1) = some (.cells [.int .i64 pad] 3 false none) := by rw [← hH1, Tr.get_set, if_pos rfl]
  clear hH1
  generalize hT : T97 (.pointer (some ⟨g, 0, none⟩)) (.int .i64 pad) (.agg ⟨[.int .i64 y, .int .i64 a1, .int .i64 a2, .int .i64 a3, .int .i64 a4]⟩) (.pointer (some ⟨n, 0, none⟩)) (.pointer (some ⟨n + 1, 0, none⟩)) (.pointer (some ⟨n + 1 + 1, 0, none⟩))
    (.func (.func 119) ⟨[]⟩ ⟨[.pointer (some ⟨n + 1 + 1 + 1 + 1, 0, none⟩), .pointer (some ⟨n + 1 + 1 + 1, 0, none⟩)]⟩) = T
  have hc119 : ∀ (a b c : Value) (H : Hp) (n : Nat) (k : Value → Hp → Nat → Res), pureV b = false → callFK P (cal (l + 4)) 119 [a, b, c] H n k = bindO (C119_0 (cal (l + 3)) KK a b c H n) fun r => k r.1 r.2.1 r.2.2 := by
    intro a b c H n k hb
    unfold callFK
    have : (flatF P 119 && pureL [a, b, c]) = false := by simp [pureL, hb]
    rw [this, call119]
  rw [hc119 _ _ _ _ _ _ rfl]
  generalize hH2 : (H1.set (n + 1 + 1 + 1 + 2) (some .deferred)).set (n + 1 + 1 + 1 + 2 + 1) (some (.loop .ready none 97 T (ntm P 97) #[12] asg97 bod97 (n + 1 + 1 + 1 + 2))) = H2
  have r1 : ∀ b, b < n + 1 + 1 + 1 + 2 → H2.get b = H1.get b := fun b hb => by rw [← hH2, Tr.get_set, if_neg (by omega), Tr.get_set, if_neg (by omega)]
  have r2 : H2.get (n + 1 + 1 + 1 + 2) = some .deferred := by rw [← hH2, Tr.get_set, if_neg (by omega), Tr.get_set, if_pos rfl]
  have r3 : H2.get (n + 1 + 1 + 1 + 2 + 1) = some (.loop .ready none 97 T (ntm P 97) #[12] asg97 bod97 (n + 1 + 1 + 1 + 2)) := by rw [← hH2, Tr.get_set, if_pos rfl]
  clear hH2
  have hs2 : ∀ H3 : Hp, (∀ b, b ≠ n + 1 + 1 + 1 + 2 + 1 → b ≠ n + 1 + 1 → H3.get b = H2.get b) → Reads H3 (n + 1 + 1 + 1 + 1) (n + 1 + 1 + 1) g x pad near := by
    intro H3 h3
    have c3 : H3.get (n + 1 + 1 + 1) = some (.cells [.pointer (some ⟨g, 0, none⟩)] 105 false none) := by rw [h3 _ (by omega) (by omega), r1 _ (by omega)]; exact q3
    have c4 : H3.get (n + 1 + 1 + 1 + 1) = some (.cells [.int .i64 pad] 3 false none) := by rw [h3 _ (by omega) (by omega), r1 _ (by omega)]; exact q4
    have cg : CellsF H3 g 859 117 f := by
      obtain ⟨c, e1, e2, e3⟩ := hs
      exact ⟨c, by rw [h3 _ (by omega) (by omega), r1 _ (by omega), k1 _ hg]; exact e1, e2, e3⟩
    refine ⟨loadV_int (o := 0) (k := 0) (cells_at c4) agg3 rfl, loadV_scalar (o := 0) (k := 0) (cells_at c3) agg105 rfl rfl rfl, ?_, fun b hb => ?_⟩
    · have := cg.load (P := P) (k := 0) agg31 (by omega)
      rw [hx] at this; exact this
    · have := cg.load (P := P) (k := 3 + pad * 8 + b) agg4 (by omega)
      rw [hnear b hb] at this
      rw [show 0 + 3 + pad * 8 + b * 1 = 3 + pad * 8 + b by omega]
      exact this
  obtain ⟨H3, n3, e3, i1, i2, i3, i4⟩ := iter_spec (cal (l + 3)) (.func (.yield (n + 1 + 1 + 1 + 2 + 1)) #[] #[]) (n + 1 + 1 + 1 + 1) (n + 1 + 1 + 1) g pad np x near hpad hnp hlen
    (fun ps Hc nc => nc = n + 1 + 1 + 1 + 2 + 2 ∧ Hc.get (n + 1 + 1 + 1 + 2 + 1) = some (.loop .ready none 97 T (ntm P 97) #[12] asg97 bod97 (n + 1 + 1 + 1 + 2)) ∧ Hc.get (n + 1 + 1) = some (.cells (ints (fillS a3 a4 ps)) 111 false none) ∧ ∀ b, b ≠ n + 1 + 1 + 1 + 2 + 1 → b ≠ n + 1 + 1 → Hc.get b = H2.get b)
    (fun ps Hc nc ⟨_, _, _, h⟩ => hs2 Hc h)
    (fun ps p Hc nc ⟨h1, h2, h3, h4⟩ hp => by
      have h5 : Hc.get n = some (.cells [.int .i64 y, .int .i64 a1, .int .i64 a2, .int .i64 a3, .int .i64 a4] 86 false none) := by rw [h4 _ (by omega) (by omega), r1 _ (by omega)]; exact q0
      rw [← hT] at h2
      obtain ⟨H', y1, y2, y3, y4⟩ := yield97 (ρ := Value × Hp × Nat) (l + 2) (n := nc) h2 h5 h3 (fillS_len _ _ _) (by omega) (by omega) hp
      refine ⟨H', nc, y1, h1, ?_, ?_, fun b hb hb' => (y4 b hb hb').trans (h4 b hb hb')⟩
      · rw [y2, h2, hT]
      · rw [y3, fillS_snoc])
    (H := H2) (n := n + 1 + 1 + 1 + 2 + 2) ⟨rfl, r3, by rw [r1 _ (by omega)]; exact q2, fun _ _ _ => rfl⟩
  rw [show n + 1 + 1 + 1 + 2 = n + 1 + 1 + 1 + 2 from rfl, e3, bindO_some]
  have hout : rangeOut (n + 1 + 1 + 1 + 2 + 1) { T := T, H := H3, n := n3, D := [n + 1 + 1 + 1 + 2] } = some (.norm, { T := T, H := H3.set (n + 1 + 1 + 1 + 2 + 1) (some (.loop .exhausted none 97 T (ntm P 97) #[12] asg97 bod97 (n + 1 + 1 + 1 + 2))), n := n3, D := [n + 1 + 1 + 1 + 2] }) := by
    unfold rangeOut
    simp only [i2]
  rw [hout]
  show Ret (K97 (cal (l + 4)) KK T (H3.set (n + 1 + 1 + 1 + 2 + 1) (some (.loop .exhausted none 97 T (ntm P 97) #[12] asg97 bod97 (n + 1 + 1 + 1 + 2)))) n3 [n + 1 + 1 + 1 + 2]) n H _
  generalize hH4 : H3.set (n + 1 + 1 + 1 + 2 + 1) (some (.loop .exhausted none 97 T (ntm P 97) #[12] asg97 bod97 (n + 1 + 1 + 1 + 2))) = H4
  have o1 : ∀ b, b ≠ n + 1 + 1 + 1 + 2 + 1 → b ≠ n + 1 + 1 → H4.get b = H2.get b := fun b hb hb' => by rw [← hH4, Tr.get_set, if_neg hb]; exact i4 b hb hb'
  have o2 : H4.get (n + 1 + 1) = some (.cells (ints (fillS a3 a4 (pad :: (List.range np).filter near))) 111 false none) := by rw [← hH4, Tr.get_set, if_neg (by omega)]; exact i3
  clear hH4 hout
  have o0 : H4.get n = some (.cells [.int .i64 y, .int .i64 a1, .int .i64 a2, .int .i64 a3, .int .i64 a4] 86 false none) := by rw [o1 _ (by omega) (by omega), r1 _ (by omega)]; exact q0
  have o3 : H4.get (n + 1) = some (.cells (ints (nestL 0 zeros zeros)) 113 false none) := by rw [o1 _ (by omega) (by omega), r1 _ (by omega)]; exact q1
  have o4 : H4.get (n + 1 + 1 + 1 + 2) = some .deferred := by rw [o1 _ (by omega) (by omega)]; exact r2
  rw [← hT, post97, fa86_1, bindO_some, addrV_eq, bindO_some, (loadK53 o0).1, bindO_some, at111 _ 0 hpad, bindO_some, store53, Nat.zero_add, store_two o2 (by rw [fillS_len]; omega), bindO_some]
  have hsh : ((fillS a3 a4 (pad :: (List.range np).filter near)).set (pad * 2) a1).set (pad * 2 + 1) a2 = sharesL a1 a2 a3 a4 near np pad := rfl
  rw [hsh]
  generalize hH5 : H4.set (n + 1 + 1) (some (.cells (ints (sharesL a1 a2 a3 a4 near np pad)) 111 false none)) = H5
  have p1 : ∀ b, b ≠ n + 1 + 1 → H5.get b = H4.get b := fun b hb => by rw [← hH5, Tr.get_set, if_neg hb]
  have p2 : H5.get (n + 1 + 1) = some (.cells (ints (sharesL a1 a2 a3 a4 near np pad)) 111 false none) := by rw [← hH5, Tr.get_set, if_pos rfl]
  clear hH5
  have hl6 := load_all p2 agg111 sz111 (by rw [ints_length, sharesL_len])
  rw [fa86_0, bindO_some, addrV_eq, bindO_some, (loadK53 ((p1 n (by omega)).trans o0)).2.2, bindO_some, addrV_eq, bindO_some, hl6, bindO_some, hnest]
  have lens : (ints (nestL y (sharesL a1 a2 a3 a4 near np pad) B)).length = 33 := by rw [ints_length, nest_cells (sharesL_len ..) hB.1]
  rw [storeP_agg sz113 lens, storeN_all ((p1 (n + 1) (by omega)).trans o3) (by rw [lens, ints_length, nest_cells zeros_len zeros_len]) (ints_leaf _), bindO_some]
  generalize hH6 : H5.set (n + 1) (some (.cells (ints (nestL y (sharesL a1 a2 a3 a4 near np pad) B)) 113 false none)) = H6
  have u1 : H6.get (n + 1) = some (.cells (ints (nestL y (sharesL a1 a2 a3 a4 near np pad) B)) 113 false none) := by rw [← hH6, Tr.get_set, if_pos rfl]
  have u2 : ∀ b, b ≠ n + 1 → H6.get b = H5.get b := fun b hb => by rw [← hH6, Tr.get_set, if_neg hb]
  clear hH6
  have ht : takeD H6 [n + 1 + 1 + 1 + 2] = some (H6.set (n + 1 + 1 + 1 + 2) none) := by
    have : H6.get (n + 1 + 1 + 1 + 2) = some .deferred := by rw [u2 _ (by omega), p1 _ (by omega)]; exact o4
    unfold takeD
    simp only [this]
    rfl
  rw [ht]
  show Ret (bindO (resV P ((Tr.nil : Tm).set 6 (some (.pointer (some ⟨n + 1, 0, none⟩)))) (H6.set (n + 1 + 1 + 1 + 2) none) results97) fun vs => some (oneV vs, H6.set (n + 1 + 1 + 1 + 2) none, n3)) n H _
  rw [res97, load_all (t := 113) (s := 33) (L := ints (nestL y (sharesL a1 a2 a3 a4 near np pad) B)) (e := 113) (vec := none) (by rw [Tr.get_set, if_neg (by omega)]; exact u1) agg113 sz113 lens]
  refine ⟨_, _, rfl, by omega, fun b hb => ?_⟩
  rw [Tr.get_set, if_neg (by omega), u2 _ (by omega), p1 _ (by omega), o1 _ (by omega) (by omega), r1 _ (by omega), k1 _ hb]
end Go.Proofs.Ytekajfobmnedjaa.spec
end
section
namespace Go.Ev
open Go
variable {P : Program} {ρ : Type}
theorem effK_gen {ex : List Extra} {H : Hp} {n : Nat} {v : Value} {op : Hp → Nat → (Value → Hp → Nat → Option ρ) → Option ρ} {R : Hp → Nat → Prop}
    (hex : ∀ y ∈ ex, ∃ t a, y = .l t a ∧ ((∃ c e ro vec, H.get a.block = some (.cells c e ro vec)) ∨ ∃ c, H.get a.block = some (.rows c)))
    (hop : ∀ Hm, (∀ b, ¬ ldOf ex b → Hm.get b = H.get b) → ∃ H2 n2, (∀ k, op Hm n k = k v H2 n2) ∧ (∀ b, ldOf ex b → H2.get b = Hm.get b) ∧ R H2 n2) :
    ∃ H' H2 n2, (∀ k, effK P ex H n op k = k v H' n2) ∧ R H2 n2 ∧ (∀ b, ldOf ex b → H'.get b = H.get b) ∧ ∀ b, ¬ ldOf ex b → H'.get b = H2.get b := by
  cases ex with
  | nil =>
    obtain ⟨H2, n2, h1, _, h3⟩ := hop H (fun _ _ => rfl)
    exact ⟨H2, H2, n2, fun k => by unfold effK; exact h1 k, h3, fun b ⟨_, _, h, _⟩ => (by cases h), fun _ _ => rfl⟩
  | cons y l =>
    have hl : ∀ z ∈ y :: l, ∃ t a, z = .l t a := fun z hz => by obtain ⟨t, a, e, _⟩ := hex z hz; exact ⟨t, a, e⟩
    obtain ⟨H1, e1, e2⟩ := maskX_some (ex := y :: l) (H := H) fun z hz => by obtain ⟨t, a, e, h⟩ := hex z hz; exact .inl ⟨t, a, e, h⟩
    have hnw : ∀ b, ¬ nwOf (y :: l) b := fun b ⟨id, c, e, h1, _⟩ => by obtain ⟨t, a, q⟩ := hl _ h1; cases q
    obtain ⟨H2, n2, h1, h2, h3⟩ := hop (maskXA (y :: l) H1) fun b hb => by
      rw [(maskXA_get (H := H1) b).2 (hnw _)]
      rcases e2 b with q | ⟨_, q⟩
      · exact q
      · exact absurd q hb
    have hsome : ∀ z ∈ y :: l, (∃ t a, z = .l t a ∧ (H2.get a.block).isSome) ∨ ∃ id c e, z = .a id c e := by
      intro z hz
      obtain ⟨t, a, rfl, hc⟩ := hex z hz
      refine .inl ⟨t, a, rfl, ?_⟩
      rw [h2 _ ⟨t, a, hz, rfl⟩, (maskXA_get (H := H1) a.block).2 (hnw _)]
      have hs : (H.get a.block).isSome := by rcases hc with ⟨c, e, ro, vec, hc⟩ | ⟨c, hc⟩ <;> rw [hc] <;> rfl
      rcases e2 a.block with q | ⟨⟨c, e, ro, vec, _, q⟩, _⟩
      · rw [q]; exact hs
      · rw [q]; rfl
    obtain ⟨H3, f1, f2, f3⟩ := backX_some (H0 := H) hsome
    have hck : chkX P (backXA (y :: l) H H3) (y :: l) = true := chk_true fun z hz => .inl (hl z hz)
    refine ⟨backXA (y :: l) H H3, H2, n2, fun k => ?_, h3, fun b hb => ?_, fun b hb => ?_⟩
    · unfold effK
      simp only [e1, bindO_some, h1, f1, hck]
      rfl
    · rw [(backXA_get b).2 (hnw b)]; exact f2 b hb
    · rw [(backXA_get b).2 (hnw b)]; exact f3 b hb
theorem putF_one (f : Nat → Value) (o : Nat) (v : Value) (k : Nat) : putF f o [v] k = if k = o then v else f k := by
  unfold putF
  by_cases h : k = o
  · subst h; simp
  · rw [if_neg h]
    by_cases h2 : o ≤ k
    · rw [if_pos h2]
      have : k - o ≠ 0 := by omega
      cases hk : k - o with
      | zero => exact absurd hk this
      | succ m => simp
    · rw [if_neg h2]
theorem putF_in (f : Nat → Value) (o : Nat) (vs : List Value) {j : Nat} {v : Value} (h : vs[j]? = some v) : putF f o vs (o + j) = v := by
  unfold putF
  rw [if_pos (by omega), show o + j - o = j by omega, h]
theorem putF_out (f : Nat → Value) (o : Nat) (vs : List Value) {k : Nat} (h : k < o ∨ o + vs.length ≤ k) : putF f o vs k = f k := by
  unfold putF
  by_cases h2 : o ≤ k
  · rw [if_pos h2, List.getElem?_eq_none (by omega)]
  · rw [if_neg h2]
end Go.Ev
end
section
namespace Go.Proofs.Ytekajfobmnedjaa.spec
open Go Go.Ev Go.Proofs.Ytekajfobmnedjaa.nestFits Go.Proofs.Ytekajfobmnedjaa.G
set_option maxRecDepth 100000
variable {ρ : Type}
theorem und115 : P.underlying 115 = some (.array 8 114) := by kernel_rfl
theorem und114 : P.underlying 114 = some (.array 3 113) := by kernel_rfl
theorem sz114 : szT P 114 = some 99 := by kernel_rfl
theorem at115 (b o : Nat) {i : Nat} (hi : i < 8) : indexAddrV P 115 (.pointer (some ⟨b, o, none⟩)) (.int .i64 i) = some (.pointer (some ⟨b, o + i * 99, none⟩)) := by
  unfold indexAddrV
  simp only [und115, idx_lt hi, sz114]
  rfl
theorem at114 (b o : Nat) {i : Nat} (hi : i < 3) : indexAddrV P 114 (.pointer (some ⟨b, o, none⟩)) (.int .i64 i) = some (.pointer (some ⟨b, o + i * 33, none⟩)) := by
  unfold indexAddrV
  simp only [und114, idx_lt hi, sz113]
  rfl
open Classical in
noncomputable def nearB (js : List Int) (i : Nat) (a b : Nat) : Bool := decide (∃ q, q < i ∧ J js a b q)
noncomputable def shP (js ks : List Int) (nj np p kd : Nat) : List Int := sharesL (ks.getD (kd * 5 + 1) 0) (ks.getD (kd * 5 + 2) 0) (ks.getD (kd * 5 + 3) 0) (ks.getD (kd * 5 + 4) 0) (nearB js nj p) np p
def NestAt (f : Nat → Value) (js ks : List Int) (nj np p kd : Nat) : Prop := ∃ B, BoundsTo (ks.getD (kd * 5) 0) (shP js ks nj np p kd) B 8 ∧ ∀ j, j < 33 → f (67 + p * 99 + kd * 33 + j) = .int .i64 ((nestL (ks.getD (kd * 5) 0) (shP js ks nj np p kd) B).getD j 0)
structure SiteF (f : Nat → Value) (x y z : Value) (js : List Int) (i : Nat) : Prop where
  x : f 0 = x
  y : f 1 = y
  z : f 2 = z
  near : ∀ a b, a < 8 → b < 8 → f (3 + a * 8 + b) = .bool (nearB js i a b)
open Classical in
theorem nearB_next {js : List Int} {i A B : Nat} (hA : js[i * 2]? = some (A : Int)) (hB : js[i * 2 + 1]? = some (B : Int)) (a b : Nat) :
    nearB js (i + 1) a b = if (a = A ∧ b = B) ∨ (a = B ∧ b = A) then true else nearB js i a b := by
  have hJ : J js a b i ↔ (a = A ∧ b = B) ∨ (a = B ∧ b = A) := by
    unfold J; rw [hA, hB]; simp only [Option.some.injEq]; omega
  unfold nearB
  by_cases h : (a = A ∧ b = B) ∨ (a = B ∧ b = A)
  · rw [if_pos h]
    exact decide_eq_true ⟨i, by omega, hJ.2 h⟩
  · rw [if_neg h]
    congr 1
    exact propext ⟨fun ⟨q, h1, h2⟩ => by
      rcases Nat.lt_or_ge q i with z | z
      · exact ⟨q, z, h2⟩
      · rw [show q = i by omega] at h2
        exact absurd (hJ.1 h2) h, fun ⟨q, h1, h2⟩ => ⟨q, by omega, h2⟩⟩
theorem near_loop61 (c : Cal) (k : Nat) (g np nj : Nat) (js : List Int) (x y z : Value) (hnp : np ≤ 8) (hnj : nj ≤ 1000) (hjs : ∀ i, i < nj → ∃ A B : Nat, js[i * 2]? = some (A : Int) ∧ js[i * 2 + 1]? = some (B : Int) ∧ A < np ∧ B < np)
    (Q : Res → Prop) (H0 : Hp) (n0 : Nat) (hg : n0 ≤ g) (hy0 : SliceR H0 n0 2 y nj js) (hx : ∀ (H : Hp) (n : Nat) (f : Nat → Value), n0 ≤ n → g < n → Keep n0 H0 H → CellsF H g 859 117 f → SiteF f x y z js nj →
      (∀ p kd j, p < 8 → kd < 3 → j < 33 → f (67 + p * 99 + kd * 33 + j) = .int .i64 0 → True) → Q (S61_2 c k k (.pointer (some ⟨g, 0, none⟩)) (.int .i64 np) (.int .i64 0) H n)) (hlx : lenV P 31 x = some (.int .i64 np)) :
    ∀ (m i : Nat) (H : Hp) (n : Nat) (f : Nat → Value), n0 ≤ n → g < n → Keep n0 H0 H → CellsF H g 859 117 f → SiteF f x y z js i → i ≤ nj → nj - i ≤ m →
    Q (S61_1 c k m (.pointer (some ⟨g, 0, none⟩)) y (.int .i64 nj) (.int .i64 i) H n) := by
  have body : ∀ (b1 : Value → Value → Value → Value → Hp → Nat → Res) (m i : Nat) (H : Hp) (n : Nat) (f : Nat → Value), n0 ≤ n → g < n → Keep n0 H0 H → CellsF H g 859 117 f → SiteF f x y z js i → i ≤ nj →
      (∀ (H : Hp) (n : Nat) (f : Nat → Value), n0 ≤ n → g < n → Keep n0 H0 H → CellsF H g 859 117 f → SiteF f x y z js (i + 1) → i < nj → Q (b1 (.pointer (some ⟨g, 0, none⟩)) y (.int .i64 nj) (.int .i64 ((i + 1 : Nat) : Int)) H n)) →
      Q (C61_1 c k m b1 (.pointer (some ⟨g, 0, none⟩)) y (.int .i64 nj) (.int .i64 i) H n) := by
    intro b1 m i H n f hn hgn hk hf hs hi ih
    unfold C61_1 B61_1
    generalize hS : S61_2 c k k = S
    rw [binK_some bin_lss, ifK_d]
    by_cases hlt : i < nj
    · rw [if_pos (by omega)]
      obtain ⟨A, B, hA, hB, hA8, hB8⟩ := hjs i hlt
      have hy := (hy0.keep hk (Nat.le_refl _)).up hn
      obtain ⟨bb, o, hix, hbn, hc⟩ := hy.at_ und32 sz88 hlt
      have hl2 : i * 2 + 2 ≤ js.length := by rw [hy.1]; omega
      obtain ⟨u, w, hu, hw, huw⟩ := pair_at hl2
      rw [hA] at hu; rw [hB] at hw
      cases hu; cases hw
      have hld : loadV P H 88 ⟨bb, o + i * 2, none⟩ = some (.agg ⟨[.int .i64 A, .int .i64 B]⟩) := by
        rw [loadV_agg hc agg88 sz88 (by rw [ints_length]; exact hl2) (ints_noHole _), huw]
      obtain ⟨H1, k1, k2, k3⟩ := spill (P := P) (ρ := Value × Hp × Nat) (H := H) (n := n) (L := [.int .i64 A, .int .i64 B]) zero88 rfl sz88 rfl rfl
      rw [hix, bindO_some, addrV_eq, bindO_some, hld, bindO_some, k3]
      have la : loadV P H1 3 ⟨n, 0 + 0, none⟩ = some (.int .i64 A) := loadV_int (cells_at k2) agg3 rfl
      have lb : loadV P H1 3 ⟨n, 0 + 1, none⟩ = some (.int .i64 B) := loadV_int (cells_at k2) agg3 rfl
      rw [fa88_0, bindO_some, addrV_eq, bindO_some, la, bindO_some, fa88_1, bindO_some, addrV_eq, bindO_some, lb, bindO_some, bindO_some, addrV_eq, bindO_some, lb, bindO_some, bindO_some, addrV_eq, bindO_some, la, bindO_some, nil_ptr, bindO_some, fa117_1, bindO_some,
        at109 _ _ (by omega), bindO_some, at108 _ _ (by omega), bindO_some, bindO_some, fa117_1, bindO_some, at109 _ _ (by omega), bindO_some]
      have hf1 := hf.keep k1 hgn
      obtain ⟨H2, H2', n2, e2, ⟨r1, r2, r3⟩, r4, r5⟩ := effK_gen (P := P) (ρ := Value × Hp × Nat) (ex := [.l 3 ⟨n, 0 + 0, none⟩, .l 3 ⟨n, 0 + 1, none⟩]) (H := H1) (n := n + 1) (v := undef)
        (op := fun H n k => bindO (storeP P 4 (.pointer (some ⟨g, 0 + 3 + A * 8 + B * 1, none⟩)) (.bool true) H) fun H => k undef H n)
        (R := fun H' n' => n' = n + 1 ∧ CellsF H' g 859 117 (putF f (0 + 3 + A * 8 + B * 1) [.bool true]) ∧ ∀ b, b ≠ n → b ≠ g → H'.get b = H1.get b)
        (fun q hq => by
          simp only [List.mem_cons, List.not_mem_nil, or_false] at hq
          rcases hq with rfl | rfl <;> exact ⟨_, _, rfl, .inl ⟨_, _, _, _, k2⟩⟩)
        (fun Hm hm => by
          have hld : ∀ b, ldOf [.l 3 ⟨n, 0 + 0, none⟩, .l 3 ⟨n, 0 + 1, none⟩] b ↔ b = n := fun b => by
            constructor
            · rintro ⟨t, a, h1, h2⟩
              simp only [List.mem_cons, List.not_mem_nil, or_false, Extra.l.injEq] at h1
              rcases h1 with ⟨_, rfl⟩ | ⟨_, rfl⟩ <;> exact h2.symm
            · rintro rfl
              exact ⟨3, ⟨_, 0 + 0, none⟩, by simp, rfl⟩
          have hmg : CellsF Hm g 859 117 f := by
            obtain ⟨c, e1, e2, e3⟩ := hf1
            exact ⟨c, by rw [hm g (fun h => by have := (hld g).1 h; omega)]; exact e1, e2, e3⟩
          obtain ⟨H', s1, s2, s3⟩ := hmg.storeN (o := 0 + 3 + A * 8 + B * 1) (vs := [.bool true]) (by simp; omega) rfl
          refine ⟨H', n + 1, fun k => by rw [storeP_leaf sz4 rfl, s1, bindO_some], fun b hb => s3 b (by have := (hld b).1 hb; omega), rfl, s2, fun b hb hb' => ?_⟩
          rw [s3 b hb', hm b (fun h => hb ((hld b).1 h))])
      rw [e2, at108 _ _ (by omega), bindO_some]
      subst r1
      have hld : ∀ b, ldOf [.l 3 ⟨n, 0 + 0, none⟩, .l 3 ⟨n, 0 + 1, none⟩] b ↔ b = n := fun b => by
        constructor
        · rintro ⟨t, a, h1, h2⟩
          simp only [List.mem_cons, List.not_mem_nil, or_false, Extra.l.injEq] at h1
          rcases h1 with ⟨_, rfl⟩ | ⟨_, rfl⟩ <;> exact h2.symm
        · rintro rfl
          exact ⟨3, ⟨_, 0 + 0, none⟩, by simp, rfl⟩
      have hf2 : CellsF H2 g 859 117 (putF f (0 + 3 + A * 8 + B * 1) [.bool true]) := by
        obtain ⟨c, e1, e2, e3⟩ := r2
        exact ⟨c, by rw [r5 g (fun h => by have := (hld g).1 h; omega)]; exact e1, e2, e3⟩
      obtain ⟨H3, s1, s2, s3⟩ := hf2.storeN (o := 0 + 3 + B * 8 + A * 1) (vs := [.bool true]) (by simp; omega) rfl
      have hI : I64 ((i : Int) + 1) := by unfold I64; omega
      have hcast : ((i : Int) + 1) = ((i + 1 : Nat) : Int) := by omega
      rw [storeP_leaf sz4 rfl, s1, bindO_some, binK_some (bin_add hI), hcast]
      refine ih H3 (n + 1) _ (by omega) (by omega) (fun b hb => ?_) s2 ⟨?_, ?_, ?_, fun a b ha hb => ?_⟩ hlt
      · rw [s3 b (by omega), r5 b (fun h => by have := (hld b).1 h; omega), r3 b (by omega) (by omega), k1 b (by omega), hk b hb]
      · rw [putF_one, if_neg (by omega), putF_one, if_neg (by omega)]; exact hs.x
      · rw [putF_one, if_neg (by omega), putF_one, if_neg (by omega)]; exact hs.y
      · rw [putF_one, if_neg (by omega), putF_one, if_neg (by omega)]; exact hs.z
      · rw [putF_one, putF_one, nearB_next hA hB, hs.near a b ha hb]
        by_cases c1 : 3 + a * 8 + b = 0 + 3 + B * 8 + A * 1
        · rw [if_pos c1, if_pos (.inr ⟨by omega, by omega⟩)]
        · rw [if_neg c1]
          by_cases c2 : 3 + a * 8 + b = 0 + 3 + A * 8 + B * 1
          · rw [if_pos c2, if_pos (.inl ⟨by omega, by omega⟩)]
          · rw [if_neg c2, if_neg]
            rintro (⟨h1, h2⟩ | ⟨h1, h2⟩)
            · exact c2 (by subst h1; subst h2; omega)
            · exact c1 (by subst h1; subst h2; omega)
    · rw [if_neg (by omega)]
      have hi' : i = nj := by omega
      subst hi'
      have lx : loadV P H 31 ⟨g, 0 + 0 + 0, none⟩ = some x := by
        have := hf.load (P := P) (k := 0) agg31 (by omega)
        rw [hs.x] at this; exact this
      rw [nil_ptr, bindO_some, fa117_0, bindO_some, fa35_0, bindO_some, addrV_eq, bindO_some, lx, bindO_some, hlx, bindO_some, ← hS]
      exact hx H n f hn hgn hk hf hs (fun _ _ _ _ _ _ _ => trivial)
  intro m
  induction m with
  | zero =>
    intro i H n f h1 h2 h3 h4 h5 h6 h7
    exact body _ 0 i H n f h1 h2 h3 h4 h5 h6 (fun _ _ _ _ _ _ _ _ h => by omega)
  | succ m ih =>
    intro i H n f h1 h2 h3 h4 h5 h6 h7
    exact body _ (m + 1) i H n f h1 h2 h3 h4 h5 h6 (fun H n f q1 q2 q3 q4 q5 q6 => ih (i + 1) H n f q1 q2 q3 q4 q5 (by omega) (by omega))
end Go.Proofs.Ytekajfobmnedjaa.spec
end
section
namespace Go.Proofs.Ytekajfobmnedjaa.spec
open Go Go.Ev Go.Proofs.Ytekajfobmnedjaa.nestFits Go.Proofs.Ytekajfobmnedjaa.G
set_option maxRecDepth 100000
variable {ρ : Type}
theorem getD_some {X : List Int} {j : Nat} (h : j < X.length) : X[j]? = some (X.getD j 0) := by
  rw [List.getD_eq_getElem?_getD, List.getElem?_eq_getElem h]; rfl
theorem nestOn_call (l : Nat) {H : Hp} {n g np pad : Nat} {f : Nat → Value} {x : Value} {near : Nat → Bool} {y a1 a2 a3 a4 : Int} (hg : g < n) (hs : CellsF H g 859 117 f) (hx : f 0 = x) (hlen : lenV P 31 x = some (.int .i64 np)) (hnp : np ≤ 8) (hpad : pad < 8)
    (hnear : ∀ b, b < 8 → f (3 + pad * 8 + b) = .bool (near b)) (hy : 0 ≤ y ∧ y ≤ 1000) (h1 : okR a1 a2) (h2 : okR a3 a4) :
    ∃ B H' n', BoundsTo y (sharesL a1 a2 a3 a4 near np pad) B 8 ∧ (∀ k : Value → Hp → Nat → Option ρ, callFK P (cal (l + 5)) 97 [.pointer (some ⟨g, 0, none⟩), .int .i64 pad, .agg ⟨[.int .i64 y, .int .i64 a1, .int .i64 a2, .int .i64 a3, .int .i64 a4]⟩] H n k =
      k (.agg ⟨ints (nestL y (sharesL a1 a2 a3 a4 near np pad) B)⟩) H' n') ∧ n ≤ n' ∧ Keep n H H' := by
  obtain ⟨B, hB, H', n', e, h3, h4⟩ := nestOn_spec l hg hs hx hlen hnp hpad hnear hy h1 h2
  refine ⟨B, H', n', hB, fun k => ?_, h3, h4⟩
  unfold callFK
  have : (flatF P 97 && pureL [.pointer (some ⟨g, 0, none⟩), .int .i64 pad, .agg ⟨[.int .i64 y, .int .i64 a1, .int .i64 a2, .int .i64 a3, .int .i64 a4]⟩]) = false := by rw [Bool.and_eq_false_iff]; exact .inr rfl
  rw [this, e]
  rfl
def NestsTo (f : Nat → Value) (js ks : List Int) (nj np nk pd i : Nat) : Prop := ∀ p kd, p < np → kd < nk → (p < pd ∨ (p = pd ∧ kd < i)) → NestAt f js ks nj np p kd
def KindsOk (ks : List Int) (nk : Nat) : Prop := ∀ kd, kd < nk → (0 ≤ ks.getD (kd * 5) 0 ∧ ks.getD (kd * 5) 0 ≤ 1000) ∧ okR (ks.getD (kd * 5 + 1) 0) (ks.getD (kd * 5 + 2) 0) ∧ okR (ks.getD (kd * 5 + 3) 0) (ks.getD (kd * 5 + 4) 0)
theorem nests_loop3 (l k m1 : Nat) (g np nj nk : Nat) (js ks : List Int) (x y z : Value) (hnp : np ≤ 8) (hnk : nk ≤ 3) (hks : KindsOk ks nk)
    (Q : Res → Prop) (H0 : Hp) (n0 : Nat) (hg : n0 ≤ g) (hz0 : SliceR H0 n0 5 z nk ks) (hlx : lenV P 31 x = some (.int .i64 np)) (pd : Nat) (hpd : pd < np) (b2 : Value → Value → Value → Hp → Nat → Res)
    (hb2 : ∀ (H : Hp) (n : Nat) (f : Nat → Value), n0 ≤ n → g < n → Keep n0 H0 H → CellsF H g 859 117 f → SiteF f x y z js nj → NestsTo f js ks nj np nk (pd + 1) 0 → Q (b2 (.pointer (some ⟨g, 0, none⟩)) (.int .i64 np) (.int .i64 ((pd + 1 : Nat) : Int)) H n)) :
    ∀ (m i : Nat) (H : Hp) (n : Nat) (f : Nat → Value), n0 ≤ n → g < n → Keep n0 H0 H → CellsF H g 859 117 f → SiteF f x y z js nj → NestsTo f js ks nj np nk pd i → i ≤ nk → nk - i ≤ m →
    Q (S61_3 (cal (l + 5)) k m1 b2 m (.pointer (some ⟨g, 0, none⟩)) (.int .i64 pd) (.int .i64 np) (.int .i64 pd) z (.int .i64 nk) (.int .i64 i) H n) := by
  have body : ∀ (b3 : Value → Value → Value → Value → Value → Value → Value → Hp → Nat → Res) (m i : Nat) (H : Hp) (n : Nat) (f : Nat → Value), n0 ≤ n → g < n → Keep n0 H0 H → CellsF H g 859 117 f → SiteF f x y z js nj → NestsTo f js ks nj np nk pd i → i ≤ nk →
      (∀ (H : Hp) (n : Nat) (f : Nat → Value), n0 ≤ n → g < n → Keep n0 H0 H → CellsF H g 859 117 f → SiteF f x y z js nj → NestsTo f js ks nj np nk pd (i + 1) → i < nk →
        Q (b3 (.pointer (some ⟨g, 0, none⟩)) (.int .i64 pd) (.int .i64 np) (.int .i64 pd) z (.int .i64 nk) (.int .i64 ((i + 1 : Nat) : Int)) H n)) →
      Q (C61_3 (cal (l + 5)) k m1 m b2 b3 (.pointer (some ⟨g, 0, none⟩)) (.int .i64 pd) (.int .i64 np) (.int .i64 pd) z (.int .i64 nk) (.int .i64 i) H n) := by
    intro b3 m i H n f hn hgn hk hf hs hnt hi ih
    unfold C61_3 B61_3
    rw [binK_some bin_lss, ifK_d]
    by_cases hlt : i < nk
    · rw [if_pos (by omega)]
      have hz := (hz0.keep hk (Nat.le_refl _)).up hn
      obtain ⟨bb, o, hix, hbn, hc⟩ := hz.at_ und33 sz86 hlt
      have hl2 : i * 5 + 5 ≤ ks.length := by rw [hz.1]; omega
      have hld : loadV P H 86 ⟨bb, o + i * 5, none⟩ = some (.agg ⟨[.int .i64 (ks.getD (i * 5) 0), .int .i64 (ks.getD (i * 5 + 1) 0), .int .i64 (ks.getD (i * 5 + 2) 0), .int .i64 (ks.getD (i * 5 + 3) 0), .int .i64 (ks.getD (i * 5 + 4) 0)]⟩) := by
        rw [loadV_agg hc agg86 sz86 (by rw [ints_length]; exact hl2) (ints_noHole _), five_at hl2]
      obtain ⟨H1, k1, k2, k3⟩ := spill (P := P) (ρ := Value × Hp × Nat) (H := H) (n := n) (L := [.int .i64 (ks.getD (i * 5) 0), .int .i64 (ks.getD (i * 5 + 1) 0), .int .i64 (ks.getD (i * 5 + 2) 0), .int .i64 (ks.getD (i * 5 + 3) 0), .int .i64 (ks.getD (i * 5 + 4) 0)]) zero86 rfl sz86 rfl rfl
      rw [hix, bindO_some, addrV_eq, bindO_some, hld, bindO_some, k3]
      have hback := load_all k2 agg86 sz86 rfl
      rw [addrV_eq, bindO_some, hback, bindO_some, nil_ptr, bindO_some, fa117_2, bindO_some, at115 _ _ (by omega), bindO_some]
      have hf1 := hf.keep k1 hgn
      obtain ⟨y1, y2, y3⟩ := hks i hlt
      obtain ⟨B, H2, n2, hB, e2, e3, e4⟩ := nestOn_call (ρ := Value × Hp × Nat) l (n := n + 1) (by omega) hf1 hs.x hlx hnp (show pd < 8 by omega) (near := nearB js nj pd) (fun b hb => hs.near pd b (by omega) hb) y1 y2 y3
      rw [e2, at114 _ _ (by omega), bindO_some]
      have hf2 := hf1.keep e4 (by omega)
      have lens : (ints (nestL (ks.getD (i * 5) 0) (sharesL (ks.getD (i * 5 + 1) 0) (ks.getD (i * 5 + 2) 0) (ks.getD (i * 5 + 3) 0) (ks.getD (i * 5 + 4) 0) (nearB js nj pd) np pd) B)).length = 33 := by rw [ints_length, nest_cells (sharesL_len ..) hB.1]
      obtain ⟨H3, s1, s2, s3⟩ := hf2.storeN (o := 0 + 67 + pd * 99 + i * 33) (vs := ints (nestL (ks.getD (i * 5) 0) (sharesL (ks.getD (i * 5 + 1) 0) (ks.getD (i * 5 + 2) 0) (ks.getD (i * 5 + 3) 0) (ks.getD (i * 5 + 4) 0) (nearB js nj pd) np pd) B)) (by rw [lens]; omega) (ints_leaf _)
      have hI : I64 ((i : Int) + 1) := by unfold I64; omega
      have hcast : ((i : Int) + 1) = ((i + 1 : Nat) : Int) := by omega
      rw [storeP_agg sz113 lens, s1, bindO_some, binK_some (bin_add hI), hcast]
      refine ih H3 n2 _ (by omega) (by omega) (fun b hb => ?_) s2 ⟨?_, ?_, ?_, fun a b ha hb => ?_⟩ (fun p kd hp hkd hpk => ?_) hlt
      · rw [s3 b (by omega), e4 b (by omega), k1 b (by omega), hk b hb]
      · rw [putF_out _ _ _ (.inl (by omega))]; exact hs.x
      · rw [putF_out _ _ _ (.inl (by omega))]; exact hs.y
      · rw [putF_out _ _ _ (.inl (by omega))]; exact hs.z
      · rw [putF_out _ _ _ (.inl (by omega))]; exact hs.near a b ha hb
      · by_cases hnew : p = pd ∧ kd = i
        · obtain ⟨rfl, rfl⟩ := hnew
          refine ⟨B, hB, fun j hj => ?_⟩
          rw [show 67 + p * 99 + kd * 33 + j = 0 + 67 + p * 99 + kd * 33 + j by omega]
          refine putF_in _ _ _ (ints_get ?_)
          have : j < (nestL (ks.getD (kd * 5) 0) (sharesL (ks.getD (kd * 5 + 1) 0) (ks.getD (kd * 5 + 2) 0) (ks.getD (kd * 5 + 3) 0) (ks.getD (kd * 5 + 4) 0) (nearB js nj p) np p) B).length := by rw [← ints_length, lens]; exact hj
          exact getD_some this
        · obtain ⟨B', hB', hf'⟩ := hnt p kd hp hkd (by omega)
          refine ⟨B', hB', fun j hj => ?_⟩
          rw [putF_out _ _ _ (by rw [lens]; omega)]
          exact hf' j hj
    · rw [if_neg (by omega)]
      have hi' : i = nk := by omega
      subst hi'
      have hI : I64 ((pd : Int) + 1) := by unfold I64; omega
      have hcast : ((pd : Int) + 1) = ((pd + 1 : Nat) : Int) := by omega
      rw [binK_some (bin_add hI), hcast]
      exact hb2 H n f hn hgn hk hf hs (fun p kd hp hkd h => hnt p kd hp hkd (by omega))
  intro m
  induction m with
  | zero =>
    intro i H n f h1 h2 h3 h4 h5 h6 h7 h8
    exact body _ 0 i H n f h1 h2 h3 h4 h5 h6 h7 (fun _ _ _ _ _ _ _ _ _ h => by omega)
  | succ m ih =>
    intro i H n f h1 h2 h3 h4 h5 h6 h7 h8
    exact body _ (m + 1) i H n f h1 h2 h3 h4 h5 h6 h7 (fun H n f q1 q2 q3 q4 q5 q6 q7 => ih (i + 1) H n f q1 q2 q3 q4 q5 q6 (by omega) (by omega))
theorem nests_loop2 (l k : Nat) (g np nj nk : Nat) (js ks : List Int) (x y z : Value) (hnp : np ≤ 8) (hnk : nk ≤ 3) (hks : KindsOk ks nk)
    (Q : Res → Prop) (H0 : Hp) (n0 : Nat) (hg : n0 ≤ g) (hz0 : SliceR H0 n0 5 z nk ks) (hlx : lenV P 31 x = some (.int .i64 np))
    (hq : ∀ (H : Hp) (n : Nat) (f : Nat → Value), n0 ≤ n → g < n → Keep n0 H0 H → CellsF H g 859 117 f → SiteF f x y z js nj → (∀ p kd, p < np → kd < nk → NestAt f js ks nj np p kd) → Q (some (.tuple ⟨[.pointer (some ⟨g, 0, none⟩), .int .i64 0]⟩, H, n))) :
    ∀ (m i : Nat) (H : Hp) (n : Nat) (f : Nat → Value), n0 ≤ n → g < n → Keep n0 H0 H → CellsF H g 859 117 f → SiteF f x y z js nj → NestsTo f js ks nj np nk i 0 → i ≤ np → np - i + 3 ≤ m →
    Q (S61_2 (cal (l + 5)) k m (.pointer (some ⟨g, 0, none⟩)) (.int .i64 np) (.int .i64 i) H n) := by
  have body : ∀ (b2 : Value → Value → Value → Hp → Nat → Res) (m i : Nat) (H : Hp) (n : Nat) (f : Nat → Value), n0 ≤ n → g < n → Keep n0 H0 H → CellsF H g 859 117 f → SiteF f x y z js nj → NestsTo f js ks nj np nk i 0 → i ≤ np → 3 ≤ m →
      (∀ (H : Hp) (n : Nat) (f : Nat → Value), n0 ≤ n → g < n → Keep n0 H0 H → CellsF H g 859 117 f → SiteF f x y z js nj → NestsTo f js ks nj np nk (i + 1) 0 → i < np → Q (b2 (.pointer (some ⟨g, 0, none⟩)) (.int .i64 np) (.int .i64 ((i + 1 : Nat) : Int)) H n)) →
      Q (C61_2 (cal (l + 5)) k m b2 (.pointer (some ⟨g, 0, none⟩)) (.int .i64 np) (.int .i64 i) H n) := by
    intro b2 m i H n f hn hgn hk hf hs hnt hi hm ih
    unfold C61_2 B61_2
    generalize hS : S61_3 (cal (l + 5)) k m b2 m = S
    rw [binK_some bin_lss, ifK_d]
    by_cases hlt : i < np
    · rw [if_pos (by omega)]
      have lz : loadV P H 33 ⟨g, 0 + 0 + 2, none⟩ = some z := by
        have := hf.load (P := P) (k := 2) agg33 (by omega)
        rw [hs.z] at this; exact this
      have e3 : lenV P 33 z = some (.int .i64 nk) := hz0.len_eq und33
      rw [nil_ptr, bindO_some, fa117_0, bindO_some, fa35_2, bindO_some, addrV_eq, bindO_some, lz, bindO_some, e3, bindO_some, ← hS]
      exact nests_loop3 l k m g np nj nk js ks x y z hnp hnk hks Q H0 n0 hg hz0 hlx i hlt b2 (fun H n f q1 q2 q3 q4 q5 q6 => ih H n f q1 q2 q3 q4 q5 q6 hlt) m 0 H n f hn hgn hk hf hs hnt (by omega) (by omega)
    · rw [if_neg (by omega)]
      exact hq H n f hn hgn hk hf hs (fun p kd hp hkd => hnt p kd hp hkd (.inl (by omega)))
  intro m
  induction m with
  | zero =>
    intro i H n f h1 h2 h3 h4 h5 h6 h7 h8
    omega
  | succ m ih =>
    intro i H n f h1 h2 h3 h4 h5 h6 h7 h8
    exact body _ (m + 1) i H n f h1 h2 h3 h4 h5 h6 h7 (by omega) (fun H n f q1 q2 q3 q4 q5 q6 q7 => ih (i + 1) H n f q1 q2 q3 q4 q5 q6 (by omega) (by omega))
end Go.Proofs.Ytekajfobmnedjaa.spec
end
section
namespace Go.Proofs.Ytekajfobmnedjaa.spec
open Go Go.Ev Go.Proofs.Ytekajfobmnedjaa.nestFits Go.Proofs.Ytekajfobmnedjaa.G
set_option maxRecDepth 100000
variable {ρ : Type}
open Classical in
theorem nearB_zero (js : List Int) (a b : Nat) : nearB js 0 a b = false := by
  unfold nearB
  exact decide_eq_false (fun ⟨q, h, _⟩ => by omega)
theorem build117 (x y z : Value) : buildP P 117 [(0, .agg ⟨[x, y, z]⟩)] = some (.agg ⟨x :: y :: z :: (List.replicate 64 (.bool false) ++ List.replicate 792 (.int .i64 0))⟩) := by kernel_rfl
def site0 (x y z : Value) (k : Nat) : Value := if k = 0 then x else if k = 1 then y else if k = 2 then z else if k < 67 then .bool false else .int .i64 0
theorem site0_at (x y z : Value) (k : Nat) (hk : k < 859) : (x :: y :: z :: (List.replicate 64 (Value.bool false) ++ List.replicate 792 (Value.int .i64 0)))[k]? = some (site0 x y z k) := by
  match k, hk with
  | 0, _ => rfl
  | 1, _ => rfl
  | 2, _ => rfl
  | k + 3, hk =>
    rw [List.getElem?_cons_succ, List.getElem?_cons_succ, List.getElem?_cons_succ]
    unfold site0
    rw [if_neg (by omega), if_neg (by omega), if_neg (by omega)]
    by_cases h : k < 64
    · rw [List.getElem?_append_left (by simp; omega), List.getElem?_replicate, if_pos h, if_pos (by omega)]
    · rw [List.getElem?_append_right (by simp; omega), List.getElem?_replicate, List.length_replicate, if_pos (by omega), if_neg (by omega)]
structure Good (np nj nk : Nat) (ps js ks : List Int) : Prop where
  np8 : np ≤ 8
  nj16 : nj ≤ 16
  nk3 : nk ≤ 3
  np1 : np ≠ 0
  nk1 : nk ≠ 0
  ok : ¬ GBad np nj nk ps js ks
theorem good_of {np nj nk : Nat} {ps js ks : List Int} (h : faultN np nj nk ps js ks = 0) : Good np nj nk ps js ks := by
  unfold faultN at h
  by_cases c1 : 8 < np ∨ 16 < nj ∨ 3 < nk
  · rw [if_pos c1] at h; omega
  · rw [if_neg c1] at h
    by_cases c2 : np = 0 ∨ nk = 0
    · rw [if_pos c2] at h; omega
    · rw [if_neg c2] at h
      by_cases c3 : GBad np nj nk ps js ks
      · rw [if_pos c3] at h; omega
      · exact ⟨by omega, by omega, by omega, by omega, by omega, c3⟩
theorem Good.kinds {np nj nk : Nat} {ps js ks : List Int} (h : Good np nj nk ps js ks) : KindsOk ks nk := by
  intro kd hkd
  have hb : ¬ KBad ks kd := fun c => h.ok (.inr (.inl ⟨kd, hkd, c⟩))
  unfold KBad at hb
  unfold okR
  omega
theorem Good.joins {np nj nk : Nat} {ps js ks : List Int} (h : Good np nj nk ps js ks) (hl : js.length = nj * 2) (i : Nat) (hi : i < nj) : ∃ A B : Nat, js[i * 2]? = some (A : Int) ∧ js[i * 2 + 1]? = some (B : Int) ∧ A < np ∧ B < np := by
  have hb : ∀ i, i < nj → okJ js np nj (js.getD (i * 2) 0) (js.getD (i * 2 + 1) 0) := (joins_all hl).2 fun c => h.ok (.inr (.inr c))
  obtain ⟨o1, o2, _, _⟩ := hb i hi
  refine ⟨(js.getD (i * 2) 0).toNat, (js.getD (i * 2 + 1) 0).toNat, ?_, ?_, by omega, by omega⟩
  · rw [getD_some (show i * 2 < js.length by omega)]; congr 1; omega
  · rw [getD_some (show i * 2 + 1 < js.length by omega)]; congr 1; omega
def Opened (r : Res) (n : Nat) (H : Hp) (v : Value) (np nj nk : Nat) (js ks : List Int) : Prop := ∃ (g : Nat) (x y z : Value) (f : Nat → Value) (H' : Hp) (n' : Nat), r = some (.tuple ⟨[.pointer (some ⟨g, 0, none⟩), .int .i64 0]⟩, H', n') ∧ n ≤ n' ∧ Keep n H H' ∧ n ≤ g ∧ g < n' ∧
  v = .agg ⟨[x, y, z]⟩ ∧ CellsF H' g 859 117 f ∧ SiteF f x y z js nj ∧ ∀ p kd, p < np → kd < nk → NestAt f js ks nj np p kd
theorem open_spec (l : Nat) {np nj nk : Nat} {ps js ks : List Int} {H : Hp} {n : Nat} {v : Value} (hg : GroveP H n v np nj nk ps js ks) (hnp : np ≤ 1000) (hnj : nj ≤ 1000) (hnk : nk ≤ 1000) :
    (faultN np nj nk ps js ks ≠ 0 → Ret (C61_0 (cal (l + 5)) KK v H n) n H (.tuple ⟨[.pointer none, .int .i64 (faultN np nj nk ps js ks)]⟩)) ∧
    (faultN np nj nk ps js ks = 0 → Opened (C61_0 (cal (l + 5)) KK v H n) n H v np nj nk js ks) := by
  have hg0 := hg
  obtain ⟨x, y, z, rfl, h1, h2, h3⟩ := hg
  unfold C61_0 B61_0
  generalize hS : S61_1 (cal (l + 5)) KK KK = S
  rw [boxK_eq]
  simp only [cellsV, ptr]
  have hk : Keep n H (H.set n (some (.cells [x, y, z] 35 false none))) := (Keep.refl n H).set (Nat.le_refl _) _
  have hb : CellsAt (H.set n (some (.cells [x, y, z] 35 false none))) n 0 [x, y, z] := CellsAt.new
  generalize H.set n (some (.cells [x, y, z] 35 false none)) = H1 at hk hb ⊢
  have lg : ∀ H2, CellsAt H2 n 0 [x, y, z] → loadV P H2 35 ⟨n, 0, none⟩ = some (.agg ⟨[x, y, z]⟩) := fun H2 h => loadV_agg (o := 0) (k := 0) h agg35 sz35 (by simp) (by simp [h1.hole.1, h2.hole.1, h3.hole.1])
  obtain ⟨H2, n2, e1, e2, e3⟩ := check_call (ρ := Value × Hp × Nat) (l + 1) (hg0.keep hk (show n ≤ n + 1 by omega)) hnp hnj hnk
  rw [addrV_eq, bindO_some, lg H1 hb, bindO_some, e1, binK_some bin_neq]
  constructor
  · intro hne
    rw [decide_eq_false hne, Bool.not_false, ifK_t]
    exact ⟨H2, n2, rfl, by omega, hk.trans e3 (by omega)⟩
  · intro he
    have good := good_of he
    have hb2 := hb.keep e3 (by omega)
    rw [decide_eq_true he, Bool.not_true, ifK_f, bindO_some, lg H2 hb2, bindO_some, build117, bindO_some, boxK_eq]
    simp only [cellsV, ptr]
    have kk : Keep n H H2 := hk.trans e3 (by omega)
    have hf : CellsF (H2.set n2 (some (.cells (x :: y :: z :: (List.replicate 64 (.bool false) ++ List.replicate 792 (.int .i64 0))) 117 false none))) n2 859 117 (site0 x y z) := CellsF.new (by simp) _ (site0_at x y z)
    have kk2 : Keep n H (H2.set n2 (some (.cells (x :: y :: z :: (List.replicate 64 (.bool false) ++ List.replicate 792 (.int .i64 0))) 117 false none))) := kk.set (by omega) _
    generalize H2.set n2 (some (.cells (x :: y :: z :: (List.replicate 64 (.bool false) ++ List.replicate 792 (.int .i64 0))) 117 false none)) = H3 at hf kk2 ⊢
    have ly : loadV P H3 32 ⟨n2, 0 + 0 + 1, none⟩ = some y := hf.load (P := P) (k := 1) agg32 (by omega)
    have ey : lenV P 32 y = some (.int .i64 nj) := h2.len_eq und32
    rw [nil_ptr, bindO_some, fa117_0, bindO_some, fa35_1, bindO_some, addrV_eq, bindO_some, ly, bindO_some, ey, bindO_some, ← hS]
    have hlx : lenV P 31 x = some (.int .i64 np) := h1.len_eq und31
    refine near_loop61 (cal (l + 5)) KK n2 np nj js x y z good.np8 hnj (good.joins h2.1) (fun r => Opened r n H (.agg ⟨[x, y, z]⟩) np nj nk js ks) H n (by omega) h2
      (fun H4 n4 f4 q1 q2 q3 q4 q5 _ => nests_loop2 l KK n2 np nj nk js ks x y z good.np8 good.nk3 good.kinds (fun r => Opened r n H (.agg ⟨[x, y, z]⟩) np nj nk js ks) H n (by omega) h3 hlx
        (fun H5 n5 f5 p1 p2 p3 p4 p5 p6 => ⟨n2, x, y, z, f5, H5, n5, rfl, by omega, p3, by omega, p2, rfl, p4, p5, p6⟩) KK 0 H4 n4 f4 q1 q2 q3 q4 q5 (fun p kd _ _ h => by omega) (by omega) (by have := good.np8; unfold KK; omega)) hlx
      KK 0 H3 (n2 + 1) (site0 x y z) (by omega) (by omega) kk2 hf ⟨rfl, rfl, rfl, fun a b ha hb => ?_⟩ (by omega) (by unfold KK; omega)
    unfold site0
    rw [if_neg (by omega), if_neg (by omega), if_neg (by omega), if_pos (by omega), nearB_zero]
theorem flat61 : flatF P 61 = false := by kernel_rfl
theorem call61 (l : Nat) (a : Value) (H : Hp) (n : Nat) : (cal (l + 1)).call 61 [a] H n = C61_0 (cal l) KK a H n := by kernel_rfl
theorem open_call (l : Nat) (v : Value) (H : Hp) (n : Nat) (k : Value → Hp → Nat → Option ρ) : callFK P (cal (l + 6)) 61 [v] H n k = bindO (C61_0 (cal (l + 5)) KK v H n) fun r => k r.1 r.2.1 r.2.2 := by
  unfold callFK
  rw [flat61, call61]
  rfl
end Go.Proofs.Ytekajfobmnedjaa.spec
end
section
namespace Go.Ev
open Go
variable {P : Program} {t t2 e e2 : TypeId} {ρ : Type}
theorem loadN_all {H : Hp} {b o : Nat} {L : List Value} (h : CellsAt H b o L) (hn : L.all noHole = true) {m : Nat} (hm : L.length = m) : loadN H ⟨b, o, none⟩ m = some L := by
  have := loadN_at (s := m) (k := 0) h (by omega) hn
  rw [Nat.add_zero] at this
  rw [this, take_all _ _ hm]
end Go.Ev
end
section
namespace Go.Proofs.Ytekajfobmnedjaa.spec
open Go Go.Ev Go.Proofs.Ytekajfobmnedjaa.nestFits Go.Proofs.Ytekajfobmnedjaa.G
set_option maxRecDepth 100000
variable {ρ : Type}
noncomputable def fitD (js ks : List Int) (nj np p kd : Nat) : Bool := decide (total (shP js ks nj np p kd) 0 ≤ ks.getD (kd * 5) 0 ∧ ks.getD (kd * 5) 0 ≤ total (shP js ks nj np p kd) 1)
theorem shP_len (js ks : List Int) (nj np p kd : Nat) : (shP js ks nj np p kd).length = 16 := sharesL_len ..
theorem shP_bounded {js ks : List Int} {nj np nk p kd : Nat} (hks : KindsOk ks nk) (hkd : kd < nk) (hnp : np ≤ 8) (hp : p < np) : Bounded (shP js ks nj np p kd) := by
  obtain ⟨_, h2, h3⟩ := hks kd hkd
  exact sharesL_bounded hnp (by omega) h2 h3
theorem nest_load {H : Hp} {g np nj p kd : Nat} {f : Nat → Value} {js ks : List Int} (hf : CellsF H g 859 117 f) (hn : NestAt f js ks nj np p kd) (hp : p < 8) (hkd : kd < 3) :
    ∃ B, BoundsTo (ks.getD (kd * 5) 0) (shP js ks nj np p kd) B 8 ∧ loadV P H 113 ⟨g, 0 + 67 + p * 99 + kd * 33, none⟩ = some (.agg ⟨ints (nestL (ks.getD (kd * 5) 0) (shP js ks nj np p kd) B)⟩) := by
  obtain ⟨B, hB, hj⟩ := hn
  refine ⟨B, hB, ?_⟩
  rw [hf.load_agg (k := 0 + 67 + p * 99 + kd * 33) agg113 sz113 (by omega)]
  have lens : (nestL (ks.getD (kd * 5) 0) (shP js ks nj np p kd) B).length = 33 := nest_cells (shP_len ..) hB.1
  have e : (List.range 33).map (fun j => f (0 + 67 + p * 99 + kd * 33 + j)) = ints (nestL (ks.getD (kd * 5) 0) (shP js ks nj np p kd) B) := by
    apply List.ext_getElem?
    intro j
    by_cases h : j < 33
    · rw [List.getElem?_map, List.getElem?_range h, ints_get (getD_some (by omega))]
      simp only [Option.map_some]
      rw [show 0 + 67 + p * 99 + kd * 33 + j = 67 + p * 99 + kd * 33 + j by omega, hj j h]
    · rw [List.getElem?_eq_none (by simp; omega), List.getElem?_eq_none (by rw [ints_length]; omega)]
  rw [e]
end Go.Proofs.Ytekajfobmnedjaa.spec
end
section
namespace Go.Proofs.Ytekajfobmnedjaa.spec
open Go Go.Ev Go.Proofs.Ytekajfobmnedjaa.nestFits Go.Proofs.Ytekajfobmnedjaa.G
set_option maxRecDepth 100000
variable {ρ : Type}
end Go.Proofs.Ytekajfobmnedjaa.spec
end
section
namespace Go.Proofs.Ytekajfobmnedjaa.spec
open Go Go.Ev Go.Proofs.Ytekajfobmnedjaa.nestFits Go.Proofs.Ytekajfobmnedjaa.G
set_option maxRecDepth 100000
variable {ρ : Type}
def ListR (H : Hp) (n : Nat) (v : Value) (len : Nat) (xs : List Int) : Prop := xs.length = len ∧ (∀ x ∈ xs, I64 x) ∧
  ((v = .slice none 0 0 ∧ len = 0) ∨ ∃ b o cap, v = .slice (some ⟨b, o, none⟩) len cap ∧ b < n ∧ CellsAt H b o (ints xs))
theorem ListR.keep {H H' : Hp} {n m len : Nat} {v : Value} {xs : List Int} (h : ListR H n v len xs) (hk : Keep n H H') (hm : n ≤ m) : ListR H' m v len xs := by
  obtain ⟨h1, h2, h3⟩ := h
  refine ⟨h1, h2, ?_⟩
  rcases h3 with h3 | ⟨b, o, cap, e, a, c⟩
  · exact .inl h3
  · exact .inr ⟨b, o, cap, e, by omega, c.keep hk a⟩
theorem sl44 : sliceElem P 44 = some 3 := by kernel_rfl
theorem sz3 : szT P 3 = some 1 := by kernel_rfl
theorem by3 : bytesT P 3 = some 8 := by kernel_rfl
theorem zero3 : zeroT P 3 = some (.int .i64 0) := by kernel_rfl
theorem ListR.src {H : Hp} {n len : Nat} {v : Value} {xs : List Int} (h : ListR H n v len xs) : srcCells H 1 v = some (ints xs, len) := by
  obtain ⟨h1, _, h3⟩ := h
  rcases h3 with ⟨rfl, rfl⟩ | ⟨b, o, cap, rfl, a, c⟩
  · have : xs = [] := List.length_eq_zero_iff.1 h1
    subst this; rfl
  · unfold srcCells
    simp only [loadN_all c (ints_noHole _) (show (ints xs).length = len * 1 by rw [ints_length, h1, Nat.mul_one])]
theorem row44_0 : rowOf P 44 0 [] = some ([], 3) := by kernel_rfl
end Go.Proofs.Ytekajfobmnedjaa.spec
end
section
namespace Go.Proofs.Ytekajfobmnedjaa.spec
open Go Go.Ev Go.Proofs.Ytekajfobmnedjaa.nestFits Go.Proofs.Ytekajfobmnedjaa.G
set_option maxRecDepth 100000
variable {ρ : Type}
theorem und121 : P.underlying 121 = some (.array 8 3) := by kernel_rfl
theorem agg121 : isAggT P 121 = some true := by kernel_rfl
theorem sz121 : szT P 121 = some 8 := by kernel_rfl
theorem zero121 : zeroT P 121 = some (.agg ⟨ints (List.replicate 8 0)⟩) := by kernel_rfl
noncomputable def valR (r : Res) : Option Value := match r with
  | some (v, _, _) => some v
  | none => none
theorem valR_some {r : Res} {v : Value} (h : valR r = some v) : ∃ H n, r = some (v, H, n) := by
  unfold valR at h
  split at h
  · cases h; exact ⟨_, _, rfl⟩
  · cases h
theorem bare_run (c : Cal) : valR (C101_0 c KK .nil 0) = some (.agg ⟨ints (List.replicate 8 (-1))⟩) := by kernel_rfl
theorem flat101 : flatF P 101 = true := by kernel_rfl
theorem call101 (l : Nat) (H : Hp) (n : Nat) : (cal (l + 1)).call 101 [] H n = C101_0 (cal l) KK H n := by kernel_rfl
theorem bare_call (l : Nat) (H : Hp) (n : Nat) (k : Value → Hp → Nat → Option ρ) : callFK P (cal (l + 1)) 101 [] H n k = k (.agg ⟨ints (List.replicate 8 (-1))⟩) H n := by
  obtain ⟨H', n', e⟩ := valR_some (bare_run (cal l))
  refine callFK_pure flat101 rfl ((call101 ..).trans e) ?_
  simp only [pureV, pureA, pure_ints]
def takesP (js ks : List Int) (nj np nk p : Nat) (kind : Int) : Prop := 0 ≤ kind ∧ kind < nk ∧ fitD js ks nj np p kind.toNat = true
theorem takes_spec (l : Nat) {H : Hp} {n g np nj nk p : Nat} {f : Nat → Value} {js ks : List Int} {x y z : Value} (hf : CellsF H g 859 117 f) (hs : SiteF f x y z js nj) (hz : lenV P 33 z = some (.int .i64 nk)) (hn : ∀ p kd, p < np → kd < nk → NestAt f js ks nj np p kd) (hks : KindsOk ks nk) (hnp : np ≤ 8) (hnk : nk ≤ 3) (hp : p < np) (kind : Int) :
    ∃ r, C102_0 (cal (l + 3)) KK (.pointer (some ⟨g, 0, none⟩)) (.int .i64 p) (.int .i64 kind) H n = some (.bool r, H, n) ∧ (r = true ↔ takesP js ks nj np nk p kind) := by
  unfold C102_0 B102_0
  have lz : loadV P H 33 ⟨g, 0 + 0 + 2, none⟩ = some z := by
    have := hf.load (P := P) (k := 2) agg33 (by omega)
    rw [hs.z] at this; exact this
  rw [binK_some bin_geq]
  unfold takesP
  cases c1 : decide (0 ≤ kind) with
  | false =>
    simp only [guardK_ft, guardK_u, pickV_f, bindO_some]
    exact ⟨false, rfl, ⟨fun h => (by cases h), fun h => absurd h.1 (of_decide_eq_false c1)⟩⟩
  | true =>
    have h0 := of_decide_eq_true c1
    simp only [guardK_tt, nil_ptr, bindO_some, fa117_0, fa35_2, addrV_eq, lz, hz, binK_some bin_lss, pickV_t]
    cases c2 : decide (kind < (nk : Int)) with
    | false =>
      simp only [guardK_ft, guardK_u, pickV_f, bindO_some]
      exact ⟨false, rfl, ⟨fun h => (by cases h), fun h => absurd h.2.1 (of_decide_eq_false c2)⟩⟩
    | true =>
      have h1 := of_decide_eq_true c2
      obtain ⟨kd, rfl⟩ : ∃ kd : Nat, kind = kd := ⟨kind.toNat, by omega⟩
      have hkd : kd < nk := by omega
      obtain ⟨B, hB, ln⟩ := nest_load hf (hn p kd hp hkd) (by omega) (by omega)
      simp only [guardK_tt, nil_ptr, bindO_some, fa117_2, at115 _ _ (show p < 8 by omega), at114 _ _ (show kd < 3 by omega), addrV_eq, ln, fit_call l (shP_len ..) hB.1 (shP_bounded hks hkd hnp hp), pickV_t]
      refine ⟨_, rfl, ?_⟩
      have e : fitD js ks nj np p (kd : Int).toNat = fitD js ks nj np p kd := by rw [Int.toNat_natCast]
      rw [e]
      unfold fitD
      exact ⟨fun h => ⟨h0, h1, h⟩, fun h => h.2.2⟩
theorem call102 (l : Nat) (a b c : Value) (H : Hp) (n : Nat) : (cal (l + 1)).call 102 [a, b, c] H n = C102_0 (cal l) KK a b c H n := by kernel_rfl
theorem takes_call (l : Nat) {H : Hp} {n g np nj nk p : Nat} {f : Nat → Value} {js ks : List Int} {x y z : Value} (hf : CellsF H g 859 117 f) (hs : SiteF f x y z js nj) (hz : lenV P 33 z = some (.int .i64 nk)) (hn : ∀ p kd, p < np → kd < nk → NestAt f js ks nj np p kd) (hks : KindsOk ks nk) (hnp : np ≤ 8) (hnk : nk ≤ 3) (hp : p < np) (kind : Int) :
    ∃ r : Bool, (r = true ↔ takesP js ks nj np nk p kind) ∧ ∀ k : Value → Hp → Nat → Option ρ, callFK P (cal (l + 4)) 102 [.pointer (some ⟨g, 0, none⟩), .int .i64 p, .int .i64 kind] H n k = k (.bool r) H n := by
  obtain ⟨r, e, h⟩ := takes_spec l (n := n) hf hs hz hn hks hnp hnk hp kind
  refine ⟨r, h, fun k => ?_⟩
  unfold callFK
  have : (flatF P 102 && pureL [.pointer (some ⟨g, 0, none⟩), .int .i64 p, .int .i64 kind]) = false := by rw [Bool.and_eq_false_iff]; exact .inr rfl
  rw [this, call102, e]
  rfl
theorem index121 {L : List Int} (hL : L.length = 8) {i : Nat} (hi : i < 8) : indexV P 121 (.agg ⟨ints L⟩) (.int .i64 i) = some (.int .i64 (L.getD i 0)) := by
  unfold indexV
  have a3 : isAggT P 3 = some false := agg3
  simp only [und121, idx_lt hi, sz3, partV, a3]
  rw [Nat.mul_one]
  exact ints_get (getD_some (by omega))
def laidL (ls : List Int) (np : Nat) : List Int := ls ++ List.replicate (8 - np) (-1)
theorem laidL_len {ls : List Int} {np : Nat} (h : ls.length = np) (hnp : np ≤ 8) : (laidL ls np).length = 8 := by unfold laidL; simp [h]; omega
theorem laidL_in {ls : List Int} {np p : Nat} (h : ls.length = np) (hp : p < np) : (laidL ls np).getD p 0 = ls.getD p 0 := by
  unfold laidL
  rw [List.getD_eq_getElem?_getD, List.getElem?_append_left (by omega), ← List.getD_eq_getElem?_getD]
theorem laidL_out {ls : List Int} {np p : Nat} (h : ls.length = np) (hp : np ≤ p) (hp8 : p < 8) : (laidL ls np).getD p 0 = -1 := by
  unfold laidL
  rw [List.getD_eq_getElem?_getD, List.getElem?_append_right (by omega), List.getElem?_replicate, if_pos (by omega)]
  rfl
def laidOk (js ks ls : List Int) (nj np nk : Nat) : Prop := ∀ p, p < np → ls.getD p 0 = -1 ∨ takesP js ks nj np nk p (ls.getD p 0)
end Go.Proofs.Ytekajfobmnedjaa.spec
end
section
namespace Go.Proofs.Ytekajfobmnedjaa.spec
open Go Go.Ev Go.Proofs.Ytekajfobmnedjaa.nestFits Go.Proofs.Ytekajfobmnedjaa.G
set_option maxRecDepth 100000
variable {ρ : Type}
end Go.Proofs.Ytekajfobmnedjaa.spec
end
section
namespace Go.Ev
open Go
variable {P : Program} {ρ : Type}
theorem splice_one {a : Int} : ∀ {X : List Int} {o : Nat}, o < X.length → splice (ints X) o [.int .i64 a] = some (ints (X.set o a))
  | [], _, h => by simp at h
  | x :: X, 0, _ => by
    unfold splice
    cases X <;> simp [ints, splice.over]
  | x :: X, o + 1, h => by
    have ih := splice_one (a := a) (X := X) (o := o) (by simpa using h)
    unfold splice
    simp only [ints, List.map_cons, List.set_cons_succ] at ih ⊢
    rw [ih]
theorem store_one {a : Int} {X : List Int} {o g : Nat} {H : Hp} {e : TypeId} {vec : Option Nat} (h : H.get g = some (.cells (ints X) e false vec)) (ho : o < X.length) :
    storeN H ⟨g, o, none⟩ [.int .i64 a] = some (H.set g (some (.cells (ints (X.set o a)) e false vec))) := by
  unfold storeN
  simp only [h, splice_one ho]
  rfl
end Go.Ev
end
section
namespace Go.Proofs.Ytekajfobmnedjaa.spec
open Go Go.Ev Go.Proofs.Ytekajfobmnedjaa.nestFits Go.Proofs.Ytekajfobmnedjaa.G
set_option maxRecDepth 100000
variable {ρ : Type}
theorem res103 (H : Hp) (b : Nat) : resV P (Tr.set Tr.nil 4 (some (.pointer (some ⟨b, 0, none⟩)))) H results103 = (match loadV P H 111 ⟨b, 0, none⟩ with
  | none => none
  | some v => some [v]) := by kernel_rfl
def Mild (X : List Int) : Prop := ∀ k : Nat, -1000000 ≤ X.getD k 0 ∧ X.getD k 0 ≤ 1000000
structure PlusTo (X Y Z : List Int) (i : Nat) : Prop where
  len : Z.length = 16
  below : ∀ p, p < i → Z.getD (p * 2) 0 = X.getD (p * 2) 0 + Y.getD (p * 2) 0 ∧ Z.getD (p * 2 + 1) 0 = X.getD (p * 2 + 1) 0 + Y.getD (p * 2 + 1) 0
  above : ∀ p, i ≤ p → Z.getD (p * 2) 0 = X.getD (p * 2) 0 ∧ Z.getD (p * 2 + 1) 0 = X.getD (p * 2 + 1) 0
theorem load_int_at {H : Hp} {g o : Nat} {X : List Int} {e : TypeId} {ro : Bool} {vec : Option Nat} (h : H.get g = some (.cells (ints X) e ro vec)) (ho : o < X.length) : loadV P H 3 ⟨g, o, none⟩ = some (.int .i64 (X.getD o 0)) := by
  have := loadV_int (P := P) (t := 3) (o := 0) (k := o) (cells_at h) agg3 (ints_get (getD_some ho))
  rw [Nat.zero_add] at this
  exact this
theorem plus_loop (c : Cal) (k : Nat) {X Y : List Int} (hY : Y.length = 16) (mX : Mild X) (mY : Mild Y) (b2 b4 : Nat) (hne : b2 ≠ b4) : ∀ (m i : Nat) (Z : List Int) (H : Hp) (n : Nat), b2 < n → b4 < n → H.get b2 = some (.cells (ints Z) 111 false none) → (∃ w, H.get b4 = some (.cells w 111 false none) ∧ w.length = 16) → PlusTo X Y Z i → i ≤ 8 → 8 - i ≤ m →
    ∃ Z' H' n', S103_1 c k m (.pointer (some ⟨b2, 0, none⟩)) (.pointer (some ⟨b4, 0, none⟩)) (.agg ⟨ints Y⟩) (.int .i64 i) H n = some (.agg ⟨ints Z'⟩, H', n') ∧ PlusTo X Y Z' 8 := by
  have body : ∀ (b1 : Value → Value → Value → Value → Hp → Nat → Res) (m i : Nat) (Z : List Int) (H : Hp) (n : Nat), b2 < n → b4 < n → H.get b2 = some (.cells (ints Z) 111 false none) → (∃ w, H.get b4 = some (.cells w 111 false none) ∧ w.length = 16) → PlusTo X Y Z i → i ≤ 8 →
      (∀ Z2 H2 n2, b2 < n2 → b4 < n2 → H2.get b2 = some (.cells (ints Z2) 111 false none) → (∃ w, H2.get b4 = some (.cells w 111 false none) ∧ w.length = 16) → PlusTo X Y Z2 (i + 1) → i < 8 →
        ∃ Z' H' n', b1 (.pointer (some ⟨b2, 0, none⟩)) (.pointer (some ⟨b4, 0, none⟩)) (.agg ⟨ints Y⟩) (.int .i64 ((i + 1 : Nat) : Int)) H2 n2 = some (.agg ⟨ints Z'⟩, H', n') ∧ PlusTo X Y Z' 8) →
      ∃ Z' H' n', C103_1 c k m b1 (.pointer (some ⟨b2, 0, none⟩)) (.pointer (some ⟨b4, 0, none⟩)) (.agg ⟨ints Y⟩) (.int .i64 i) H n = some (.agg ⟨ints Z'⟩, H', n') ∧ PlusTo X Y Z' 8 := by
    intro b1 m i Z H n hb2 hb4 hg2 hg4 hZ hi ih
    have lZ := hZ.len
    unfold C103_1 B103_1
    rw [binK_some bin_lss, ifK_d]
    by_cases hlt : i < 8
    · obtain ⟨g1, g2⟩ := ints_take (xs := Y) (i := i) (s := 2) (by omega)
      obtain ⟨H1, k1, k2, k3⟩ := spill (P := P) (ρ := Value × Hp × Nat) (H := H) (n := n) zero53 rfl sz53 g1 g2
      rw [if_pos (by omega), index_row hY hlt, bindO_some, k3]
      rw [two_at (show i * 2 + 2 ≤ Y.length by omega)] at k2
      have q2 : H1.get b2 = some (.cells (ints Z) 111 false none) := (k1 b2 hb2).trans hg2
      obtain ⟨a1, a2⟩ := hZ.above i (Nat.le_refl _)
      have z0 : loadV P H1 3 ⟨b2, 0 + i * 2 + 0, none⟩ = some (.int .i64 (X.getD (i * 2) 0)) := by rw [show 0 + i * 2 + 0 = i * 2 by omega, load_int_at q2 (by omega), a1]
      have y0 : loadV P H1 3 ⟨n, 0 + 0, none⟩ = some (.int .i64 (Y.getD (i * 2) 0)) := loadV_int (cells_at k2) agg3 rfl
      obtain ⟨m1, m2⟩ := mX (i * 2)
      obtain ⟨m3, m4⟩ := mY (i * 2)
      obtain ⟨m5, m6⟩ := mX (i * 2 + 1)
      obtain ⟨m7, m8⟩ := mY (i * 2 + 1)
      have hI0 : I64 (X.getD (i * 2) 0 + Y.getD (i * 2) 0) := by unfold I64; omega
      have hI1 : I64 (X.getD (i * 2 + 1) 0 + Y.getD (i * 2 + 1) 0) := by unfold I64; omega
      have hI : I64 ((i : Int) + 1) := by unfold I64; omega
      have hcast : ((i : Int) + 1) = ((i + 1 : Nat) : Int) := by omega
      have s0 := store_one (a := X.getD (i * 2) 0 + Y.getD (i * 2) 0) (o := 0 + i * 2 + 0) q2 (by omega)
      have q3 : (H1.set b2 (some (.cells (ints (Z.set (0 + i * 2 + 0) (X.getD (i * 2) 0 + Y.getD (i * 2) 0))) 111 false none))).get b2 = some (.cells (ints (Z.set (0 + i * 2 + 0) (X.getD (i * 2) 0 + Y.getD (i * 2) 0))) 111 false none) := by rw [Tr.get_set, if_pos rfl]
      have q4 : ∀ b, b ≠ b2 → (H1.set b2 (some (.cells (ints (Z.set (0 + i * 2 + 0) (X.getD (i * 2) 0 + Y.getD (i * 2) 0))) 111 false none))).get b = H1.get b := fun b hb => by rw [Tr.get_set, if_neg hb]
      generalize H1.set b2 (some (.cells (ints (Z.set (0 + i * 2 + 0) (X.getD (i * 2) 0 + Y.getD (i * 2) 0))) 111 false none)) = H2 at s0 q3 q4
      have z1 : loadV P H2 3 ⟨b2, 0 + i * 2 + 1, none⟩ = some (.int .i64 (X.getD (i * 2 + 1) 0)) := by
        rw [load_int_at q3 (by simp; omega), List.getD_eq_getElem?_getD, List.getElem?_set, if_neg (by omega), ← List.getD_eq_getElem?_getD, show 0 + i * 2 + 1 = i * 2 + 1 by omega, a2]
      have y1 : loadV P H2 3 ⟨n, 0 + 1, none⟩ = some (.int .i64 (Y.getD (i * 2 + 1) 0)) := loadV_int (cells_at ((q4 n (by omega)).trans k2)) agg3 rfl
      have s1 := store_one (a := X.getD (i * 2 + 1) 0 + Y.getD (i * 2 + 1) 0) (o := 0 + i * 2 + 1) q3 (by simp; omega)
      simp only [at111 b2 0 hlt, bindO_some, fa53_0, fa53_1, addrV_eq, z0, y0, binK_some (bin_add hI0), storeP_leaf sz3 (show leafV (.int .i64 _) = true from rfl), s0, z1, y1, binK_some (bin_add hI1), s1, binK_some (bin_add hI), hcast]
      obtain ⟨w, w1, w2⟩ := hg4
      refine ih _ _ (n + 1) (by omega) (by omega) (by rw [Tr.get_set, if_pos rfl]) ⟨w, by rw [Tr.get_set, if_neg (Ne.symm hne), q4 _ (Ne.symm hne), k1 b4 hb4]; exact w1, w2⟩ ?_ hlt
      have e0 : 0 + i * 2 + 0 = i * 2 := by omega
      have e1 : 0 + i * 2 + 1 = i * 2 + 1 := by omega
      rw [e0, e1]
      refine ⟨by rw [set_two_len]; exact lZ, fun p hp => ?_, fun p hp => ?_⟩
      · obtain ⟨t1, t2⟩ := set_two_get (q := p) lZ hlt (X.getD (i * 2) 0 + Y.getD (i * 2) 0) (X.getD (i * 2 + 1) 0 + Y.getD (i * 2 + 1) 0)
        rw [t1, t2]
        by_cases e : p = i
        · subst e; rw [if_pos rfl, if_pos rfl]; exact ⟨rfl, rfl⟩
        · rw [if_neg e, if_neg e]; exact hZ.below p (by omega)
      · obtain ⟨t1, t2⟩ := set_two_get (q := p) lZ hlt (X.getD (i * 2) 0 + Y.getD (i * 2) 0) (X.getD (i * 2 + 1) 0 + Y.getD (i * 2 + 1) 0)
        rw [t1, t2, if_neg (by omega), if_neg (by omega)]
        exact hZ.above p (by omega)
    · have hi' : i = 8 := by omega
      subst hi'
      obtain ⟨w, w1, w2⟩ := hg4
      have lens : (ints Z).length = 16 := by rw [ints_length, lZ]
      rw [if_neg (by omega), addrV_eq, bindO_some, load_all hg2 agg111 sz111 lens, bindO_some, storeP_agg sz111 lens, storeN_all w1 (by rw [lens, w2]) (ints_leaf _), bindO_some, res103,
        load_all (t := 111) (s := 16) (L := ints Z) (e := 111) (vec := none) (by rw [Tr.get_set, if_pos rfl]) agg111 sz111 lens]
      exact ⟨Z, _, _, rfl, hZ⟩
  intro m
  induction m with
  | zero =>
    intro i Z H n h1 h2 h3 h4 h5 h6 h7
    exact body _ 0 i Z H n h1 h2 h3 h4 h5 h6 (fun _ _ _ _ _ _ _ _ h => by omega)
  | succ m ih =>
    intro i Z H n h1 h2 h3 h4 h5 h6 h7
    exact body _ (m + 1) i Z H n h1 h2 h3 h4 h5 h6 (fun Z2 H2 n2 q1 q2 q3 q4 q5 q6 => ih (i + 1) Z2 H2 n2 q1 q2 q3 q4 q5 (by omega) (by omega))
theorem plus_spec (c : Cal) {X Y : List Int} (hX : X.length = 16) (hY : Y.length = 16) (mX : Mild X) (mY : Mild Y) :
    ∃ Z H' n', C103_0 c KK (.agg ⟨ints X⟩) (.agg ⟨ints Y⟩) .nil 0 = some (.agg ⟨ints Z⟩, H', n') ∧ PlusTo X Y Z 8 := by
  unfold C103_0 B103_0
  generalize hS : S103_1 c KK KK = S
  rw [boxK_eq, boxK_eq, allocK_eq zero111]
  simp only [cellsV, ptr]
  have g0 : ((((Tr.nil : Hp).set 0 (some (.cells (ints X) 111 false none))).set (0 + 1) (some (.cells (ints Y) 111 false none))).set (0 + 1 + 1) (some (.cells (ints (List.replicate 16 0)) 111 false none))).get 0 = some (.cells (ints X) 111 false none) := by rw [Tr.get_set, if_neg (by omega), Tr.get_set, if_neg (by omega), Tr.get_set, if_pos rfl]
  have g1 : ((((Tr.nil : Hp).set 0 (some (.cells (ints X) 111 false none))).set (0 + 1) (some (.cells (ints Y) 111 false none))).set (0 + 1 + 1) (some (.cells (ints (List.replicate 16 0)) 111 false none))).get (0 + 1) = some (.cells (ints Y) 111 false none) := by rw [Tr.get_set, if_neg (by omega), Tr.get_set, if_pos rfl]
  have g2 : ((((Tr.nil : Hp).set 0 (some (.cells (ints X) 111 false none))).set (0 + 1) (some (.cells (ints Y) 111 false none))).set (0 + 1 + 1) (some (.cells (ints (List.replicate 16 0)) 111 false none))).get (0 + 1 + 1) = some (.cells (ints (List.replicate 16 0)) 111 false none) := by rw [Tr.get_set, if_pos rfl]
  generalize (((Tr.nil : Hp).set 0 (some (.cells (ints X) 111 false none))).set (0 + 1) (some (.cells (ints Y) 111 false none))).set (0 + 1 + 1) (some (.cells (ints (List.replicate 16 0)) 111 false none)) = H1 at g0 g1 g2 ⊢
  rw [addrV_eq, bindO_some, load_all g1 agg111 sz111 (by rw [ints_length, hY]), bindO_some, ← hS]
  exact plus_loop c KK hY mX mY 0 (0 + 1 + 1) (by omega) KK 0 X H1 (0 + 1 + 1 + 1) (by omega) (by omega) g0 ⟨_, g2, rfl⟩ ⟨hX, fun p hp => by omega, fun p _ => ⟨rfl, rfl⟩⟩ (by omega) (by unfold KK; omega)
theorem flat103 : flatF P 103 = true := by kernel_rfl
theorem call103 (l : Nat) (a b : Value) (H : Hp) (n : Nat) : (cal (l + 1)).call 103 [a, b] H n = C103_0 (cal l) KK a b H n :=
  (show (cal (l + 1)).call 103 [a, b] H n = quick ent103 (cal l) [a, b] H n by kernel_rfl).trans (quick_eq ..)
theorem plus_call (l : Nat) {X Y : List Int} (hX : X.length = 16) (hY : Y.length = 16) (mX : Mild X) (mY : Mild Y) : ∃ Z, PlusTo X Y Z 8 ∧ ∀ (H : Hp) (n : Nat) (k : Value → Hp → Nat → Option ρ),
    callFK P (cal (l + 1)) 103 [.agg ⟨ints X⟩, .agg ⟨ints Y⟩] H n k = k (.agg ⟨ints Z⟩) H n := by
  obtain ⟨Z, H', n', e, hZ⟩ := plus_spec (cal l) hX hY mX mY
  refine ⟨Z, hZ, fun H n k => callFK_pure flat103 ?_ ((call103 ..).trans e) ?_⟩
  · simp only [pureL, pureV, pureA, pure_ints, Bool.and_self]
  · simp only [pureV, pureA, pure_ints]
end Go.Proofs.Ytekajfobmnedjaa.spec
end
section
namespace Go.Proofs.Ytekajfobmnedjaa.spec
open Go Go.Ev Go.Proofs.Ytekajfobmnedjaa.nestFits Go.Proofs.Ytekajfobmnedjaa.G
set_option maxRecDepth 100000
variable {ρ : Type}
theorem flat74 : flatF P 74 = false := by kernel_rfl
theorem call74 (l : Nat) (a b : Value) (H : Hp) (n : Nat) : (cal (l + 1)).call 74 [a, b] H n = C74_0 (cal l) KK a b H n := by kernel_rfl
theorem call104 (l : Nat) (a b c : Value) (H : Hp) (n : Nat) : (cal (l + 1)).call 104 [a, b, c] H n = C104_0 (cal l) KK a b c H n := by kernel_rfl
theorem placed_call (l : Nat) (g : Nat) {L : List Int} (H : Hp) (n : Nat) (k : Value → Hp → Nat → Option ρ) : callFK P (cal (l + 1)) 74 [.pointer (some ⟨g, 0, none⟩), .agg ⟨ints L⟩] H n k =
    k (.func (.func 104) ⟨[]⟩ ⟨[.pointer (some ⟨n + 1, 0, none⟩), .pointer (some ⟨n, 0, none⟩)]⟩) ((H.set n (some (.cells [.pointer (some ⟨g, 0, none⟩)] 105 false none))).set (n + 1) (some (.cells (ints L) 121 false none))) (n + 2) := by
  unfold callFK
  rw [flat74, call74]
  rfl
end Go.Proofs.Ytekajfobmnedjaa.spec
end
section
namespace Go.Proofs.Ytekajfobmnedjaa.spec
open Go Go.Ev Go.Proofs.Ytekajfobmnedjaa.nestFits Go.Proofs.Ytekajfobmnedjaa.G
set_option maxRecDepth 100000
variable {ρ : Type}
def KindsIn (L : List Int) (np nk : Nat) : Prop := ∀ i, i < 8 → L.getD i 0 = -1 ∨ (i < np ∧ ∃ kd : Nat, kd < nk ∧ L.getD i 0 = kd)
theorem iter104_loop (c : Cal) (k : Nat) (yv : Value) (sb g np nj nk : Nat) (js ks L : List Int) (hL : L.length = 8) (hK : KindsIn L np nk) (hnp : np ≤ 8) (hnk : nk ≤ 3) (Inv : Nat → Hp → Nat → Prop)
    (hR : ∀ i H n, Inv i H n → loadV P H 105 ⟨sb, 0, none⟩ = some (.pointer (some ⟨g, 0, none⟩)) ∧ ∀ p kd, p < np → kd < nk → ∃ B, BoundsTo (ks.getD (kd * 5) 0) (shP js ks nj np p kd) B 8 ∧ loadV P H 113 ⟨g, 0 + 67 + p * 99 + kd * 33, none⟩ = some (.agg ⟨ints (nestL (ks.getD (kd * 5) 0) (shP js ks nj np p kd) B)⟩))
    (hY : ∀ (i : Nat) (H : Hp) (n kd : Nat) (B : List Int), Inv i H n → i < np → kd < nk → L.getD i 0 = kd → BoundsTo (ks.getD (kd * 5) 0) (shP js ks nj np i kd) B 8 →
      ∃ H' n', (∀ k : Value → Hp → Nat → Res, callVK P c yv [.int .i64 i, .agg ⟨ints (nestL (ks.getD (kd * 5) 0) (shP js ks nj np i kd) B)⟩] H n k = k (.bool true) H' n') ∧ Inv (i + 1) H' n')
    (hSkip : ∀ (i : Nat) (H : Hp) (n : Nat), Inv i H n → L.getD i 0 = -1 → Inv (i + 1) H n) : ∀ (m i : Nat) (H : Hp) (n : Nat), Inv i H n → i ≤ 8 → 8 - i ≤ m →
    ∃ H' n', S104_1 c k m yv (.pointer (some ⟨sb, 0, none⟩)) (.agg ⟨ints L⟩) (.int .i64 i) H n = some (.tuple ⟨[]⟩, H', n') ∧ Inv 8 H' n' := by
  have body : ∀ (b1 : Value → Value → Value → Value → Hp → Nat → Res) (m i : Nat) (H : Hp) (n : Nat), Inv i H n → i ≤ 8 →
      (∀ H' n', Inv (i + 1) H' n' → i < 8 → ∃ H2 n2, b1 yv (.pointer (some ⟨sb, 0, none⟩)) (.agg ⟨ints L⟩) (.int .i64 ((i + 1 : Nat) : Int)) H' n' = some (.tuple ⟨[]⟩, H2, n2) ∧ Inv 8 H2 n2) →
      ∃ H' n', C104_1 c k m b1 yv (.pointer (some ⟨sb, 0, none⟩)) (.agg ⟨ints L⟩) (.int .i64 i) H n = some (.tuple ⟨[]⟩, H', n') ∧ Inv 8 H' n' := by
    intro b1 m i H n hI hi ih
    unfold C104_1 B104_1
    rw [binK_some bin_lss, ifK_d]
    by_cases hlt : i < 8
    · have hI1 : I64 ((i : Int) + 1) := by unfold I64; omega
      have hcast : ((i : Int) + 1) = ((i + 1 : Nat) : Int) := by omega
      rw [if_pos (by omega), index121 hL hlt, bindO_some, binK_some bin_neq]
      rcases hK i hlt with h | ⟨hip, kd, hkd, h⟩
      · have hd : decide (L.getD i 0 = -1) = true := decide_eq_true h
        simp only [hd, Bool.not_true, guardK_ft, guardK_u, pickV_f, bindO_some, ifK_f, binK_some (bin_add hI1), hcast]
        exact ih H n (hSkip i H n hI h) hlt
      · have hd : decide (L.getD i 0 = -1) = false := decide_eq_false (by omega)
        obtain ⟨r1, r2⟩ := hR _ _ _ hI
        obtain ⟨B, hB, hn⟩ := r2 i kd hip hkd
        obtain ⟨H1, n1, e1, e2⟩ := hY i H n kd B hI hip hkd h hB
        rw [hd, h]
        simp only [Bool.not_false, guardK_tt, addrV_eq, bindO_some, r1, nil_ptr, fa117_2, at115 _ _ hlt, at114 _ _ (show kd < 3 by omega), hn, e1, not_t, pickV_t, ifK_f, binK_some (bin_add hI1), hcast]
        exact ih H1 n1 e2 hlt
    · rw [if_neg (by omega)]
      have hi' : i = 8 := by omega
      subst hi'
      exact ⟨H, n, rfl, hI⟩
  intro m
  induction m with
  | zero => intro i H n h1 h2 h3; exact body _ 0 i H n h1 h2 (fun _ _ _ h => by omega)
  | succ m ih => intro i H n h1 h2 h3; exact body _ (m + 1) i H n h1 h2 (fun H' n' q1 q2 => ih (i + 1) H' n' q1 (by omega) (by omega))
noncomputable def bsum (js ks L : List Int) (nj np i e q : Nat) : Int := sumTo (fun p => if L.getD p 0 = -1 then 0 else ext (ks.getD ((L.getD p 0).toNat * 5) 0) (shP js ks nj np p (L.getD p 0).toNat) e q) i
theorem ext_mild {y : Int} {S : List Int} (hS : Bounded S) (hy : 0 ≤ y ∧ y ≤ 1000) {e q : Nat} (he : e < 2) : -10000 ≤ ext y S e q ∧ ext y S e q ≤ 10000 := by
  obtain ⟨a1, a2⟩ := hS (q * 2 + e)
  obtain ⟨b1, b2⟩ := hS (q * 2 + (1 - e))
  obtain ⟨c1, c2⟩ := total_range hS (1 - e)
  unfold ext
  match e, he with
  | 0, _ => unfold lim; simp only at *; omega
  | 1, _ => unfold lim; simp only at *; omega
theorem sumTo_mild {f : Nat → Int} {c : Int} (hc : 0 ≤ c) : ∀ {i : Nat}, (∀ k, k < i → -c ≤ f k ∧ f k ≤ c) → -(c * i) ≤ sumTo f i ∧ sumTo f i ≤ c * i
  | 0, _ => by simp [sumTo]
  | i + 1, h => by
    obtain ⟨h1, h2⟩ := sumTo_mild hc (i := i) (fun k hk => h k (by omega))
    obtain ⟨g1, g2⟩ := h i (by omega)
    simp only [sumTo]
    have : c * ((i + 1 : Nat) : Int) = c * i + c := by rw [Int.natCast_add, Int.mul_add]; simp
    omega
theorem bsum_mild {js ks L : List Int} {nj np nk i e q : Nat} (hks : KindsOk ks nk) (hnp : np ≤ 8) (hK : KindsIn L np nk) (hi : i ≤ 8) (he : e < 2) : -1000000 ≤ bsum js ks L nj np i e q ∧ bsum js ks L nj np i e q ≤ 1000000 := by
  have h := sumTo_mild (f := fun p => if L.getD p 0 = -1 then 0 else ext (ks.getD ((L.getD p 0).toNat * 5) 0) (shP js ks nj np p (L.getD p 0).toNat) e q) (c := 10000) (by omega) (i := i) (fun p hp => by
    split
    · omega
    · rename_i hne
      rcases hK p (by omega) with h | ⟨hip, kd, hkd, h⟩
      · exact absurd h hne
      · rw [h, Int.toNat_natCast]
        obtain ⟨y1, _, _⟩ := hks kd hkd
        exact ext_mild (shP_bounded hks hkd hnp hip) y1 he)
  unfold bsum
  omega
def RowIs (X : List Int) (js ks L : List Int) (nj np i : Nat) : Prop := X.length = 16 ∧ ∀ q, q < 8 → X.getD (q * 2) 0 = bsum js ks L nj np i 0 q ∧ X.getD (q * 2 + 1) 0 = bsum js ks L nj np i 1 q
theorem row_mild {X : List Int} (hl : X.length = 16) (h : ∀ q, q < 8 → (-1000000 ≤ X.getD (q * 2) 0 ∧ X.getD (q * 2) 0 ≤ 1000000) ∧ (-1000000 ≤ X.getD (q * 2 + 1) 0 ∧ X.getD (q * 2 + 1) 0 ≤ 1000000)) : Mild X := by
  intro k
  by_cases hk : k < 16
  · obtain ⟨h1, h2⟩ := h (k / 2) (by omega)
    rcases Nat.mod_two_eq_zero_or_one k with z | z
    · rw [show k / 2 * 2 = k by omega] at h1; exact h1
    · rw [show k / 2 * 2 + 1 = k by omega] at h2; exact h2
  · rw [List.getD_eq_getElem?_getD, List.getElem?_eq_none (by omega)]
    simp
end Go.Proofs.Ytekajfobmnedjaa.spec
end
section
namespace Go.Proofs.Ytekajfobmnedjaa.spec
open Go Go.Ev Go.Proofs.Ytekajfobmnedjaa.nestFits Go.Proofs.Ytekajfobmnedjaa.G
set_option maxRecDepth 100000
variable {ρ : Type}
theorem limit_loads {H : Hp} {n g np p : Nat} {f : Nat → Value} {x y z : Value} {ps js X : List Int} {nj b : Nat} (hf : CellsF H g 859 117 f) (hs : SiteF f x y z js nj) (hx : SliceR H n 2 x np ps) (hp : p < np) (hnp : np ≤ 8) (hb : H.get b = some (.cells (ints X) 111 false none)) (hX : X.length = 16) :
    loadV P H 31 ⟨g, 0 + 0 + 0, none⟩ = some x ∧ loadV P H 3 ⟨b, 0 + p * 2 + 0, none⟩ = some (.int .i64 (X.getD (p * 2) 0)) ∧ loadV P H 3 ⟨b, 0 + p * 2 + 1, none⟩ = some (.int .i64 (X.getD (p * 2 + 1) 0)) ∧
      ∃ rb o, indexAddrV P 31 x (.int .i64 p) = some (.pointer (some ⟨rb, o, none⟩)) ∧ loadV P H 3 ⟨rb, o + 0, none⟩ = some (.int .i64 (ps.getD (p * 2) 0)) ∧ loadV P H 3 ⟨rb, o + 1, none⟩ = some (.int .i64 (ps.getD (p * 2 + 1) 0)) := by
  refine ⟨?_, ?_, ?_, ?_⟩
  · have := hf.load (P := P) (k := 0) agg31 (by omega)
    rw [hs.x] at this; exact this
  · rw [show 0 + p * 2 + 0 = p * 2 by omega]; exact load_int_at hb (by omega)
  · rw [show 0 + p * 2 + 1 = p * 2 + 1 by omega]; exact load_int_at hb (by omega)
  · obtain ⟨rb, o, hix, _, hc⟩ := hx.at_ und31 sz90 hp
    have hl : p * 2 + 2 ≤ ps.length := by rw [hx.1]; omega
    refine ⟨rb, o + p * 2, hix, ?_, ?_⟩
    · rw [show o + p * 2 + 0 = o + (p * 2) by omega]; exact loadV_int hc agg3 (ints_get (getD_some (by omega)))
    · rw [show o + p * 2 + 1 = o + (p * 2 + 1) by omega]; exact loadV_int hc agg3 (ints_get (getD_some (by omega)))
theorem call68 (l : Nat) (a b c : Value) (H : Hp) (n : Nat) : (cal (l + 1)).call 68 [a, b, c] H n = C68_0 (cal l) KK a b c H n := by kernel_rfl
theorem call69 (l : Nat) (a b c : Value) (H : Hp) (n : Nat) : (cal (l + 1)).call 69 [a, b, c] H n = C69_0 (cal l) KK a b c H n := by kernel_rfl
theorem missed_call (l : Nat) {H : Hp} {n g np p : Nat} {f : Nat → Value} {x y z : Value} {ps js X : List Int} {nj : Nat} (hgn : g < n) (hf : CellsF H g 859 117 f) (hs : SiteF f x y z js nj) (hx : SliceR H n 2 x np ps) (hp : p < np) (hnp : np ≤ 8) (hX : X.length = 16) :
    ∃ H' n', (∀ k : Value → Hp → Nat → Option ρ, callFK P (cal (l + 1)) 68 [.pointer (some ⟨g, 0, none⟩), .agg ⟨ints X⟩, .int .i64 p] H n k = k (.bool (decide (X.getD (p * 2) 0 < ps.getD (p * 2) 0))) H' n') ∧ n ≤ n' ∧ Keep n H H' := by
  have hk : Keep n H (H.set n (some (.cells (ints X) 111 false none))) := (Keep.refl n H).set (Nat.le_refl _) _
  have hb : (H.set n (some (.cells (ints X) 111 false none))).get n = some (.cells (ints X) 111 false none) := by rw [Tr.get_set, if_pos rfl]
  refine ⟨H.set n (some (.cells (ints X) 111 false none)), n + 1, fun k => ?_, by omega, hk⟩
  unfold callFK
  have : (flatF P 68 && pureL [.pointer (some ⟨g, 0, none⟩), .agg ⟨ints X⟩, .int .i64 p]) = false := by rw [Bool.and_eq_false_iff]; exact .inr rfl
  rw [this, call68]
  unfold C68_0 B68_0
  rw [boxK_eq]
  simp only [cellsV, ptr]
  obtain ⟨a1, a2, a3, rb, o, a4, a5, a6⟩ := limit_loads (hf.keep hk hgn) hs ((hx.keep hk (Nat.le_refl _)).up (show n ≤ n + 1 by omega)) hp hnp hb hX
  rw [at111 n 0 (by omega), bindO_some, fa53_0, bindO_some, addrV_eq, bindO_some, a2, bindO_some, nil_ptr, bindO_some, fa117_0, bindO_some, fa35_0, bindO_some, addrV_eq, bindO_some, a1, bindO_some, a4, bindO_some, fa90_0, bindO_some, addrV_eq, bindO_some, a5, bindO_some, binK_some bin_lss]
  rfl
theorem over_call (l : Nat) {H : Hp} {n g np p : Nat} {f : Nat → Value} {x y z : Value} {ps js X : List Int} {nj : Nat} (hgn : g < n) (hf : CellsF H g 859 117 f) (hs : SiteF f x y z js nj) (hx : SliceR H n 2 x np ps) (hp : p < np) (hnp : np ≤ 8) (hX : X.length = 16) :
    ∃ H' n', (∀ k : Value → Hp → Nat → Option ρ, callFK P (cal (l + 1)) 69 [.pointer (some ⟨g, 0, none⟩), .agg ⟨ints X⟩, .int .i64 p] H n k = k (.bool (decide (ps.getD (p * 2 + 1) 0 < X.getD (p * 2 + 1) 0))) H' n') ∧ n ≤ n' ∧ Keep n H H' := by
  have hk : Keep n H (H.set n (some (.cells (ints X) 111 false none))) := (Keep.refl n H).set (Nat.le_refl _) _
  have hb : (H.set n (some (.cells (ints X) 111 false none))).get n = some (.cells (ints X) 111 false none) := by rw [Tr.get_set, if_pos rfl]
  refine ⟨H.set n (some (.cells (ints X) 111 false none)), n + 1, fun k => ?_, by omega, hk⟩
  unfold callFK
  have : (flatF P 69 && pureL [.pointer (some ⟨g, 0, none⟩), .agg ⟨ints X⟩, .int .i64 p]) = false := by rw [Bool.and_eq_false_iff]; exact .inr rfl
  rw [this, call69]
  unfold C69_0 B69_0
  rw [boxK_eq]
  simp only [cellsV, ptr]
  obtain ⟨a1, a2, a3, rb, o, a4, a5, a6⟩ := limit_loads (hf.keep hk hgn) hs ((hx.keep hk (Nat.le_refl _)).up (show n ≤ n + 1 by omega)) hp hnp hb hX
  rw [at111 n 0 (by omega), bindO_some, fa53_1, bindO_some, addrV_eq, bindO_some, a3, bindO_some, nil_ptr, bindO_some, fa117_0, bindO_some, fa35_0, bindO_some, addrV_eq, bindO_some, a1, bindO_some, a4, bindO_some, fa90_1, bindO_some, addrV_eq, bindO_some, a6, bindO_some, binK_some bin_gtr]
  rfl
end Go.Proofs.Ytekajfobmnedjaa.spec
end
section
namespace Go.Proofs.Ytekajfobmnedjaa.spec
open Go Go.Ev Go.Proofs.Ytekajfobmnedjaa.nestFits Go.Proofs.Ytekajfobmnedjaa.G
set_option maxRecDepth 100000
variable {ρ : Type}
def missB (X ps : List Int) (p : Nat) : Bool := decide (X.getD (p * 2) 0 < ps.getD (p * 2) 0)
def overB (X ps : List Int) (p : Nat) : Bool := decide (ps.getD (p * 2 + 1) 0 < X.getD (p * 2 + 1) 0)
end Go.Proofs.Ytekajfobmnedjaa.spec
end
section
namespace Go.Proofs.Ytekajfobmnedjaa.spec
open Go Go.Ev Go.Proofs.Ytekajfobmnedjaa.nestFits Go.Proofs.Ytekajfobmnedjaa.G
set_option maxRecDepth 100000
variable {ρ : Type}
end Go.Proofs.Ytekajfobmnedjaa.spec
end
section
namespace Go.Ev
open Go
variable {P : Program} {t : TypeId} {x y : Operand} {a b : Int} {ρ : Type}
theorem bin_rem (hb : b ≠ 0) : binV P .rem t x y (.int .i64 a) (.int .i64 b) = some (.int .i64 (a.tmod b)) := by
  refine bin_int (by simp [binOp, Op.intDiv, hb]) rfl ?_
  rintro m n rfl rfl
  exact .inr rfl
theorem rem_small {a n : Nat} (h : n ≠ 0) : ((a : Int).tmod (n : Int)) = ((a % n : Nat) : Int) := by
  rw [Int.tmod_eq_emod_of_nonneg (by omega)]
  rfl
end Go.Ev
end
section
namespace Go.Proofs.Ytekajfobmnedjaa.spec
open Go Go.Ev Go.Proofs.Ytekajfobmnedjaa.nestFits Go.Proofs.Ytekajfobmnedjaa.G
set_option maxRecDepth 100000
variable {ρ : Type}
theorem conv53 {a : Int} (ha : I64 a) : pureSem P (.int .u8 a) (convert 5 3 (.int .u8 a)) = some (.int .i64 a) := by
  have h : semPure P (convert 5 3 (.int .u8 a)) = some (.int .i64 (IntKind.i64.wrap a)) := by kernel_rfl
  unfold pureSem
  rw [h, wrap_i64 ha]
  rfl
theorem list_at (c : Cal) (k : Nat) {H : Hp} {n len : Nat} {v : Value} {xs : List Int} (h : ListR H n v len xs) (h0 : len ≠ 0) (hlen : len ≤ 1000) :
    ∃ H' n', C23_0 c k v H n = some (.slice (some ⟨n + 1, 0, none⟩) len capV, H', n') ∧ n + 1 < n' ∧ Keep n H H' ∧ H'.get (n + 1) = some (.cells (ints xs) 3 false (some 1)) := by
  unfold C23_0 B23_0 rowK
  rw [row44_0, bindO_some]
  unfold newK
  dsimp only
  have hk : Keep n H (H.set n (some (.cells [] 3 false none))) := (Keep.refl n H).set (Nat.le_refl _) _
  have hg : (H.set n (some (.cells [] 3 false none))).get n = some (.cells [] 3 false none) := by rw [Tr.get_set, if_pos rfl]
  have h1 := h.keep hk (show n ≤ n + 1 by omega)
  generalize H.set n (some (.cells [] 3 false none)) = H1 at hk hg h1 ⊢
  have hold : loadN H1 ⟨n, 0, none⟩ (0 * 1) = some [] := loadN_all (L := []) (cells_at hg) rfl rfl
  have hbig : bigOk (0 + len) 1 8 = true := by unfold bigOk; simp; omega
  have hb1 : Nat.beq (cellsV (.int .i64 0)).length 1 = true := rfl
  have c0 : Nat.blt 0 capV = true := by decide +kernel
  have ha : appendV P (bare H1 (n + 1)) 44 44 (.slice (some ⟨n, 0, none⟩) 0 0) v = some (.slice (some ⟨n + 1, 0, none⟩) len capV, bare (H1.set (n + 1) (some (.cells (ints xs) 3 false (some 1)))) (n + 1 + 1)) := by
    unfold appendV
    have hs : srcCells (bare H1 (n + 1)).H 1 v = some (ints xs, len) := h1.src
    have hold' : loadN (bare H1 (n + 1)).H ⟨n, 0, none⟩ (0 * 1) = some [] := hold
    simp only [sl44, sz3, by3, zero3, hs, hb1, hold', hbig]
    unfold appendTo
    have c1 : Nat.ble len 0 = false := by
      cases len with
      | zero => exact absurd rfl h0
      | succ m => rfl
    simp only [c0, c1, growV, bare, pushB, List.nil_append, Nat.zero_add]
  unfold stK
  dsimp only
  rw [ha, bindO_some]
  dsimp only [bare]
  exact ⟨_, _, rfl, by omega, hk.set (by omega) _, by rw [Tr.get_set, if_pos rfl]⟩
theorem store3 (H : Hp) (b o : Nat) (a : Int) : storeP P 3 (.pointer (some ⟨b, o, none⟩)) (.int .i64 a) H = storeN H ⟨b, o, none⟩ [.int .i64 a] := by kernel_rfl
end Go.Proofs.Ytekajfobmnedjaa.spec
end
section
namespace Go.Proofs.Ytekajfobmnedjaa.spec
open Go Go.Ev Go.Proofs.Ytekajfobmnedjaa.nestFits Go.Proofs.Ytekajfobmnedjaa.G
set_option maxRecDepth 100000
variable {ρ : Type}
theorem ext_nonneg {y : Int} {L : List Int} (hL : Bounded L) (hf : total L 0 ≤ y) {e : Nat} (he : e < 2) (q : Nat) : 0 ≤ ext y L e q := by
  unfold ext
  match e, he with
  | 0, _ =>
    have := (hL (q * 2 + 0)).1
    unfold lim
    simp only
    omega
  | 1, _ =>
    have := (hL (q * 2 + 1)).1
    have := (hL (q * 2 + 0)).1
    unfold lim
    simp only [Nat.sub_self]
    omega
theorem getD_set_same {L : List Int} {p : Nat} {a : Int} (h : p < L.length) : (L.set p a).getD p 0 = a := by
  rw [List.getD_eq_getElem?_getD, List.getElem?_set, if_pos rfl, if_pos h]
  rfl
theorem getD_set_ne {L : List Int} {p q : Nat} {a : Int} (h : q ≠ p) : (L.set p a).getD q 0 = L.getD q 0 := by
  rw [List.getD_eq_getElem?_getD, List.getElem?_set, if_neg (by omega), ← List.getD_eq_getElem?_getD]
end Go.Proofs.Ytekajfobmnedjaa.spec
end
section
namespace Go.Proofs.Ytekajfobmnedjaa.spec
open Go Go.Ev Go.Proofs.Ytekajfobmnedjaa.nestFits Go.Proofs.Ytekajfobmnedjaa.G
set_option maxRecDepth 100000
variable {ρ : Type}
end Go.Proofs.Ytekajfobmnedjaa.spec
end
section
namespace Go.Proofs.Ytekajfobmnedjaa.spec
open Go Go.Ev Go.Proofs.Ytekajfobmnedjaa.nestFits Go.Proofs.Ytekajfobmnedjaa.G
set_option maxRecDepth 100000
set_option linter.unusedVariables false
variable {ρ : Type}
noncomputable def E14 (c : Cal) (v_4s v_4t v_57 v_58 v_5m v_5n : Value) (H_5i : Hp) (n_5j : Nat) : Res :=
binK P BinOp.neq 29 (Operand.tmp 104) (Operand.const (Value.int IntKind.i64 0)) v_4t (Value.int IntKind.i64 0) fun v_5s =>
ifK v_5s (
binK P BinOp.eql 29 (Operand.tmp 106) (Operand.const (Value.int IntKind.i64 10)) v_4t (Value.int IntKind.i64 10) fun v_5u =>
guardK v_5u true (fun k_5w =>
k_5w v_58 H_5i n_5j) H_5i n_5j fun v_5x H_5y n_5z =>
guardK v_5u true (fun k_61 =>
binK P BinOp.eql 29 (Operand.tmp 109) (Operand.const (Value.int IntKind.i64 0)) v_5x (Value.int IntKind.i64 0) fun v_65 =>
k_61 v_65 H_5y n_5z) H_5y n_5z fun v_62 H_63 n_64 =>
guardK v_5u true (fun k_66 =>
k_66 v_62 H_63 n_64) H_63 n_64 fun v_67 H_68 n_69 =>
guardK v_67 false (fun k_6b =>
k_6b v_58 H_68 n_69) H_68 n_69 fun v_6c H_6d n_6e =>
guardK v_67 false (fun k_6g =>
binK P BinOp.eql 29 (Operand.tmp 112) (Operand.const (Value.int IntKind.i64 10)) v_6c (Value.int IntKind.i64 10) fun v_6k =>
k_6g v_6k H_6d n_6e) H_6d n_6e fun v_6h H_6i n_6j =>
guardK v_5u true (fun k_6l =>
bindO (pickV v_67 (Value.bool true) v_6h) fun v_6p =>
k_6l v_6p H_6i n_6j) H_6i n_6j fun v_6m H_6n n_6o =>
bindO (pickV v_5u v_6m (Value.bool false)) fun v_6q =>
guardK v_6q true (fun k_6s =>
k_6s v_5n H_6n n_6o) H_6n n_6o fun v_6t H_6u n_6v =>
guardK v_6q true (fun k_6x =>
binK P BinOp.eql 29 (Operand.tmp 117) (Operand.const (Value.int IntKind.i64 0)) v_6t (Value.int IntKind.i64 0) fun v_71 =>
k_6x v_71 H_6u n_6v) H_6u n_6v fun v_6y H_6z n_70 =>
guardK v_6q true (fun k_72 =>
k_72 v_6y H_6z n_70) H_6z n_70 fun v_73 H_74 n_75 =>
guardK v_73 false (fun k_77 =>
k_77 v_5n H_74 n_75) H_74 n_75 fun v_78 H_79 n_7a =>
guardK v_73 false (fun k_7c =>
binK P BinOp.eql 29 (Operand.tmp 120) (Operand.const (Value.int IntKind.i64 10)) v_78 (Value.int IntKind.i64 10) fun v_7g =>
k_7c v_7g H_79 n_7a) H_79 n_7a fun v_7d H_7e n_7f =>
guardK v_6q true (fun k_7h =>
bindO (pickV v_73 (Value.bool true) v_7d) fun v_7l =>
k_7h v_7l H_7e n_7f) H_7e n_7f fun v_7i H_7j n_7k =>
bindO (pickV v_6q v_7i (Value.bool false)) fun v_7m =>
guardK v_7m true (fun k_7o =>
callFK P c 16 [] H_7j n_7k fun v_7s H_7t n_7u =>
k_7o v_7s H_7t n_7u) H_7j n_7k fun v_7p H_7q n_7r =>
bindO (pickV v_7m v_7p (Value.bool false)) fun v_7v =>
some (v_7v, H_7q, n_7r)) (
binK P BinOp.eql 29 (Operand.tmp 127) (Operand.const (Value.int IntKind.i64 0)) v_58 (Value.int IntKind.i64 0) fun v_7y =>
guardK v_7y true (fun k_80 =>
k_80 v_57 H_5i n_5j) H_5i n_5j fun v_81 H_82 n_83 =>
guardK v_7y true (fun k_85 =>
k_85 v_4s H_82 n_83) H_82 n_83 fun v_86 H_87 n_88 =>
guardK v_7y true (fun k_8a =>
binK P BinOp.leq 3 (Operand.tmp 130) (Operand.tmp 131) v_81 v_86 fun v_8e =>
k_8a v_8e H_87 n_88) H_87 n_88 fun v_8b H_8c n_8d =>
bindO (pickV v_7y v_8b (Value.bool false)) fun v_8f =>
guardK v_8f true (fun k_8h =>
k_8h v_5n H_8c n_8d) H_8c n_8d fun v_8i H_8j n_8k =>
guardK v_8f true (fun k_8m =>
binK P BinOp.eql 29 (Operand.tmp 135) (Operand.const (Value.int IntKind.i64 0)) v_8i (Value.int IntKind.i64 0) fun v_8q =>
k_8m v_8q H_8j n_8k) H_8j n_8k fun v_8n H_8o n_8p =>
bindO (pickV v_8f v_8n (Value.bool false)) fun v_8r =>
guardK v_8r true (fun k_8t =>
k_8t v_5m H_8o n_8p) H_8o n_8p fun v_8u H_8v n_8w =>
guardK v_8r true (fun k_8y =>
k_8y v_4s H_8v n_8w) H_8v n_8w fun v_8z H_90 n_91 =>
guardK v_8r true (fun k_93 =>
binK P BinOp.leq 3 (Operand.tmp 139) (Operand.tmp 140) v_8u v_8z fun v_97 =>
k_93 v_97 H_90 n_91) H_90 n_91 fun v_94 H_95 n_96 =>
bindO (pickV v_8r v_94 (Value.bool false)) fun v_98 =>
guardK v_98 true (fun k_9a =>
callFK P c 16 [] H_95 n_96 fun v_9e H_9f n_9g =>
k_9a v_9e H_9f n_9g) H_95 n_96 fun v_9b H_9c n_9d =>
bindO (pickV v_98 v_9b (Value.bool false)) fun v_9h =>
some (v_9h, H_9c, n_9d))
noncomputable def T14 (c : Cal) (v_1 v1 v2 v_x v_y : Value) (H_a : Hp) (n_b : Nat) : Res :=
bindO (addrV v_1) fun a_1v => bindO (loadV P H_a 26 a_1v) fun v_1u =>
callFK P c 15 [v_1u, (Value.slice none 0 0)] H_a n_b fun v_1w H_1x n_1y =>
bindO (pureSem P v_1w (Op.unary UnOp.not v_1w)) fun v_1z =>
guardK v_1z false (fun k_21 =>
bindO (addrV v_1) fun a_26 => bindO (loadV P H_1x 26 a_26) fun v_25 =>
k_21 v_25 H_1x n_1y) H_1x n_1y fun v_22 H_23 n_24 =>
guardK v_1z false (fun k_27 =>
callFK P c 20 [v_22] H_23 n_24 fun v_2b H_2c n_2d =>
k_27 v_2b H_2c n_2d) H_23 n_24 fun v_28 H_29 n_2a =>
guardK v_1z false (fun k_2e =>
binK P BinOp.neq 29 (Operand.tmp 41) (Operand.const (Value.int IntKind.i64 0)) v_28 (Value.int IntKind.i64 0) fun v_2i =>
k_2e v_2i H_29 n_2a) H_29 n_2a fun v_2f H_2g n_2h =>
bindO (pickV v_1z (Value.bool true) v_2f) fun v_2j =>
guardK v_2j false (fun k_2l =>
bindO (addrV v_y) fun a_2q => bindO (loadV P H_2g 26 a_2q) fun v_2p =>
k_2l v_2p H_2g n_2h) H_2g n_2h fun v_2m H_2n n_2o =>
guardK v_2j false (fun k_2r =>
callFK P c 20 [v_2m] H_2n n_2o fun v_2v H_2w n_2x =>
k_2r v_2v H_2w n_2x) H_2n n_2o fun v_2s H_2t n_2u =>
guardK v_2j false (fun k_2y =>
binK P BinOp.neq 29 (Operand.tmp 46) (Operand.const (Value.int IntKind.i64 0)) v_2s (Value.int IntKind.i64 0) fun v_32 =>
k_2y v_32 H_2t n_2u) H_2t n_2u fun v_2z H_30 n_31 =>
bindO (pickV v_2j (Value.bool true) v_2z) fun v_33 =>
ifK v_33 (
callFK P c 16 [] H_30 n_31 fun v_34 H_35 n_36 =>
some (v_34, H_35, n_36)) (
bindO (fieldAddrV P 26 v_x 0) fun v_38 =>
bindO (addrV v_38) fun a_39 => bindO (loadV P H_30 22 a_39) fun v_3a =>
bindO (pureSem P v1 (convert 5 3 v1)) fun v_3c =>
bindO (fieldAddrV P 26 v_x 0) fun v_3d =>
bindO (addrV v_3d) fun a_3e => bindO (loadV P H_30 22 a_3e) fun v_3f =>
bindO (lenV P 22 v_3f) fun v_3g =>
binK P BinOp.rem 3 (Operand.tmp 53) (Operand.tmp 56) v_3c v_3g fun v_3h =>
bindO (indexAddrV P 22 v_3a v_3h) fun v_3i =>
bindO (nilV v_3i) fun v_3n =>
bindO (fieldAddrV P 95 v_3n 0) fun v_3o =>
bindO (addrV v_3o) fun a_3p => bindO (loadV P H_30 3 a_3p) fun v_3q =>
bindO (pureSem P v2 (convert 5 3 v2)) fun v_3s =>
binK P BinOp.rem 3 (Operand.tmp 66) (Operand.const (Value.int IntKind.i64 16)) v_3s (Value.int IntKind.i64 16) fun v_3t =>
binK P BinOp.sub 3 (Operand.tmp 64) (Operand.tmp 67) v_3q v_3t fun v_3u =>
builtinK P .max [3, 3] (Call.mk (Callee.builtin Builtin.max) #[(Operand.const (Value.int IntKind.i64 0)), (Operand.tmp 68)] #[3, 3]) 3 [(Value.int IntKind.i64 0), v_3u] H_30 n_31 fun v_3v H_3w n_3x =>
bindO (nilV v_3i) fun v_3z =>
bindO (fieldAddrV P 95 v_3z 1) fun v_40 =>
bindO (addrV v_40) fun a_41 => bindO (loadV P H_30 3 a_41) fun v_42 =>
bindO (pureSem P v2 (convert 5 3 v2)) fun v_44 =>
binK P BinOp.quo 3 (Operand.tmp 75) (Operand.const (Value.int IntKind.i64 16)) v_44 (Value.int IntKind.i64 16) fun v_45 =>
binK P BinOp.add 3 (Operand.tmp 73) (Operand.tmp 76) v_42 v_45 fun v_46 =>
builtinK P .min [3, 3] (Call.mk (Callee.builtin Builtin.min) #[(Operand.const (Value.int IntKind.i64 1000)), (Operand.tmp 77)] #[3, 3]) 3 [(Value.int IntKind.i64 1000), v_46] H_30 n_31 fun v_47 H_48 n_49 =>
bindO (nilV v_3i) fun v_4a =>
bindO (fieldAddrV P 95 v_4a 0) fun v_4b =>
bindO (storeP P 3 v_4b v_3v H_30) fun H_4d =>
bindO (nilV v_3i) fun v_4e =>
bindO (fieldAddrV P 95 v_4e 1) fun v_4f =>
bindO (storeP P 3 v_4f v_47 H_4d) fun H_4h =>
bindO (addrV v_1) fun a_4j => bindO (loadV P H_4h 26 a_4j) fun v_4i =>
callFK P c 18 [v_4i] H_4h n_31 fun v_4k H_4l n_4m =>
callFK P c 42 [v_4k] H_4l n_4m fun v_4n H_4o n_4p =>
bindO (tupV v_4n 0) fun v_4r =>
bindO (tupV v_4n 1) fun v_4s =>
bindO (tupV v_4n 2) fun v_4t =>
bindO (addrV v_x) fun a_4y => bindO (loadV P H_4o 26 a_4y) fun v_4x =>
callFK P c 18 [v_4x] H_4o n_4p fun v_4z H_50 n_51 =>
callFK P c 42 [v_4z] H_50 n_51 fun v_52 H_53 n_54 =>
bindO (tupV v_52 0) fun v_56 =>
bindO (tupV v_52 1) fun v_57 =>
bindO (tupV v_52 2) fun v_58 =>
bindO (addrV v_y) fun a_5d => bindO (loadV P H_53 26 a_5d) fun v_5c =>
callFK P c 18 [v_5c] H_53 n_54 fun v_5e H_5f n_5g =>
callFK P c 42 [v_5e] H_5f n_5g fun v_5h H_5i n_5j =>
bindO (tupV v_5h 0) fun v_5l =>
bindO (tupV v_5h 1) fun v_5m =>
bindO (tupV v_5h 2) fun v_5n =>
E14 c v_4s v_4t v_57 v_58 v_5m v_5n H_5i n_5j)
theorem easier_end (c : Cal) {a b d e f h : Int} (Hawake : ∀ (H : Hp) (n : Nat) (k : Value → Hp → Nat → Res), callFK P c 16 [] H n k = k (.bool true) H n) (he : e = 0 ∨ e = 10) (hf : f = 0 ∨ f = 10) (hh : h = 0 ∨ h = 10)
    (ok : e = 0 → f = 0 ∧ b ≤ a ∧ h = 0 ∧ d ≤ a) (H : Hp) (n : Nat) : E14 c (.int .i64 a) (.int .i64 e) (.int .i64 b) (.int .i64 f) (.int .i64 d) (.int .i64 h) H n = some (.bool true, H, n) := by
  unfold E14
  rcases he with rfl | rfl
  · obtain ⟨rfl, hb, rfl, hd⟩ := ok rfl
    have e1 : decide (b ≤ a) = true := decide_eq_true hb
    have e2 : decide (d ≤ a) = true := decide_eq_true hd
    simp only [binK_some bin_neq, binK_some bin_eql, binK_some bin_leq, eq_self, decide_true, Bool.not_true, ifK_f, guardK_tt, bindO_some, pickV_t, e1, e2, Hawake]
  · rcases hf with rfl | rfl <;> rcases hh with rfl | rfl <;>
      simp only [binK_some bin_neq, binK_some bin_eql, eq_self, decide_true, decide_false, Int.reduceEq, Bool.not_false, ifK_t, guardK_tt, guardK_tf, guardK_ff, guardK_ft, guardK_u, bindO_some, pickV_t, pickV_f, Hawake]
end Go.Proofs.Ytekajfobmnedjaa.spec
end
section
namespace Go.Ev
open Go
variable {P : Program} {t : TypeId} {x y : Operand} {a : Int} {ρ : Type}
end Go.Ev
end
section
namespace Go.Ev
open Go
variable {P : Program} {t : TypeId} {x y : Operand} {a : Int} {ρ : Type}
end Go.Ev
end
section
namespace Go.Ev
open Go
variable {P : Program} {t t2 e e2 : TypeId} {ρ : Type}
def SrcR (H : Hp) (n : Nat) (s : Nat) (v : Value) (len : Nat) (xs : List Int) : Prop :=
  xs.length = len * s ∧ ((v = .slice none 0 0 ∧ len = 0) ∨ ∃ b o cap, v = .slice (some ⟨b, o, none⟩) len cap ∧ b < n ∧ CellsAt H b o (ints xs))
theorem SrcR.keep {H H' : Hp} {n m s len : Nat} {v : Value} {xs : List Int} (h : SrcR H n s v len xs) (hk : Keep n H H') (hm : n ≤ m) : SrcR H' m s v len xs := by
  obtain ⟨h1, h2⟩ := h
  refine ⟨h1, ?_⟩
  rcases h2 with h2 | ⟨b, o, cap, e, a1, a2⟩
  · exact .inl h2
  · exact .inr ⟨b, o, cap, e, by omega, a2.keep hk a1⟩
theorem loadN_none (H : Hp) (b o s : Nat) {L : List Int} (h : CellsAt H b o (ints L)) (hl : L.length = s) : loadN H ⟨b, o, none⟩ s = some (ints L) := by
  have := loadN_at (s := s) (k := 0) h (by rw [ints_length]; omega) (ints_noHole _)
  rw [Nat.add_zero] at this
  rw [this, take_all _ _ (by rw [ints_length]; omega)]
theorem SrcR.src {H : Hp} {n s len : Nat} {v : Value} {xs : List Int} (h : SrcR H n s v len xs) : srcCells H s v = some (ints xs, len) := by
  obtain ⟨h1, h2⟩ := h
  rcases h2 with ⟨rfl, rfl⟩ | ⟨b, o, cap, rfl, _, a2⟩
  · have : xs = [] := List.length_eq_zero_iff.1 (by omega)
    subst this
    rfl
  · unfold srcCells
    simp only [loadN_none H b o (len * s) a2 h1]
def copyVal (b0 n len : Nat) : Value := if len = 0 then .slice (some ⟨b0, 0, none⟩) 0 0 else .slice (some ⟨n, 0, none⟩) len capV
def copyN (n len : Nat) : Nat := if len = 0 then n else n + 1
def CopyAt (H : Hp) (b0 n len s : Nat) (e : TypeId) (ys : List Int) : Prop := ys.length = len * s ∧ (len = 0 → H.get b0 = some (.cells [] e false none)) ∧ (len ≠ 0 → H.get n = some (.cells (ints ys) e false (some s)))
theorem append_copy {H : Hp} {n s len bt b0 : Nat} {y z : Value} {ys : List Int} (hb0 : H.get b0 = some (.cells [] e false none)) (h1 : sliceElem P t = some e) (h2 : sliceElem P t2 = some e2)
    (hs : szT P e = some s) (hb : bytesT P e = some bt) (hz : zeroT P e = some z) (hzl : (cellsV z).length = s) (hy : SrcR H n s y len ys) (big : bigOk len s bt = true) :
    ∃ H', appendV P (bare H n) t t2 (.slice (some ⟨b0, 0, none⟩) 0 0) y = some (copyVal b0 n len, bare H' (copyN n len)) ∧ Keep n H H' ∧ CopyAt H' b0 n len s e ys := by
  have hsrc := hy.src
  have hbeq : Nat.beq (cellsV z).length s = true := by rw [hzl]; exact Nat.beq_refl s
  have hold : loadN H ⟨b0, 0, none⟩ (0 * s) = some [] := by
    rw [Nat.zero_mul]
    unfold loadN
    simp only [hb0]
    rfl
  have c1 : Nat.blt 0 capV = true := by decide +kernel
  have big' : bigOk (0 + len) s bt = true := by rw [Nat.zero_add]; exact big
  rcases Nat.eq_zero_or_pos len with rfl | hpos
  · have hy0 : ys = [] := List.length_eq_zero_iff.1 (by rw [hy.1]; omega)
    subst hy0
    refine ⟨H.set b0 (some (.cells [] e false none)), ?_, fun b hb => ?_, hy.1, fun _ => by rw [Tr.get_set, if_pos rfl], fun h => absurd rfl h⟩
    · have hst : storeN H (addA ⟨b0, 0, none⟩ (0 * s)) (ints []) = some (H.set b0 (some (.cells [] e false none))) := by
        rw [Nat.zero_mul]
        unfold storeN addA
        simp only [hb0]
        rfl
      unfold appendV
      simp only [h1, h2, hs, hb, hz, bare, hsrc, hbeq, hold, big']
      unfold appendTo
      simp only [c1, hst]
      rfl
    · rw [Tr.get_set]
      by_cases q : b = b0
      · rw [if_pos q, q, hb0]
      · rw [if_neg q]
  · have hne : len ≠ 0 := by omega
    refine ⟨H.set n (some (.cells (ints ys) e false (some s))), ?_, fun b hb => by rw [Tr.get_set, if_neg (by omega)], hy.1, fun h => absurd h hne, fun _ => by rw [Tr.get_set, if_pos rfl]⟩
    unfold appendV
    simp only [h1, h2, hs, hb, hz, bare, hsrc, hbeq, hold, big']
    unfold appendTo
    have c2 : Nat.ble (0 + len) 0 = false := by
      cases h : Nat.ble (0 + len) 0 with
      | false => rfl
      | true => have := Nat.le_of_ble_eq_true h; omega
    simp only [c1, c2]
    unfold growV copyVal copyN
    rw [if_neg hne, if_neg hne, Nat.zero_add]
    rfl
theorem append_more {H : Hp} {n m s len b0 b2 o2 cap2 bt : Nat} {z : Value} {xs ys : List Int} (h : CopyAt H b0 m len s e xs) (h1 : sliceElem P t = some e) (h2 : sliceElem P t2 = some e2)
    (hs : szT P e = some s) (hb : bytesT P e = some bt) (hz : zeroT P e = some z) (hzl : (cellsV z).length = s) (hy : CellsAt H b2 o2 (ints ys)) (hyl : ys.length = s)
    (big : bigOk (len + 1) s bt = true) :
    ∃ H', appendV P (bare H n) t t2 (copyVal b0 m len) (.slice (some ⟨b2, o2, none⟩) 1 cap2) = some (.slice (some ⟨n, 0, none⟩) (len + 1) capV, bare H' (n + 1)) ∧
      H'.get n = some (.cells (ints (xs ++ ys)) e false (some s)) ∧ ∀ b, b < n → b ≠ m → H'.get b = H.get b := by
  have hsrc : srcCells H s (.slice (some ⟨b2, o2, none⟩) 1 cap2) = some (ints ys, 1) := by
    unfold srcCells
    simp only [loadN_none H b2 o2 (1 * s) hy (by omega)]
  have hbeq : Nat.beq (cellsV z).length s = true := by rw [hzl]; exact Nat.beq_refl s
  obtain ⟨g1, g2, g3⟩ := h
  unfold copyVal
  by_cases hl : len = 0
  · subst hl
    have hx0 : xs = [] := List.length_eq_zero_iff.1 (by omega)
    subst hx0
    have hb0 := g2 rfl
    rw [if_pos rfl]
    have hold : loadN H ⟨b0, 0, none⟩ (0 * s) = some [] := by
      rw [Nat.zero_mul]
      unfold loadN
      simp only [hb0]
      rfl
    refine ⟨H.set n (some (.cells (ints ys) e false (some s))), ?_, by rw [Tr.get_set, if_pos rfl]; rfl, fun b hb _ => by rw [Tr.get_set, if_neg (by omega)]⟩
    unfold appendV
    simp only [h1, h2, hs, hb, hz, bare, hsrc, hbeq, hold, big]
    unfold appendTo
    have c1 : Nat.blt 0 capV = true := by decide +kernel
    simp only [c1]
    rfl
  · have a4 := g3 hl
    rw [if_neg hl]
    have hold := loadN_none H m 0 (len * s) (L := xs) ⟨_, _, a4, rfl, fun k v h => by simpa using h⟩ g1
    have c1 : Nat.blt capV capV = false := by decide +kernel
    have c2 : Nat.beq capV capV = true := Nat.beq_refl _
    have c3 : Nat.beq e e = true := Nat.beq_refl _
    have c4 : Nat.beq s s = true := Nat.beq_refl _
    refine ⟨(H.set m none).set n (some (.cells (ints xs ++ ints ys) e false (some s))), ?_, by rw [Tr.get_set, if_pos rfl, ints_append], fun b' hb' hne => ?_⟩
    · unfold appendV
      simp only [h1, h2, hs, hb, hz, bare, hsrc, hbeq, hold, big]
      unfold appendTo
      simp only [c1, c2, a4, c3, c4, ints_leaf, Bool.and_self]
      rfl
    · rw [Tr.get_set, if_neg (by omega), Tr.get_set, if_neg hne]
theorem effK_l {H : Hp} {n : Nat} {te : TypeId} {a : Addr} {cs : List Value} {e' : TypeId} {vec : Option Nat} (hl : H.get a.block = some (.cells cs e' false vec)) (op : Hp → Nat → (Value → Hp → Nat → Option ρ) → Option ρ) (k : Value → Hp → Nat → Option ρ) :
    effK P [.l te a] H n op k = op (H.set a.block (some (.cells cs e' true vec))) n (fun v H2 n2 => bindO (match H2.get a.block with | some _ => some (H2.set a.block (H.get a.block)) | none => none) fun H3 => k v H3 n2) := by
  unfold effK
  simp only [maskXL, hl, bindO_some, maskXA, backXL, backXA, chkX, chkE, Bool.and_self]
  rfl
theorem effK_al {H : Hp} {n id : Nat} {c : List Value} {e te : TypeId} {a : Addr} {cs : List Value} {e' : TypeId} {vec : Option Nat} (hl : H.get a.block = some (.cells cs e' false vec)) (op : Hp → Nat → (Value → Hp → Nat → Option ρ) → Option ρ) (k : Value → Hp → Nat → Option ρ) :
    effK P [.a id c e, .l te a] H n op k = op ((H.set a.block (some (.cells cs e' true vec))).set id none) n (fun v H2 n2 => bindO (match H2.get a.block with | some _ => some (H2.set a.block (H.get a.block)) | none => none) fun H3 => k v (H3.set id (H.get id)) n2) := by
  unfold effK
  simp only [maskXL, hl, bindO_some, maskXA, backXL, backXA, chkX, chkE, Bool.and_self]
  congr 1
  funext v H2 n2
  cases Tr.get H2 a.block <;> rfl
end Go.Ev
end
section
namespace Go.Proofs.Ytekajfobmnedjaa.spec
open Go Go.Ev Go.Proofs.Ytekajfobmnedjaa.nestFits Go.Proofs.Ytekajfobmnedjaa.G
set_option maxRecDepth 100000
variable {ρ : Type}
theorem ez_zero26 : zeroT P 26 = some (.agg ⟨[.slice none 0 0, .slice none 0 0, .slice none 0 0]⟩) := by kernel_rfl
theorem ez_row22 : rowOf P 22 0 [] = some ([], 95) := by kernel_rfl
theorem ez_row24 : rowOf P 24 0 [] = some ([], 94) := by kernel_rfl
theorem ez_row24_1 (a b c d e : Int) : rowOf P 24 1 [(0, .agg ⟨ints [a, b, c, d, e]⟩)] = some (ints [a, b, c, d, e], 94) := by kernel_rfl
theorem ez_sl22 : sliceElem P 22 = some 95 := by kernel_rfl
theorem ez_sl24 : sliceElem P 24 = some 94 := by kernel_rfl
theorem ez_by95 : bytesT P 95 = some 16 := by kernel_rfl
theorem ez_by94 : bytesT P 94 = some 40 := by kernel_rfl
theorem ez_zero95 : zeroT P 95 = some (.agg ⟨[.int .i64 0, .int .i64 0]⟩) := by kernel_rfl
theorem ez_sz22 : szT P 22 = some 1 := by kernel_rfl
theorem ez_sz24 : szT P 24 = some 1 := by kernel_rfl
theorem ez_store26 (H : Hp) (b o : Nat) (u v w : Value) : storeP P 26 (.pointer (some ⟨b, o, none⟩)) (.agg ⟨[u, v, w]⟩) H = storeN H ⟨b, o, none⟩ [u, v, w] := by kernel_rfl
theorem ez_three {H : Hp} {b : Nat} {e : TypeId} {vec : Option Nat} {p q r u v w : Value} (h : H.get b = some (.cells [p, q, r] e false vec)) (hu : leafV u = true) (hv : leafV v = true) (hw : leafV w = true) :
    storeN H ⟨b, 0, none⟩ [u, v, w] = some (H.set b (some (.cells [u, v, w] e false vec))) := by
  unfold storeN
  simp only [h, List.all_cons, List.all_nil, hu, hv, hw, Bool.and_self]
  rfl
theorem ez_first {H : Hp} {b : Nat} {e : TypeId} {vec : Option Nat} {p q r u : Value} (h : H.get b = some (.cells [p, q, r] e false vec)) (hu : leafV u = true) :
    storeN H ⟨b, 0 + 0, none⟩ [u] = some (H.set b (some (.cells [u, q, r] e false vec))) := by
  unfold storeN
  simp only [h, List.all_cons, List.all_nil, hu, Bool.and_self]
  rfl
theorem ez_third {H : Hp} {b : Nat} {e : TypeId} {vec : Option Nat} {p q r u : Value} (h : H.get b = some (.cells [p, q, r] e false vec)) (hu : leafV u = true) :
    storeN H ⟨b, 0 + 2, none⟩ [u] = some (H.set b (some (.cells [p, q, u] e false vec))) := by
  unfold storeN
  simp only [h, List.all_cons, List.all_nil, hu, Bool.and_self]
  rfl
theorem ez_leaf {H : Hp} {n s len : Nat} {v : Value} {xs : List Int} (h : SliceI H n s v len xs) : leafV v = true := by
  rcases h.2.2 with ⟨rfl, _⟩ | ⟨b, o, cap, rfl, _⟩ <;> rfl
theorem copyVal_leaf (b n len : Nat) : leafV (copyVal b n len) = true := by unfold copyVal; by_cases h : len = 0 <;> simp only [h, if_true, if_false] <;> rfl
theorem copyN_le (n len : Nat) : n ≤ copyN n len ∧ copyN n len ≤ n + 1 ∧ (len ≠ 0 → copyN n len = n + 1) := by unfold copyN; by_cases h : len = 0 <;> simp [h]
structure Copied (H0 : Hp) (n0 : Nat) (H : Hp) (n : Nat) (x y z : Value) (np nk : Nat) (ps ks ms : List Int) : Prop where
  le : n0 + 4 ≤ n
  keep : Keep n0 H0 H
  gx : H.get n0 = some (.cells [x, y, z] 26 false none)
  xs : ∃ b m, n0 + 4 ≤ b ∧ b < n ∧ n0 + 4 ≤ m ∧ (np ≠ 0 → m < n) ∧ H.get (n0 + 2) = some (.cells [copyVal b m np, y, z] 26 false none) ∧ CopyAt H b m np 2 95 ps
  ys : ∃ q, n0 + 4 ≤ q ∧ q < n ∧ H.get (n0 + 3) = some (.cells [x, y, .slice (some ⟨q, 0, none⟩) (nk + 1) capV] 26 false none) ∧ H.get q = some (.cells (ints (ks ++ ms)) 94 false (some 5))
theorem easier_start (c : Cal) {np nj nk : Nat} {ps js ks : List Int} {m1 m2 m3 m4 m5 : Int} {H : Hp} {n : Nat} {x y z v1 v2 : Value} (hg : GroveI H n (.agg ⟨[x, y, z]⟩) np nj nk ps js ks) (sx : SrcR H n 2 x np ps) (sz : SrcR H n 5 z nk ks) (bx : bigOk np 2 16 = true) (bz : bigOk (nk + 1) 5 40 = true) :
    ∃ H' n', B14_0 c KK (.agg ⟨[x, y, z]⟩) v1 v2 (.agg ⟨ints [m1, m2, m3, m4, m5]⟩) H n = T14 c (ptr n) v1 v2 (ptr (n + 2)) (ptr (n + 3)) H' n' ∧ Copied H n H' n' x y z np nk ps ks [m1, m2, m3, m4, m5] := by
  obtain ⟨x', y', z', hxyz, h1, h2, h3⟩ := hg.eq
  cases hxyz
  have bz0 : bigOk nk 5 40 = true := by
    unfold bigOk at bz ⊢
    simp at bz ⊢
    omega
  unfold B14_0
  rw [boxK_eq, boxK_eq]
  simp only [cellsV]
  have k1 : Keep n H ((H.set n (some (.cells [x, y, z] 26 false none))).set (n + 1) (some (.cells (ints [m1, m2, m3, m4, m5]) 94 false none))) := ((Keep.refl n H).set (Nat.le_refl _) _).set (by omega) _
  have g1 : ((H.set n (some (.cells [x, y, z] 26 false none))).set (n + 1) (some (.cells (ints [m1, m2, m3, m4, m5]) 94 false none))).get n = some (.cells [x, y, z] 26 false none) := by
    rw [Tr.get_set, if_neg (by omega), Tr.get_set, if_pos rfl]
  have w1 : ((H.set n (some (.cells [x, y, z] 26 false none))).set (n + 1) (some (.cells (ints [m1, m2, m3, m4, m5]) 94 false none))).get (n + 1) = some (.cells (ints [m1, m2, m3, m4, m5]) 94 false none) := by
    rw [Tr.get_set, if_pos rfl]
  generalize (H.set n (some (.cells [x, y, z] 26 false none))).set (n + 1) (some (.cells (ints [m1, m2, m3, m4, m5]) 94 false none)) = H1 at k1 g1 w1 ⊢
  have ld26 : ∀ H2 : Hp, H2.get n = some (.cells [x, y, z] 26 false none) → loadV P H2 26 ⟨n, 0, none⟩ = some (.agg ⟨[x, y, z]⟩) := fun H2 h => load26 (cells_at h) h1.hole.1 h2.hole.1 h3.hole.1
  have ld22 : ∀ H2 : Hp, H2.get n = some (.cells [x, y, z] 26 false none) → loadV P H2 22 ⟨n, 0 + 0, none⟩ = some x := fun H2 h => loadV_scalar (cells_at h) agg22 rfl h1.hole.1 h1.hole.2
  have ld24 : ∀ H2 : Hp, H2.get n = some (.cells [x, y, z] 26 false none) → loadV P H2 24 ⟨n, 0 + 2, none⟩ = some z := fun H2 h => loadV_scalar (cells_at h) agg24 rfl h3.hole.1 h3.hole.2
  have lx : leafV x = true := ez_leaf h1
  have ly : leafV y = true := ez_leaf h2
  have lz : leafV z = true := ez_leaf h3
  simp only [ptr, addrV_eq, bindO_some, ld26 H1 g1, ez_zero26, newK]
  have k3 : ∀ b, b < n + 2 → ((H1.set (n + 2) (some (.cells [.slice none 0 0, .slice none 0 0, .slice none 0 0] 26 false none))).set (n + 3) (some (.cells [.slice none 0 0, .slice none 0 0, .slice none 0 0] 26 false none))).get b = H1.get b := fun b hb => by
    rw [Tr.get_set, if_neg (by omega), Tr.get_set, if_neg (by omega)]
  have x3 : ((H1.set (n + 2) (some (.cells [.slice none 0 0, .slice none 0 0, .slice none 0 0] 26 false none))).set (n + 3) (some (.cells [.slice none 0 0, .slice none 0 0, .slice none 0 0] 26 false none))).get (n + 2) = some (.cells [.slice none 0 0, .slice none 0 0, .slice none 0 0] 26 false none) := by
    rw [Tr.get_set, if_neg (by omega), Tr.get_set, if_pos rfl]
  have y3 : ((H1.set (n + 2) (some (.cells [.slice none 0 0, .slice none 0 0, .slice none 0 0] 26 false none))).set (n + 3) (some (.cells [.slice none 0 0, .slice none 0 0, .slice none 0 0] 26 false none))).get (n + 3) = some (.cells [.slice none 0 0, .slice none 0 0, .slice none 0 0] 26 false none) := by
    rw [Tr.get_set, if_pos rfl]
  generalize (H1.set (n + 2) (some (.cells [.slice none 0 0, .slice none 0 0, .slice none 0 0] 26 false none))).set (n + 3) (some (.cells [.slice none 0 0, .slice none 0 0, .slice none 0 0] 26 false none)) = H3 at k3 x3 y3 ⊢
  have g3 : H3.get n = some (.cells [x, y, z] 26 false none) := (k3 n (by omega)).trans g1
  rw [effK_l (a := ⟨n, 0, none⟩) g3, ez_store26]
  have x4 : (H3.set n (some (.cells [x, y, z] 26 true none))).get (n + 2) = some (.cells [.slice none 0 0, .slice none 0 0, .slice none 0 0] 26 false none) := by
    rw [Tr.get_set, if_neg (by omega)]; exact x3
  rw [ez_three x4 lx ly lz, bindO_some]
  have e4 : ((H3.set n (some (.cells [x, y, z] 26 true none))).set (n + 2) (some (.cells [x, y, z] 26 false none))).get n = some (.cells [x, y, z] 26 true none) := by
    rw [Tr.get_set, if_neg (by omega), Tr.get_set, if_pos rfl]
  simp only [e4, bindO_some, g3]
  have k5 : ∀ b, b ≠ n + 2 → (((H3.set n (some (.cells [x, y, z] 26 true none))).set (n + 2) (some (.cells [x, y, z] 26 false none))).set n (some (.cells [x, y, z] 26 false none))).get b = H3.get b := fun b hb => by
    by_cases q : b = n
    · rw [q, Tr.get_set, if_pos rfl, g3]
    · rw [Tr.get_set, if_neg q, Tr.get_set, if_neg hb, Tr.get_set, if_neg q]
  have x5 : (((H3.set n (some (.cells [x, y, z] 26 true none))).set (n + 2) (some (.cells [x, y, z] 26 false none))).set n (some (.cells [x, y, z] 26 false none))).get (n + 2) = some (.cells [x, y, z] 26 false none) := by
    rw [Tr.get_set, if_neg (by omega), Tr.get_set, if_pos rfl]
  generalize ((H3.set n (some (.cells [x, y, z] 26 true none))).set (n + 2) (some (.cells [x, y, z] 26 false none))).set n (some (.cells [x, y, z] 26 false none)) = H5 at k5 x5 ⊢
  have y5 := (k5 (n + 3) (by omega)).trans y3
  rw [ez_store26, ez_three y5 lx ly lz, bindO_some]
  have k6 : ∀ b, b ≠ n + 3 → (H5.set (n + 3) (some (.cells [x, y, z] 26 false none))).get b = H5.get b := fun b hb => by rw [Tr.get_set, if_neg hb]
  have y6 : (H5.set (n + 3) (some (.cells [x, y, z] 26 false none))).get (n + 3) = some (.cells [x, y, z] 26 false none) := by rw [Tr.get_set, if_pos rfl]
  generalize H5.set (n + 3) (some (.cells [x, y, z] 26 false none)) = H6 at k6 y6 ⊢
  have x6 := (k6 (n + 2) (by omega)).trans x5
  have l6 : ∀ b, b < n + 2 → H6.get b = H1.get b := fun b hb => ((k6 b (by omega)).trans (k5 b (by omega))).trans (k3 b hb)
  have g6 := (l6 n (by omega)).trans g1
  have w6 := (l6 (n + 1) (by omega)).trans w1
  have n6 : Keep n H H6 := fun b hb => (l6 b (by omega)).trans (k1 b hb)
  unfold rowK
  rw [ez_row22, bindO_some]
  simp only [newK]
  have l7 : ∀ b, b ≠ n + 4 → (H6.set (n + 4) (some (.cells [] 95 false none))).get b = H6.get b := fun b hb => by rw [Tr.get_set, if_neg hb]
  have b7 : (H6.set (n + 4) (some (.cells [] 95 false none))).get (n + 4) = some (.cells [] 95 false none) := by rw [Tr.get_set, if_pos rfl]
  generalize H6.set (n + 4) (some (.cells [] 95 false none)) = H7 at l7 b7 ⊢
  have n7 : Keep n H H7 := fun b hb => (l7 b (by omega)).trans (n6 b hb)
  obtain ⟨H8, e8, k8, c8⟩ := append_copy (P := P) (t := 22) (t2 := 22) (n := n + 5) b7 ez_sl22 ez_sl22 sz95 ez_by95 ez_zero95 rfl (sx.keep n7 (by omega)) bx
  have hN := copyN_le (n + 5) np
  have l8 : ∀ b, b < n + 4 → H8.get b = H6.get b := fun b hb => (k8 b (by omega)).trans (l7 b (by omega))
  rw [fa26_0, bindO_some, addrV_eq, bindO_some, ld22 H7 ((l7 n (by omega)).trans g6), bindO_some, e8]
  simp only [stK, bindO_some, bare]
  generalize copyN (n + 5) np = N at hN ⊢
  have x8 := (l8 (n + 2) (by omega)).trans x6
  rw [fa26_0, bindO_some, storeP_leaf ez_sz22 (copyVal_leaf _ _ _), ez_first x8 (copyVal_leaf _ _ _), bindO_some]
  have l9 : ∀ b, b ≠ n + 2 → (H8.set (n + 2) (some (.cells [copyVal (n + 4) (n + 5) np, y, z] 26 false none))).get b = H8.get b := fun b hb => by rw [Tr.get_set, if_neg hb]
  have x9 : (H8.set (n + 2) (some (.cells [copyVal (n + 4) (n + 5) np, y, z] 26 false none))).get (n + 2) = some (.cells [copyVal (n + 4) (n + 5) np, y, z] 26 false none) := by rw [Tr.get_set, if_pos rfl]
  generalize H8.set (n + 2) (some (.cells [copyVal (n + 4) (n + 5) np, y, z] 26 false none)) = H9 at l9 x9 ⊢
  rw [ez_row24, bindO_some]
  have l10 : ∀ b, b ≠ N → (H9.set N (some (.cells [] 94 false none))).get b = H9.get b := fun b hb => by rw [Tr.get_set, if_neg hb]
  have b10 : (H9.set N (some (.cells [] 94 false none))).get N = some (.cells [] 94 false none) := by rw [Tr.get_set, if_pos rfl]
  generalize H9.set N (some (.cells [] 94 false none)) = H10 at l10 b10 ⊢
  have m10 : ∀ b, b < n + 4 → b ≠ n + 2 → H10.get b = H6.get b := fun b hb hb2 => ((l10 b (by omega)).trans (l9 b hb2)).trans (l8 b hb)
  have w10 := (m10 (n + 1) (by omega) (by omega)).trans w6
  have lm : loadV P H10 94 ⟨n + 1, 0, none⟩ = some (.agg ⟨ints [m1, m2, m3, m4, m5]⟩) := by
    have := loadV_agg (P := P) (t := 94) (k := 0) (s := 5) (cells_at w10) agg94 sz94 (by simp [ints]) (ints_noHole _)
    exact this
  rw [fa26_2, bindO_some, addrV_eq, bindO_some, ld24 H10 ((m10 n (by omega) (by omega)).trans g6), bindO_some, lm, bindO_some, ez_row24_1, bindO_some]
  have l11 : ∀ b, b ≠ N + 1 → (H10.set (N + 1) (some (.cells (ints [m1, m2, m3, m4, m5]) 94 false none))).get b = H10.get b := fun b hb => by rw [Tr.get_set, if_neg hb]
  have b11 : (H10.set (N + 1) (some (.cells (ints [m1, m2, m3, m4, m5]) 94 false none))).get (N + 1) = some (.cells (ints [m1, m2, m3, m4, m5]) 94 false none) := by rw [Tr.get_set, if_pos rfl]
  generalize H10.set (N + 1) (some (.cells (ints [m1, m2, m3, m4, m5]) 94 false none)) = H11 at l11 b11 ⊢
  have w11 := (l11 (n + 1) (by omega)).trans w10
  rw [effK_al (a := ⟨n + 1, 0, none⟩) w11]
  have hm : ∀ b, b ≠ n + 1 → b ≠ N + 1 → ((H11.set (n + 1) (some (.cells (ints [m1, m2, m3, m4, m5]) 94 true none))).set (N + 1) none).get b = H11.get b := fun b h1 h2 => by rw [Tr.get_set, if_neg h2, Tr.get_set, if_neg h1]
  have hw : ((H11.set (n + 1) (some (.cells (ints [m1, m2, m3, m4, m5]) 94 true none))).set (N + 1) none).get (n + 1) = some (.cells (ints [m1, m2, m3, m4, m5]) 94 true none) := by rw [Tr.get_set, if_neg (by omega), Tr.get_set, if_pos rfl]
  generalize (H11.set (n + 1) (some (.cells (ints [m1, m2, m3, m4, m5]) 94 true none))).set (N + 1) none = Hm at hm hw ⊢
  have m11 : ∀ b, b < n + 4 → b ≠ n + 2 → H11.get b = H6.get b := fun b hb hb2 => (l11 b (by omega)).trans (m10 b hb hb2)
  have nm : Keep n H Hm := fun b hb => ((hm b (by omega) (by omega)).trans (m11 b (by omega) (by omega))).trans (n6 b hb)
  obtain ⟨H12, e12, k12, c12⟩ := append_copy (P := P) (t := 24) (t2 := 24) (n := N + 2) ((hm N (by omega) (by omega)).trans ((l11 N (by omega)).trans b10)) ez_sl24 ez_sl24 sz94 ez_by94 zero94 rfl (sz.keep nm (by omega)) bz0
  have hM := copyN_le (N + 2) nk
  simp only [bare] at e12
  rw [e12]
  simp only [bindO_some]
  generalize copyN (N + 2) nk = M at hM ⊢
  have w12 := (k12 (n + 1) (by omega)).trans hw
  simp only [w12, bindO_some]
  have l13 : ∀ b, b ≠ n + 1 → b ≠ N + 1 → ((H12.set (n + 1) (H11.get (n + 1))).set (N + 1) (H11.get (N + 1))).get b = H12.get b := fun b h1 h2 => by rw [Tr.get_set, if_neg h2, Tr.get_set, if_neg h1]
  have w13 : ((H12.set (n + 1) (H11.get (n + 1))).set (N + 1) (H11.get (N + 1))).get (N + 1) = some (.cells (ints [m1, m2, m3, m4, m5]) 94 false none) := by rw [Tr.get_set, if_pos rfl, b11]
  have v13 : ((H12.set (n + 1) (H11.get (n + 1))).set (N + 1) (H11.get (N + 1))).get (n + 1) = H11.get (n + 1) := by rw [Tr.get_set, if_neg (by omega), Tr.get_set, if_pos rfl]
  generalize (H12.set (n + 1) (H11.get (n + 1))).set (N + 1) (H11.get (N + 1)) = H13 at l13 w13 v13 ⊢
  have k13 : ∀ b, b < N + 2 → H13.get b = H11.get b := fun b hb => by
    by_cases q1 : b = n + 1
    · rw [q1, v13]
    · by_cases q2 : b = N + 1
      · rw [q2, w13, b11]
      · rw [l13 b q1 q2, k12 b hb, hm b q1 q2]
  have c13 : CopyAt H13 N (N + 2) nk 5 94 ks := ⟨c12.1, fun h => by rw [l13 N (by omega) (by omega)]; exact c12.2.1 h, fun h => by rw [l13 (N + 2) (by omega) (by omega)]; exact c12.2.2 h⟩
  obtain ⟨H14, e14, q14, k14⟩ := append_more (P := P) (t := 24) (t2 := 24) (n := M) (cap2 := 1) c13 ez_sl24 ez_sl24 sz94 ez_by94 zero94 rfl (cells_at w13) rfl bz
  simp only [bare] at e14
  rw [e14]
  simp only [bindO_some]
  have l14 : ∀ b, b < N + 2 → H14.get b = H11.get b := fun b hb => (k14 b (by omega) (by omega)).trans (k13 b hb)
  have y14 : H14.get (n + 3) = some (.cells [x, y, z] 26 false none) := ((l14 _ (by omega)).trans (m11 _ (by omega) (by omega))).trans y6
  rw [fa26_2, bindO_some, storeP_leaf ez_sz24 rfl, ez_third y14 rfl, bindO_some]
  have l15 : ∀ b, b ≠ n + 3 → (H14.set (n + 3) (some (.cells [x, y, .slice (some ⟨M, 0, none⟩) (nk + 1) capV] 26 false none))).get b = H14.get b := fun b hb => by rw [Tr.get_set, if_neg hb]
  have y15 : (H14.set (n + 3) (some (.cells [x, y, .slice (some ⟨M, 0, none⟩) (nk + 1) capV] 26 false none))).get (n + 3) = some (.cells [x, y, .slice (some ⟨M, 0, none⟩) (nk + 1) capV] 26 false none) := by rw [Tr.get_set, if_pos rfl]
  refine ⟨H14.set (n + 3) (some (.cells [x, y, .slice (some ⟨M, 0, none⟩) (nk + 1) capV] 26 false none)), M + 1, rfl, ?_⟩
  generalize H14.set (n + 3) (some (.cells [x, y, .slice (some ⟨M, 0, none⟩) (nk + 1) capV] 26 false none)) = H15 at l15 y15 ⊢
  have f15 : ∀ b, b < N → b ≠ n + 2 → b ≠ n + 3 → H15.get b = H8.get b := fun b h1 h2 h3 => ((((l15 b h3).trans (l14 b (by omega))).trans (l11 b (by omega))).trans (l10 b (by omega))).trans (l9 b h2)
  refine ⟨by omega, fun b hb => ?_, ?_, ⟨n + 4, n + 5, by omega, by omega, by omega, fun h => ?_, ?_, c8.1, fun h => ?_, fun h => ?_⟩, ⟨M, by omega, by omega, y15, ?_⟩⟩
  · exact ((f15 b (by omega) (by omega) (by omega)).trans (l8 b (by omega))).trans (n6 b hb)
  · exact ((f15 n (by omega) (by omega) (by omega)).trans (l8 n (by omega))).trans g6
  · have := hN.2.2 h; omega
  · exact (((l15 _ (by omega)).trans (l14 _ (by omega))).trans ((l11 _ (by omega)).trans (l10 _ (by omega)))).trans x9
  · exact (f15 _ (by omega) (by omega) (by omega)).trans (c8.2.1 h)
  · have := hN.2.2 h
    exact (f15 _ (by omega) (by omega) (by omega)).trans (c8.2.2 h)
  · exact (l15 M (by omega)).trans q14
end Go.Proofs.Ytekajfobmnedjaa.spec
end
section
namespace Go.Proofs.Ytekajfobmnedjaa.spec
open Go Go.Ev Go.Proofs.Ytekajfobmnedjaa.nestFits Go.Proofs.Ytekajfobmnedjaa.G
set_option maxRecDepth 100000
variable {ρ : Type}
theorem holds_loop (l k : Nat) {g b np nj : Nat} {f : Nat → Value} {x y z : Value} {ps js X : List Int} (hs : SiteF f x y z js nj) (hnp : np ≤ 8) (hX : X.length = 16) : ∀ (m i : Nat) (H : Hp) (n : Nat), g < n → b < n → CellsF H g 859 117 f → H.get b = some (.cells (ints X) 111 false none) → SliceR H n 2 x np ps → i ≤ np → np - i ≤ m →
    ∃ r, Ret (S111_1 (cal (l + 1)) k m (.pointer (some ⟨g, 0, none⟩)) (.pointer (some ⟨b, 0, none⟩)) (.int .i64 np) (.int .i64 i) H n) n H (.bool r) ∧ (r = true ↔ ∀ p, i ≤ p → p < np → overB X ps p = false) := by
  have lX : (ints X).length = 16 := by rw [ints_length, hX]
  have body : ∀ (b1 : Value → Value → Value → Value → Hp → Nat → Res) (m i : Nat) (H : Hp) (n : Nat), g < n → b < n → CellsF H g 859 117 f → H.get b = some (.cells (ints X) 111 false none) → SliceR H n 2 x np ps → i ≤ np →
      (∀ H' n', n ≤ n' → Keep n H H' → i < np → ∃ r, Ret (b1 (.pointer (some ⟨g, 0, none⟩)) (.pointer (some ⟨b, 0, none⟩)) (.int .i64 np) (.int .i64 ((i + 1 : Nat) : Int)) H' n') n' H' (.bool r) ∧ (r = true ↔ ∀ p, i + 1 ≤ p → p < np → overB X ps p = false)) →
      ∃ r, Ret (C111_1 (cal (l + 1)) k m b1 (.pointer (some ⟨g, 0, none⟩)) (.pointer (some ⟨b, 0, none⟩)) (.int .i64 np) (.int .i64 i) H n) n H (.bool r) ∧ (r = true ↔ ∀ p, i ≤ p → p < np → overB X ps p = false) := by
    intro b1 m i H n hg hb hf hbx hx hi ih
    unfold C111_1 B111_1
    rw [binK_some bin_lss, ifK_d]
    by_cases hlt : i < np
    · have hI : I64 ((i : Int) + 1) := by unfold I64; omega
      have hcast : ((i : Int) + 1) = ((i + 1 : Nat) : Int) := by omega
      obtain ⟨H2, n2, c1, c2, c3⟩ := over_call (ρ := Value × Hp × Nat) (l + 0) hg hf hs hx hlt hnp hX
      rw [if_pos (by omega), addrV_eq, bindO_some, load_all hbx agg111 sz111 lX, bindO_some, c1]
      cases hd : overB X ps i with
      | true =>
        have hd' : decide (ps.getD (i * 2 + 1) 0 < X.getD (i * 2 + 1) 0) = true := hd
        rw [hd', ifK_t]
        exact ⟨false, ⟨H2, n2, rfl, c2, c3⟩, ⟨fun h => (by cases h), fun h => absurd (h i (Nat.le_refl _) hlt) (by rw [hd]; simp)⟩⟩
      | false =>
        have hd' : decide (ps.getD (i * 2 + 1) 0 < X.getD (i * 2 + 1) 0) = false := hd
        rw [hd', ifK_f, binK_some (bin_add hI), hcast]
        obtain ⟨r, ⟨H3, n3, e1, e2, e3⟩, e4⟩ := ih H2 n2 c2 c3 hlt
        refine ⟨r, ⟨H3, n3, e1, by omega, c3.trans e3 c2⟩, e4.trans ?_⟩
        refine ⟨fun h p q1 q2 => ?_, fun h p q1 q2 => h p (by omega) q2⟩
        rcases Nat.eq_or_lt_of_le q1 with q | q
        · subst q; exact hd
        · exact h p q q2
    · have hi' : i = np := by omega
      subst hi'
      rw [if_neg (by omega)]
      exact ⟨true, ⟨H, n, rfl, Nat.le_refl _, Keep.refl _ _⟩, ⟨fun _ p q1 q2 => by omega, fun _ => rfl⟩⟩
  intro m
  induction m with
  | zero => intro i H n h1 h2 h3 h4 h5 h6 h7; exact body _ 0 i H n h1 h2 h3 h4 h5 h6 (fun _ _ _ _ h => by omega)
  | succ m ih => intro i H n h1 h2 h3 h4 h5 h6 h7; exact body _ (m + 1) i H n h1 h2 h3 h4 h5 h6 (fun H' n' q1 q2 q3 => ih (i + 1) H' n' (by omega) (by omega) (h3.keep q2 h1) ((q2 b h2).trans h4) ((h5.keep q2 (Nat.le_refl _)).up q1) (by omega) (by omega))
theorem call111 (l : Nat) (a b : Value) (H : Hp) (n : Nat) : (cal (l + 1)).call 111 [a, b] H n = C111_0 (cal l) KK a b H n := by kernel_rfl
theorem holds_call (l : Nat) {H : Hp} {n g np nj : Nat} {f : Nat → Value} {x y z : Value} {ps js X : List Int} (hg : g < n) (hf : CellsF H g 859 117 f) (hs : SiteF f x y z js nj) (hx : SliceR H n 2 x np ps) (hnp : np ≤ 8) (hX : X.length = 16) :
    ∃ (r : Bool) (H' : Hp) (n' : Nat), (r = true ↔ ∀ p, p < np → overB X ps p = false) ∧ (∀ k : Value → Hp → Nat → Option ρ, callFK P (cal (l + 2)) 111 [.pointer (some ⟨g, 0, none⟩), .agg ⟨ints X⟩] H n k = k (.bool r) H' n') ∧ n ≤ n' ∧ Keep n H H' := by
  have hk : Keep n H (H.set n (some (.cells (ints X) 111 false none))) := (Keep.refl n H).set (Nat.le_refl _) _
  have hb : (H.set n (some (.cells (ints X) 111 false none))).get n = some (.cells (ints X) 111 false none) := by rw [Tr.get_set, if_pos rfl]
  obtain ⟨r, ⟨H', n', e1, e2, e3⟩, e4⟩ := holds_loop l KK hs hnp hX KK 0 (H.set n (some (.cells (ints X) 111 false none))) (n + 1) (by omega) (Nat.lt_succ_self n) (hf.keep hk hg) hb ((hx.keep hk (Nat.le_refl _)).up (by omega)) (by omega) (by unfold KK; omega)
  refine ⟨r, H', n', ?_, fun k => ?_, by omega, hk.trans e3 (by omega)⟩
  · exact e4.trans ⟨fun h p hp => h p (Nat.zero_le _) hp, fun h p _ hp => h p hp⟩
  · unfold callFK
    have : (flatF P 111 && pureL [.pointer (some ⟨g, 0, none⟩), .agg ⟨ints X⟩]) = false := by rw [Bool.and_eq_false_iff]; exact .inr rfl
    rw [this, call111]
    unfold C111_0 B111_0
    generalize hS : S111_1 (cal (l + 1)) KK KK = S
    have lx : loadV P (H.set n (some (.cells (ints X) 111 false none))) 31 ⟨g, 0 + 0 + 0, none⟩ = some x := by
      have := (hf.keep hk hg).load (P := P) (k := 0) agg31 (by omega)
      rw [hs.x] at this; exact this
    rw [boxK_eq]
    simp only [cellsV, ptr]
    rw [nil_ptr, bindO_some, fa117_0, bindO_some, fa35_0, bindO_some, addrV_eq, bindO_some, lx, bindO_some, hx.len_eq und31, bindO_some, ← hS]
    exact congrArg (fun r => bindO r _) e1
def RightX (X ps : List Int) (np : Nat) : Prop := ∀ p, p < np → missB X ps p = false ∧ overB X ps p = false
theorem right_loop (l k : Nat) {g b np nj : Nat} {f : Nat → Value} {x y z : Value} {ps js X : List Int} (hs : SiteF f x y z js nj) (hnp : np ≤ 8) (hX : X.length = 16) : ∀ (m i : Nat) (H : Hp) (n : Nat), g < n → b < n → CellsF H g 859 117 f → H.get b = some (.cells (ints X) 111 false none) → SliceR H n 2 x np ps → i ≤ np → np - i ≤ m →
    ∃ r, Ret (S83_1 (cal (l + 3)) k m (.pointer (some ⟨g, 0, none⟩)) (.pointer (some ⟨b, 0, none⟩)) (.int .i64 np) (.int .i64 i) H n) n H (.bool r) ∧ (r = true ↔ (∀ p, i ≤ p → p < np → missB X ps p = false) ∧ ∀ p, p < np → overB X ps p = false) := by
  have lX : (ints X).length = 16 := by rw [ints_length, hX]
  have body : ∀ (b1 : Value → Value → Value → Value → Hp → Nat → Res) (m i : Nat) (H : Hp) (n : Nat), g < n → b < n → CellsF H g 859 117 f → H.get b = some (.cells (ints X) 111 false none) → SliceR H n 2 x np ps → i ≤ np →
      (∀ H' n', n ≤ n' → Keep n H H' → i < np → ∃ r, Ret (b1 (.pointer (some ⟨g, 0, none⟩)) (.pointer (some ⟨b, 0, none⟩)) (.int .i64 np) (.int .i64 ((i + 1 : Nat) : Int)) H' n') n' H' (.bool r) ∧ (r = true ↔ (∀ p, i + 1 ≤ p → p < np → missB X ps p = false) ∧ ∀ p, p < np → overB X ps p = false)) →
      ∃ r, Ret (C83_1 (cal (l + 3)) k m b1 (.pointer (some ⟨g, 0, none⟩)) (.pointer (some ⟨b, 0, none⟩)) (.int .i64 np) (.int .i64 i) H n) n H (.bool r) ∧ (r = true ↔ (∀ p, i ≤ p → p < np → missB X ps p = false) ∧ ∀ p, p < np → overB X ps p = false) := by
    intro b1 m i H n hg hb hf hbx hx hi ih
    unfold C83_1 B83_1
    rw [binK_some bin_lss, ifK_d]
    by_cases hlt : i < np
    · have hI : I64 ((i : Int) + 1) := by unfold I64; omega
      have hcast : ((i : Int) + 1) = ((i + 1 : Nat) : Int) := by omega
      obtain ⟨H2, n2, c1, c2, c3⟩ := missed_call (ρ := Value × Hp × Nat) (l + 2) hg hf hs hx hlt hnp hX
      rw [if_pos (by omega), addrV_eq, bindO_some, load_all hbx agg111 sz111 lX, bindO_some, c1]
      cases hd : missB X ps i with
      | true =>
        have hd' : decide (X.getD (i * 2) 0 < ps.getD (i * 2) 0) = true := hd
        rw [hd', ifK_t]
        exact ⟨false, ⟨H2, n2, rfl, c2, c3⟩, ⟨fun h => (by cases h), fun h => absurd (h.1 i (Nat.le_refl _) hlt) (by rw [hd]; simp)⟩⟩
      | false =>
        have hd' : decide (X.getD (i * 2) 0 < ps.getD (i * 2) 0) = false := hd
        rw [hd', ifK_f, binK_some (bin_add hI), hcast]
        obtain ⟨r, ⟨H3, n3, e1, e2, e3⟩, e4⟩ := ih H2 n2 c2 c3 hlt
        refine ⟨r, ⟨H3, n3, e1, by omega, c3.trans e3 c2⟩, e4.trans ?_⟩
        refine ⟨fun h => ⟨fun p q1 q2 => ?_, h.2⟩, fun h => ⟨fun p q1 q2 => h.1 p (by omega) q2, h.2⟩⟩
        rcases Nat.eq_or_lt_of_le q1 with q | q
        · subst q; exact hd
        · exact h.1 p q q2
    · have hi' : i = np := by omega
      subst hi'
      rw [if_neg (by omega)]
      obtain ⟨r, H2, n2, c0, c1, c2, c3⟩ := holds_call (ρ := Value × Hp × Nat) (l + 1) hg hf hs hx hnp hX
      rw [addrV_eq, bindO_some, load_all hbx agg111 sz111 lX, bindO_some, c1]
      exact ⟨r, ⟨H2, n2, rfl, c2, c3⟩, c0.trans ⟨fun h => ⟨fun p q1 q2 => by omega, h⟩, fun h => h.2⟩⟩
  intro m
  induction m with
  | zero => intro i H n h1 h2 h3 h4 h5 h6 h7; exact body _ 0 i H n h1 h2 h3 h4 h5 h6 (fun _ _ _ _ h => by omega)
  | succ m ih => intro i H n h1 h2 h3 h4 h5 h6 h7; exact body _ (m + 1) i H n h1 h2 h3 h4 h5 h6 (fun H' n' q1 q2 q3 => ih (i + 1) H' n' (by omega) (by omega) (h3.keep q2 h1) ((q2 b h2).trans h4) ((h5.keep q2 (Nat.le_refl _)).up q1) (by omega) (by omega))
theorem call83 (l : Nat) (a b : Value) (H : Hp) (n : Nat) : (cal (l + 1)).call 83 [a, b] H n = C83_0 (cal l) KK a b H n := by kernel_rfl
theorem right_call (l : Nat) {H : Hp} {n g np nj : Nat} {f : Nat → Value} {x y z : Value} {ps js X : List Int} (hg : g < n) (hf : CellsF H g 859 117 f) (hs : SiteF f x y z js nj) (hx : SliceR H n 2 x np ps) (hnp : np ≤ 8) (hX : X.length = 16) :
    ∃ (r : Bool) (H' : Hp) (n' : Nat), (r = true ↔ RightX X ps np) ∧ (∀ k : Value → Hp → Nat → Option ρ, callFK P (cal (l + 4)) 83 [.pointer (some ⟨g, 0, none⟩), .agg ⟨ints X⟩] H n k = k (.bool r) H' n') ∧ n ≤ n' ∧ Keep n H H' := by
  have hk : Keep n H (H.set n (some (.cells (ints X) 111 false none))) := (Keep.refl n H).set (Nat.le_refl _) _
  have hb : (H.set n (some (.cells (ints X) 111 false none))).get n = some (.cells (ints X) 111 false none) := by rw [Tr.get_set, if_pos rfl]
  obtain ⟨r, ⟨H', n', e1, e2, e3⟩, e4⟩ := right_loop l KK hs hnp hX KK 0 (H.set n (some (.cells (ints X) 111 false none))) (n + 1) (by omega) (Nat.lt_succ_self n) (hf.keep hk hg) hb ((hx.keep hk (Nat.le_refl _)).up (by omega)) (by omega) (by unfold KK; omega)
  refine ⟨r, H', n', ?_, fun k => ?_, by omega, hk.trans e3 (by omega)⟩
  · exact e4.trans ⟨fun h p hp => ⟨h.1 p (Nat.zero_le _) hp, h.2 p hp⟩, fun h => ⟨fun p _ hp => (h p hp).1, fun p hp => (h p hp).2⟩⟩
  · unfold callFK
    have : (flatF P 83 && pureL [.pointer (some ⟨g, 0, none⟩), .agg ⟨ints X⟩]) = false := by rw [Bool.and_eq_false_iff]; exact .inr rfl
    rw [this, call83]
    unfold C83_0 B83_0
    generalize hS : S83_1 (cal (l + 3)) KK KK = S
    have lx : loadV P (H.set n (some (.cells (ints X) 111 false none))) 31 ⟨g, 0 + 0 + 0, none⟩ = some x := by
      have := (hf.keep hk hg).load (P := P) (k := 0) agg31 (by omega)
      rw [hs.x] at this; exact this
    rw [boxK_eq]
    simp only [cellsV, ptr]
    rw [nil_ptr, bindO_some, fa117_0, bindO_some, fa35_0, bindO_some, addrV_eq, bindO_some, lx, bindO_some, hx.len_eq und31, bindO_some, ← hS]
    exact congrArg (fun r => bindO r _) e1
end Go.Proofs.Ytekajfobmnedjaa.spec
end
section
namespace Go.Proofs.Ytekajfobmnedjaa.spec
open Go Go.Ev Go.Proofs.Ytekajfobmnedjaa.nestFits Go.Proofs.Ytekajfobmnedjaa.G
set_option maxRecDepth 100000
variable {ρ : Type}
end Go.Proofs.Ytekajfobmnedjaa.spec
end
section
namespace Go.Proofs.Ytekajfobmnedjaa.spec
open Go Go.Ev Go.Proofs.Ytekajfobmnedjaa.nestFits Go.Proofs.Ytekajfobmnedjaa.G
set_option maxRecDepth 100000
variable {ρ : Type}
def RightL (js ks ps L : List Int) (nj np : Nat) : Prop := ∀ q, q < np → ¬ bsum js ks L nj np 8 0 q < ps.getD (q * 2) 0 ∧ ¬ ps.getD (q * 2 + 1) 0 < bsum js ks L nj np 8 1 q
theorem right_iff {js ks ps L X : List Int} {nj np : Nat} (hX : RowIs X js ks L nj np 8) (hnp : np ≤ 8) : RightX X ps np ↔ RightL js ks ps L nj np := by
  unfold RightX RightL missB overB
  constructor
  · intro h q hq
    obtain ⟨a, b⟩ := hX.2 q (by omega)
    obtain ⟨c, d⟩ := h q hq
    rw [← a, ← b]
    exact ⟨of_decide_eq_false c, of_decide_eq_false d⟩
  · intro h q hq
    obtain ⟨a, b⟩ := hX.2 q (by omega)
    obtain ⟨c, d⟩ := h q hq
    rw [← a] at c
    rw [← b] at d
    exact ⟨decide_eq_false c, decide_eq_false d⟩
theorem at121 (b : Nat) {i : Nat} (hi : i < 8) : indexAddrV P 121 (.pointer (some ⟨b, 0, none⟩)) (.int .i64 i) = some (.pointer (some ⟨b, 0 + i * 1, none⟩)) := by
  unfold indexAddrV
  have : idxIn (.int .i64 (i : Int)) 8 = some i := by
    show idxIn (.int .i64 (.ofNat i)) 8 = some i
    simp [idxIn, hi]
  simp only [und121, this, sz3]
  rfl
end Go.Proofs.Ytekajfobmnedjaa.spec
end
section
namespace Go.Proofs.Ytekajfobmnedjaa.spec
open Go Go.Ev Go.Proofs.Ytekajfobmnedjaa.nestFits Go.Proofs.Ytekajfobmnedjaa.G
set_option maxRecDepth 100000
def firstN {α : Type} (F : Nat → Option α) (N : Nat) : Nat → Option α
  | 0 => none
  | m + 1 => match F (N - (m + 1)) with
    | some r => some r
    | none => firstN F N m
theorem firstN_step {α : Type} {F : Nat → Option α} {N i : Nat} (h : i < N) : firstN F N (N - i) = match F i with
    | some r => some r
    | none => firstN F N (N - (i + 1)) := by
  have e : N - i = (N - (i + 1)) + 1 := by omega
  have e2 : N - ((N - (i + 1)) + 1) = i := by omega
  rw [e, firstN, e2]
theorem firstN_some {α : Type} {F : Nat → Option α} {N : Nat} : ∀ {m : Nat} {r : α}, m ≤ N → firstN F N m = some r → ∃ k, N - m ≤ k ∧ k < N ∧ F k = some r ∧ ∀ j, N - m ≤ j → j < k → F j = none
  | 0, r, _, h => by cases h
  | m + 1, r, hm, h => by
    unfold firstN at h
    cases c : F (N - (m + 1)) with
    | some r' =>
      rw [c] at h
      cases h
      exact ⟨N - (m + 1), Nat.le_refl _, by omega, c, fun j h1 h2 => absurd h1 (by omega)⟩
    | none =>
      rw [c] at h
      obtain ⟨k, h1, h2, h3, h4⟩ := firstN_some (by omega) h
      refine ⟨k, by omega, h2, h3, fun j q1 q2 => ?_⟩
      by_cases e : j = N - (m + 1)
      · rw [e]; exact c
      · exact h4 j (by omega) q2
theorem firstN_none {α : Type} {F : Nat → Option α} {N : Nat} : ∀ {m : Nat}, m ≤ N → firstN F N m = none → ∀ k, N - m ≤ k → k < N → F k = none
  | 0, _, _, k, h1, h2 => by omega
  | m + 1, hm, h, k, h1, h2 => by
    unfold firstN at h
    cases c : F (N - (m + 1)) with
    | some r' => rw [c] at h; cases h
    | none =>
      rw [c] at h
      by_cases e : k = N - (m + 1)
      · rw [e]; exact c
      · exact firstN_none (by omega) h k (by omega) h2
def findL (R Hd : List Int → Bool) (tk : Nat → Nat → Bool) (np nk : Nat) : Nat → List Int → Nat → Option (List Int)
  | 0, L, left => if Hd L = false ∨ 0 < left then none else if R L = true then some L else none
  | d + 1, L, left => if Hd L = false ∨ d + 1 < left then none else if left = 0 then (if R L = true then some L else none) else
      match findL R Hd tk np nk d L left with
      | some r => some r
      | none => firstN (fun kd => if tk (np - (d + 1)) kd = true then findL R Hd tk np nk d (L.set (np - (d + 1)) (kd : Int)) (left - 1) else none) nk nk
def cntL (L : List Int) : Nat → Nat → Nat
  | _, 0 => 0
  | p, d + 1 => (if L.getD p 0 = -1 then 0 else 1) + cntL L (p + 1) d
theorem cntL_le {L : List Int} : ∀ {p d : Nat}, cntL L p d ≤ d
  | p, 0 => Nat.le_refl _
  | p, d + 1 => by
    have := cntL_le (L := L) (p := p + 1) (d := d)
    simp only [cntL]
    split <;> omega
theorem cntL_zero {L : List Int} : ∀ {p d : Nat}, cntL L p d = 0 → ∀ q, p ≤ q → q < p + d → L.getD q 0 = -1
  | p, 0, _, q, h1, h2 => by omega
  | p, d + 1, h, q, h1, h2 => by
    simp only [cntL] at h
    by_cases c : L.getD p 0 = -1
    · by_cases e : q = p
      · rw [e]; exact c
      · rw [if_pos c] at h
        exact cntL_zero (p := p + 1) (d := d) (by omega) q (by omega) (by omega)
    · rw [if_neg c] at h; omega
structure GoesOn (tk : Nat → Nat → Bool) (nk : Nat) (L : List Int) (p d left : Nat) (M : List Int) : Prop where
  len : M.length = 8
  before : ∀ q, q < p → M.getD q 0 = L.getD q 0
  kinds : ∀ q, p ≤ q → q < p + d → M.getD q 0 = -1 ∨ ∃ kd : Nat, kd < nk ∧ tk q kd = true ∧ M.getD q 0 = kd
  after : ∀ q, p + d ≤ q → q < 8 → M.getD q 0 = -1
  cnt : cntL M p d = left
def lexLt (L M : List Int) (p np : Nat) : Prop := ∃ q, p ≤ q ∧ q < np ∧ L.getD q 0 < M.getD q 0 ∧ ∀ k, p ≤ k → k < q → L.getD k 0 = M.getD k 0
theorem list_ext8 {L M : List Int} (hL : L.length = 8) (hM : M.length = 8) (h : ∀ q, q < 8 → L.getD q 0 = M.getD q 0) : L = M := by
  apply List.ext_getElem?
  intro k
  by_cases hk : k < 8
  · rw [getD_some (by omega), getD_some (by omega), h k hk]
  · rw [List.getElem?_eq_none (by omega), List.getElem?_eq_none (by omega)]
def Open (L : List Int) (p : Nat) : Prop := L.length = 8 ∧ ∀ q, p ≤ q → q < 8 → L.getD q 0 = -1
theorem GoesOn.none {tk : Nat → Nat → Bool} {nk : Nat} {L M : List Int} {p d : Nat} (h : GoesOn tk nk L p d 0 M) (hL : Open L p) : M = L := by
  refine list_ext8 h.len hL.1 fun q hq => ?_
  by_cases c : q < p
  · exact h.before q c
  · rw [hL.2 q (by omega) hq]
    by_cases e : q < p + d
    · exact cntL_zero h.cnt q (by omega) e
    · exact h.after q (by omega) hq
theorem GoesOn.skip {tk : Nat → Nat → Bool} {nk : Nat} {L M : List Int} {p d left : Nat} (h : GoesOn tk nk L p (d + 1) left M) (hp : M.getD p 0 = -1) (hL : Open L p) (hp8 : p < 8) : GoesOn tk nk L (p + 1) d left M := by
  refine ⟨h.len, fun q hq => ?_, fun q h1 h2 => h.kinds q (by omega) (by omega), fun q h1 h2 => h.after q (by omega) h2, ?_⟩
  · by_cases e : q = p
    · rw [e, hp, hL.2 p (Nat.le_refl _) hp8]
    · exact h.before q (by omega)
  · have := h.cnt
    simp only [cntL] at this
    rw [if_pos hp] at this
    omega
theorem GoesOn.put {tk : Nat → Nat → Bool} {nk kd : Nat} {L M : List Int} {p d left : Nat} (h : GoesOn tk nk L p (d + 1) left M) (hp : M.getD p 0 = kd) (hL : Open L p) (hp8 : p < 8) : GoesOn tk nk (L.set p (kd : Int)) (p + 1) d (left - 1) M := by
  refine ⟨h.len, fun q hq => ?_, fun q h1 h2 => h.kinds q (by omega) (by omega), fun q h1 h2 => h.after q (by omega) h2, ?_⟩
  · by_cases e : q = p
    · rw [e, hp, getD_set_same (by rw [hL.1]; exact hp8)]
    · rw [getD_set_ne e]; exact h.before q (by omega)
  · have := h.cnt
    simp only [cntL] at this
    rw [if_neg (by omega)] at this
    omega
theorem GoesOn.of_skip {tk : Nat → Nat → Bool} {nk : Nat} {L M : List Int} {p d left : Nat} (h : GoesOn tk nk L (p + 1) d left M) (hL : Open L p) (hp8 : p < 8) : GoesOn tk nk L p (d + 1) left M ∧ M.getD p 0 = -1 := by
  have hp : M.getD p 0 = -1 := by rw [h.before p (by omega), hL.2 p (Nat.le_refl _) hp8]
  refine ⟨⟨h.len, fun q hq => h.before q (by omega), fun q h1 h2 => ?_, fun q h1 h2 => h.after q (by omega) h2, ?_⟩, hp⟩
  · by_cases e : q = p
    · rw [e]; exact .inl hp
    · exact h.kinds q (by omega) (by omega)
  · simp only [cntL]
    rw [if_pos hp, h.cnt]
    omega
theorem GoesOn.of_put {tk : Nat → Nat → Bool} {nk kd : Nat} {L M : List Int} {p d left : Nat} (h : GoesOn tk nk (L.set p (kd : Int)) (p + 1) d (left - 1) M) (hL : Open L p) (hp8 : p < 8) (hk : kd < nk) (ht : tk p kd = true) (hl : left ≠ 0) : GoesOn tk nk L p (d + 1) left M ∧ M.getD p 0 = kd := by
  have hp : M.getD p 0 = kd := by rw [h.before p (by omega), getD_set_same (by rw [hL.1]; exact hp8)]
  refine ⟨⟨h.len, fun q hq => by rw [h.before q (by omega), getD_set_ne (by omega)], fun q h1 h2 => ?_, fun q h1 h2 => h.after q (by omega) h2, ?_⟩, hp⟩
  · by_cases e : q = p
    · rw [e]; exact .inr ⟨kd, hk, ht, hp⟩
    · exact h.kinds q (by omega) (by omega)
  · simp only [cntL]
    rw [if_neg (by omega), h.cnt]
    omega
theorem Open.skip {L : List Int} {p : Nat} (h : Open L p) : Open L (p + 1) := ⟨h.1, fun q h1 h2 => h.2 q (by omega) h2⟩
theorem Open.put {L : List Int} {p : Nat} {a : Int} (h : Open L p) : Open (L.set p a) (p + 1) := ⟨by simp [h.1], fun q h1 h2 => by rw [getD_set_ne (by omega)]; exact h.2 q (by omega) h2⟩
theorem findL_spec {R Hd : List Int → Bool} {tk : Nat → Nat → Bool} {np nk : Nat} (hnp : np ≤ 8) (prune : ∀ L M p d left, Open L p → p + d = np → GoesOn tk nk L p d left M → R M = true → Hd L = true) : ∀ (d : Nat) (L : List Int) (left p : Nat), p + d = np → Open L p →
    (∀ r, findL R Hd tk np nk d L left = some r → GoesOn tk nk L p d left r ∧ R r = true ∧ ∀ M, GoesOn tk nk L p d left M → R M = true → r = M ∨ lexLt r M p np) ∧
    (findL R Hd tk np nk d L left = none → ∀ M, GoesOn tk nk L p d left M → R M = true → False) := by
  have stop : ∀ (d : Nat) (L : List Int) (p : Nat), p + d = np → Open L p →
      (∀ r, (if R L = true then some L else none) = some r → GoesOn tk nk L p d 0 r ∧ R r = true ∧ ∀ M, GoesOn tk nk L p d 0 M → R M = true → r = M ∨ lexLt r M p np) ∧
      ((if R L = true then some L else none) = none → ∀ M, GoesOn tk nk L p d 0 M → R M = true → False) := by
    intro d L p hpd hL
    constructor
    · intro r h
      by_cases c : R L = true
      · rw [if_pos c] at h
        cases h
        refine ⟨⟨hL.1, fun _ _ => rfl, fun q h1 h2 => .inl (hL.2 q h1 (by omega)), fun q h1 h2 => hL.2 q (by omega) h2, ?_⟩, c, fun M hM _ => .inl (hM.none hL).symm⟩
        have : ∀ d p, p + d = np → Open L p → cntL L p d = 0 := by
          intro d
          induction d with
          | zero => intro p _ _; rfl
          | succ d ih =>
            intro p h1 h2
            simp only [cntL]
            rw [if_pos (h2.2 p (Nat.le_refl _) (by omega)), ih (p + 1) (by omega) h2.skip]
        exact this d p hpd hL
      · rw [if_neg c] at h; cases h
    · intro h M hM hR
      rw [hM.none hL] at hR
      rw [if_pos hR] at h
      cases h
  intro d
  induction d with
  | zero =>
    intro L left p hpd hL
    unfold findL
    by_cases c : Hd L = false ∨ 0 < left
    · rw [if_pos c]
      refine ⟨fun r h => (by cases h), fun _ M hM hR => ?_⟩
      rcases c with c | c
      · rw [prune L M p 0 left hL hpd hM hR] at c; cases c
      · have := hM.cnt
        simp only [cntL] at this
        omega
    · rw [if_neg c]
      have : left = 0 := by
        have := fun h => c (.inr h)
        omega
      subst this
      exact stop 0 L p hpd hL
  | succ d ih =>
    intro L left p hpd hL
    have hp8 : p < 8 := by omega
    have ep : np - (d + 1) = p := by omega
    unfold findL
    rw [ep]
    by_cases c : Hd L = false ∨ d + 1 < left
    · rw [if_pos c]
      refine ⟨fun r h => (by cases h), fun _ M hM hR => ?_⟩
      rcases c with c | c
      · rw [prune L M p (d + 1) left hL hpd hM hR] at c; cases c
      · have := hM.cnt
        have := cntL_le (L := M) (p := p) (d := d + 1)
        omega
    · rw [if_neg c]
      by_cases c0 : left = 0
      · subst c0
        rw [if_pos rfl]
        exact stop (d + 1) L p hpd hL
      · rw [if_neg c0]
        obtain ⟨i1, i2⟩ := ih L left (p + 1) (by omega) hL.skip
        have split : ∀ M, GoesOn tk nk L p (d + 1) left M → M.getD p 0 = -1 ∨ ∃ kd : Nat, kd < nk ∧ tk p kd = true ∧ M.getD p 0 = kd := fun M hM => hM.kinds p (Nat.le_refl _) (by omega)
        cases e : findL R Hd tk np nk d L left with
        | some r0 =>
          refine ⟨fun r h => ?_, fun h => (by cases h)⟩
          cases h
          obtain ⟨a1, a2, a3⟩ := i1 r0 e
          obtain ⟨b1, b2⟩ := a1.of_skip hL hp8
          refine ⟨b1, a2, fun M hM hR => ?_⟩
          rcases split M hM with h | ⟨kd, h1, h2, h3⟩
          · rcases a3 M (hM.skip h hL hp8) hR with z | ⟨q, z1, z2, z3, z4⟩
            · exact .inl z
            · refine .inr ⟨q, by omega, z2, z3, fun k k1 k2 => ?_⟩
              by_cases ek : k = p
              · rw [ek, b2, h]
              · exact z4 k (by omega) k2
          · exact .inr ⟨p, Nat.le_refl _, by omega, by rw [b2, h3]; omega, fun k k1 k2 => absurd k1 (by omega)⟩
        | none =>
          dsimp only
          have none1 := i2 e
          constructor
          · intro r h
            obtain ⟨kd, k1, k2, k3, k4⟩ := firstN_some (Nat.le_refl _) h
            rw [Nat.sub_self] at k1 k4
            by_cases ht : tk p kd = true
            · rw [if_pos ht] at k3
              obtain ⟨a1, a2, a3⟩ := (ih (L.set p (kd : Int)) (left - 1) (p + 1) (by omega) hL.put).1 r k3
              obtain ⟨b1, b2⟩ := a1.of_put hL hp8 k2 ht c0
              refine ⟨b1, a2, fun M hM hR => ?_⟩
              rcases split M hM with h | ⟨kd', h1, h2, h3⟩
              · exact absurd (none1 M (hM.skip h hL hp8) hR) id
              · rcases Nat.lt_trichotomy kd' kd with z | z | z
                · have := k4 kd' (Nat.zero_le _) z
                  rw [if_pos h2] at this
                  exact absurd ((ih (L.set p (kd' : Int)) (left - 1) (p + 1) (by omega) hL.put).2 this M (hM.put h3 hL hp8) hR) id
                · subst z
                  rcases a3 M (hM.put h3 hL hp8) hR with z | ⟨q, z1, z2, z3, z4⟩
                  · exact .inl z
                  · refine .inr ⟨q, by omega, z2, z3, fun k q1 q2 => ?_⟩
                    by_cases ek : k = p
                    · rw [ek, b2, h3]
                    · exact z4 k (by omega) q2
                · exact .inr ⟨p, Nat.le_refl _, by omega, by rw [b2, h3]; omega, fun k q1 q2 => absurd q1 (by omega)⟩
            · rw [if_neg ht] at k3; cases k3
          · intro h M hM hR
            have hn := firstN_none (Nat.le_refl _) h
            rcases split M hM with h' | ⟨kd, h1, h2, h3⟩
            · exact none1 M (hM.skip h' hL hp8) hR
            · have := hn kd (by omega) h1
              rw [if_pos h2] at this
              exact (ih (L.set p (kd : Int)) (left - 1) (p + 1) (by omega) hL.put).2 this M (hM.put h3 hL hp8) hR
end Go.Proofs.Ytekajfobmnedjaa.spec
end
section
namespace Go.Proofs.Ytekajfobmnedjaa.spec
open Go Go.Ev Go.Proofs.Ytekajfobmnedjaa.nestFits Go.Proofs.Ytekajfobmnedjaa.G
set_option maxRecDepth 100000
variable {ρ : Type}
end Go.Proofs.Ytekajfobmnedjaa.spec
end
section
namespace Go.Proofs.Ytekajfobmnedjaa.spec
open Go Go.Ev Go.Proofs.Ytekajfobmnedjaa.nestFits Go.Proofs.Ytekajfobmnedjaa.G
set_option maxRecDepth 100000
variable {ρ : Type}
end Go.Proofs.Ytekajfobmnedjaa.spec
end
section
namespace Go.Proofs.Ytekajfobmnedjaa.spec
open Go Go.Ev Go.Proofs.Ytekajfobmnedjaa.nestFits Go.Proofs.Ytekajfobmnedjaa.G
set_option maxRecDepth 100000
variable {ρ : Type}
theorem bound_load {H : Hp} {g np nj p kd : Nat} {f : Nat → Value} {js ks : List Int} (hf : CellsF H g 859 117 f) (hn : NestAt f js ks nj np p kd) (hp : p < 8) (hkd : kd < 3) :
    ∃ B, BoundsTo (ks.getD (kd * 5) 0) (shP js ks nj np p kd) B 8 ∧ loadV P H 111 ⟨g, 0 + 67 + p * 99 + kd * 33 + 17, none⟩ = some (.agg ⟨ints B⟩) := by
  obtain ⟨B, hB, hj⟩ := hn
  refine ⟨B, hB, ?_⟩
  rw [hf.load_agg agg111 sz111 (by omega)]
  have e : ((List.range 16).map fun j => f (0 + 67 + p * 99 + kd * 33 + 17 + j)) = ints B := by
    apply List.ext_getElem?
    intro j
    by_cases h : j < 16
    · rw [List.getElem?_map, List.getElem?_range h, ints_get (getD_some (by rw [hB.1]; omega))]
      simp only [Option.map_some]
      rw [show 0 + 67 + p * 99 + kd * 33 + 17 + j = 67 + p * 99 + kd * 33 + (17 + j) by omega, hj (17 + j) (by omega)]
      congr 2
      unfold nestL
      rw [List.getD_eq_getElem?_getD, List.getD_eq_getElem?_getD, show 17 + j = (16 + j) + 1 by omega, List.getElem?_cons_succ, List.getElem?_append_right (by rw [shP_len]; omega), shP_len, show 16 + j - 16 = j by omega, ← List.getD_eq_getElem?_getD]
    · rw [List.getElem?_eq_none (by simp; omega), List.getElem?_eq_none (by rw [ints_length, hB.1]; omega)]
  rw [e]
theorem sumTo_put {f g : Nat → Int} {p : Nat} {a : Int} (h : ∀ k, k ≠ p → g k = f k) (hp : g p = f p + a) : ∀ i, sumTo g i = sumTo f i + if p < i then a else 0
  | 0 => by simp [sumTo]
  | i + 1 => by
    have ih := sumTo_put h hp i
    simp only [sumTo]
    rw [ih]
    by_cases c : i = p
    · subst c
      rw [if_neg (by omega), if_pos (by omega), hp]
      omega
    · rw [h i c]
      by_cases d : p < i
      · rw [if_pos d, if_pos (by omega)]; omega
      · rw [if_neg d, if_neg (by omega)]; omega
theorem bsum_put {js ks L : List Int} {nj np p kd : Nat} (hL : L.length = 8) (hp : p < 8) (h1 : L.getD p 0 = -1) (e q : Nat) :
    bsum js ks (L.set p (kd : Int)) nj np 8 e q = bsum js ks L nj np 8 e q + ext (ks.getD (kd * 5) 0) (shP js ks nj np p kd) e q := by
  have := sumTo_put (f := fun p => if L.getD p 0 = -1 then 0 else ext (ks.getD ((L.getD p 0).toNat * 5) 0) (shP js ks nj np p (L.getD p 0).toNat) e q) (g := fun k => if (L.set p (kd : Int)).getD k 0 = -1 then 0 else ext (ks.getD (((L.set p (kd : Int)).getD k 0).toNat * 5) 0) (shP js ks nj np k ((L.set p (kd : Int)).getD k 0).toNat) e q) (p := p) (a := ext (ks.getD (kd * 5) 0) (shP js ks nj np p kd) e q)
    (fun k hk => by simp only [getD_set_ne hk]) (by
      simp only [getD_set_same (show p < L.length by omega)]
      rw [if_pos h1, if_neg (by omega), Int.toNat_natCast]
      omega) 8
  rw [if_pos hp] at this
  exact this
theorem row_put {js ks L X B Z : List Int} {nj np p kd : Nat} (hL : L.length = 8) (hp : p < 8) (h1 : L.getD p 0 = -1) (hX : RowIs X js ks L nj np 8) (hB : BoundsTo (ks.getD (kd * 5) 0) (shP js ks nj np p kd) B 8) (hZ : PlusTo X B Z 8) : RowIs Z js ks (L.set p (kd : Int)) nj np 8 := by
  refine ⟨hZ.len, fun q hq => ?_⟩
  obtain ⟨a1, a2⟩ := hZ.below q hq
  obtain ⟨b1, b2⟩ := hX.2 q hq
  obtain ⟨c1, c2⟩ := hB.2 q hq
  rw [a1, a2, b1, b2, c1, c2, bsum_put hL hp h1, bsum_put hL hp h1]
  exact ⟨rfl, rfl⟩
theorem kinds_put {L : List Int} {np nk p kd : Nat} (hK : KindsIn L np nk) (hL : L.length = 8) (hp : p < np) (hkd : kd < nk) : KindsIn (L.set p (kd : Int)) np nk := by
  intro i hi
  by_cases e : i = p
  · subst e
    rw [getD_set_same (by omega)]
    exact .inr ⟨hp, kd, hkd, rfl⟩
  · rw [getD_set_ne e]
    exact hK i hi
open Classical in
noncomputable def holdsD (js ks ps : List Int) (nj np : Nat) (L : List Int) : Bool := decide (∀ q, q < np → ¬ ps.getD (q * 2 + 1) 0 < bsum js ks L nj np 8 1 q)
open Classical in
noncomputable def rightD (js ks ps : List Int) (nj np : Nat) (L : List Int) : Bool := decide (RightL js ks ps L nj np)
open Classical in
theorem holdsD_iff {js ks ps L : List Int} {nj np : Nat} : holdsD js ks ps nj np L = true ↔ ∀ q, q < np → ¬ ps.getD (q * 2 + 1) 0 < bsum js ks L nj np 8 1 q := by unfold holdsD; exact decide_eq_true_iff
open Classical in
theorem rightD_iff {js ks ps L : List Int} {nj np : Nat} : rightD js ks ps nj np L = true ↔ RightL js ks ps L nj np := by unfold rightD; exact decide_eq_true_iff
theorem holds_iff {js ks ps L X : List Int} {nj np : Nat} (hX : RowIs X js ks L nj np 8) (hnp : np ≤ 8) : (∀ p, p < np → overB X ps p = false) ↔ holdsD js ks ps nj np L = true := by
  rw [holdsD_iff]
  unfold overB
  constructor
  · intro h q hq
    rw [← (hX.2 q (by omega)).2]
    exact of_decide_eq_false (h q hq)
  · intro h q hq
    have := h q hq
    rw [← (hX.2 q (by omega)).2] at this
    exact decide_eq_false this
theorem prune_ok {js ks ps : List Int} {nj np nk : Nat} (hnp : np ≤ 8) (hks : KindsOk ks nk) : ∀ (L M : List Int) (p d left : Nat), Open L p → p + d = np → GoesOn (fitD js ks nj np) nk L p d left M → rightD js ks ps nj np M = true → holdsD js ks ps nj np L = true := by
  intro L M p d left hL hpd hM hR
  rw [holdsD_iff]
  intro q hq
  have := (rightD_iff.1 hR q hq).2
  have hle : bsum js ks L nj np 8 1 q ≤ bsum js ks M nj np 8 1 q := by
    unfold bsum
    refine sumTo_le fun k hk => ?_
    by_cases c : k < p
    · rw [hM.before k c]
      exact Int.le_refl _
    · rw [hL.2 k (by omega) hk, if_pos rfl]
      by_cases e : k < p + d
      · rcases hM.kinds k (by omega) e with z | ⟨kd, h1, h2, h3⟩
        · rw [if_pos z]; exact Int.le_refl _
        · rw [h3, if_neg (by omega), Int.toNat_natCast]
          exact ext_nonneg (shP_bounded hks h1 hnp (by omega)) (of_decide_eq_true h2).1 (by omega) q
      · rw [hM.after k (by omega) hk, if_pos rfl]; exact Int.le_refl _
  omega
end Go.Proofs.Ytekajfobmnedjaa.spec
end
section
namespace Go.Proofs.Ytekajfobmnedjaa.spec
open Go Go.Ev Go.Proofs.Ytekajfobmnedjaa.nestFits Go.Proofs.Ytekajfobmnedjaa.G
set_option maxRecDepth 100000
variable {ρ : Type}
theorem agg175 : isAggT P 175 = some false := by kernel_rfl
theorem agg176 : isAggT P 176 = some false := by kernel_rfl
def placeV (sb yb pb : Nat) : Value := .func (.func 118) ⟨[]⟩ ⟨[.pointer (some ⟨sb, 0, none⟩), .pointer (some ⟨yb, 0, none⟩), .pointer (some ⟨pb, 0, none⟩)]⟩
structure Around (Inv : Hp → Nat → Prop) (base sb yb pb g np : Nat) (f : Nat → Value) (x yv : Value) (ps : List Int) : Prop where
  facts : ∀ H n, Inv H n → base ≤ n ∧ H.get sb = some (.cells [.pointer (some ⟨g, 0, none⟩)] 105 false none) ∧ H.get yb = some (.cells [yv] 175 false none) ∧ H.get pb = some (.cells [placeV sb yb pb] 176 false none) ∧ CellsF H g 859 117 f ∧ SliceR H base 2 x np ps
  same : ∀ H n H' n', Inv H n → base ≤ n' → (∀ b, b < base → H'.get b = H.get b) → Inv H' n'
  low : sb < base ∧ yb < base ∧ pb < base ∧ g < base
  holes : noHole yv = true ∧ noHoles yv = true
def PlaceOut (Inv : Hp → Nat → Prop) (Fin : List Int → Hp → Nat → Prop) (base : Nat) (r : Res) (o : Option (List Int)) (H : Hp) (t n : Nat) : Prop := ∃ H' n', n ≤ n' ∧ (∀ b, base ≤ b → b < t → H'.get b = H.get b) ∧ match o with
  | some M => r = some (.bool false, H', n') ∧ Fin M H' n'
  | none => r = some (.bool true, H', n') ∧ Inv H' n'
theorem PlaceOut.from {Inv : Hp → Nat → Prop} {Fin : List Int → Hp → Nat → Prop} {base t s n m : Nat} {r : Res} {o : Option (List Int)} {H H1 : Hp} (h : PlaceOut Inv Fin base r o H1 s m) (hn : n ≤ m) (ht : t ≤ s) (hk : ∀ b, base ≤ b → b < t → H1.get b = H.get b) : PlaceOut Inv Fin base r o H t n := by
  obtain ⟨H', n', h1, h2, h3⟩ := h
  exact ⟨H', n', by omega, fun b hb hbn => (h2 b hb (by omega)).trans (hk b hb hbn), h3⟩
theorem load_func {H : Hp} {b : Nat} {v : Value} {e t : TypeId} (h : H.get b = some (.cells [v] e false none)) (ht : isAggT P t = some false) (h1 : noHole v = true) (h2 : noHoles v = true) : loadV P H t ⟨b, 0, none⟩ = some v :=
  loadV_scalar (o := 0) (k := 0) (cells_at h) ht rfl h1 h2
theorem call118 (l : Nat) (a b c d e f g : Value) (H : Hp) (n : Nat) : (cal (l + 1)).call 118 [a, b, c, d, e, f, g] H n = C118_0 (cal l) KK a b c d e f g H n := by kernel_rfl
theorem place_value (l : Nat) (a b c d : Value) (sb yb pb : Nat) (H : Hp) (n : Nat) (k : Value → Hp → Nat → Option ρ) : callVK P (cal (l + 1)) (placeV sb yb pb) [a, b, c, d] H n k = bindO (C118_0 (cal l) KK a b c d (.pointer (some ⟨sb, 0, none⟩)) (.pointer (some ⟨yb, 0, none⟩)) (.pointer (some ⟨pb, 0, none⟩)) H n) fun r => k r.1 r.2.1 r.2.2 := by
  unfold placeV
  rw [callVK_f]
  show callFK P (cal (l + 1)) 118 [a, b, c, d, .pointer (some ⟨sb, 0, none⟩), .pointer (some ⟨yb, 0, none⟩), .pointer (some ⟨pb, 0, none⟩)] H n k = _
  unfold callFK
  have : (flatF P 118 && pureL [a, b, c, d, .pointer (some ⟨sb, 0, none⟩), .pointer (some ⟨yb, 0, none⟩), .pointer (some ⟨pb, 0, none⟩)]) = false := by simp [pureL, pureV]
  rw [this, call118]
theorem kinds_loop (l k : Nat) {Inv : Hp → Nat → Prop} {Fin : List Int → Hp → Nat → Prop} {base t sb yb pb g np nj nk p d left bL bX : Nat} {f : Nat → Value} {x y z yv : Value} {ps js ks L X : List Int} (ar : Around Inv base sb yb pb g np f x yv ps) (hs : SiteF f x y z js nj) (hz : lenV P 33 z = some (.int .i64 nk)) (hn : ∀ p kd, p < np → kd < nk → NestAt f js ks nj np p kd) (hks : KindsOk ks nk) (hnp : np ≤ 8) (hnk : nk ≤ 3)
    (hp : p < np) (hL : Open L p) (hK : KindsIn L np nk) (hX : RowIs X js ks L nj np 8) (hleft : 1 ≤ left) (hl8 : left ≤ 8) (hbt : base ≤ t) (htL : t ≤ bL) (htX : t ≤ bX) (hne : bL ≠ bX)
    (hrec : ∀ (kd : Nat) (Z : List Int) (H : Hp) (n : Nat), kd < nk → fitD js ks nj np p kd = true → RowIs Z js ks (L.set p (kd : Int)) nj np 8 → Inv H n →
      PlaceOut Inv Fin base (C118_0 (cal (l + 5 + d)) KK (.agg ⟨ints (L.set p (kd : Int))⟩) (.agg ⟨ints Z⟩) (.int .i64 ((p + 1 : Nat) : Int)) (.int .i64 ((left - 1 : Nat) : Int)) (.pointer (some ⟨sb, 0, none⟩)) (.pointer (some ⟨yb, 0, none⟩)) (.pointer (some ⟨pb, 0, none⟩)) H n) (findL (rightD js ks ps nj np) (holdsD js ks ps nj np) (fitD js ks nj np) np nk d (L.set p (kd : Int)) (left - 1)) H n n) :
    ∀ (m i : Nat) (W : List Int) (H : Hp) (n : Nat), Inv H n → bL < n → bX < n → W.length = 8 → (∀ a, W.set p a = L.set p a) → H.get bL = some (.cells (ints W) 121 false none) → H.get bX = some (.cells (ints X) 111 false none) → i ≤ nk → nk - i ≤ m →
    PlaceOut Inv Fin base (S118_1 (cal (l + 5 + (d + 1))) k m (.int .i64 p) (.int .i64 left) (.pointer (some ⟨sb, 0, none⟩)) (.pointer (some ⟨pb, 0, none⟩)) (.pointer (some ⟨bL, 0, none⟩)) (.pointer (some ⟨bX, 0, none⟩)) (.int .i64 nk) (.int .i64 i) H n)
      (firstN (fun kd => if fitD js ks nj np p kd = true then findL (rightD js ks ps nj np) (holdsD js ks ps nj np) (fitD js ks nj np) np nk d (L.set p (kd : Int)) (left - 1) else none) nk (nk - i)) H t n := by
  obtain ⟨lo1, lo2, lo3, lo4⟩ := ar.low
  generalize hF : (fun kd => if fitD js ks nj np p kd = true then findL (rightD js ks ps nj np) (holdsD js ks ps nj np) (fitD js ks nj np) np nk d (L.set p (kd : Int)) (left - 1) else none) = F
  have lXi : (ints X).length = 16 := by rw [ints_length, hX.1]
  have hL8 := hL.1
  have hp1 : L.getD p 0 = -1 := hL.2 p (Nat.le_refl _) (by omega)
  have body : ∀ (b1 : Value → Value → Value → Value → Value → Value → Value → Value → Hp → Nat → Res) (m i : Nat) (W : List Int) (H : Hp) (n : Nat), Inv H n → bL < n → bX < n → W.length = 8 → (∀ a, W.set p a = L.set p a) → H.get bL = some (.cells (ints W) 121 false none) → H.get bX = some (.cells (ints X) 111 false none) → i ≤ nk →
      (∀ (W : List Int) (H : Hp) (n : Nat), Inv H n → bL < n → bX < n → W.length = 8 → (∀ a, W.set p a = L.set p a) → H.get bL = some (.cells (ints W) 121 false none) → H.get bX = some (.cells (ints X) 111 false none) → i < nk → PlaceOut Inv Fin base (b1 (.int .i64 p) (.int .i64 left) (.pointer (some ⟨sb, 0, none⟩)) (.pointer (some ⟨pb, 0, none⟩)) (.pointer (some ⟨bL, 0, none⟩)) (.pointer (some ⟨bX, 0, none⟩)) (.int .i64 nk) (.int .i64 ((i + 1 : Nat) : Int)) H n) (firstN F nk (nk - (i + 1))) H t n) →
      PlaceOut Inv Fin base (C118_1 (cal (l + 5 + (d + 1))) k m b1 (.int .i64 p) (.int .i64 left) (.pointer (some ⟨sb, 0, none⟩)) (.pointer (some ⟨pb, 0, none⟩)) (.pointer (some ⟨bL, 0, none⟩)) (.pointer (some ⟨bX, 0, none⟩)) (.int .i64 nk) (.int .i64 i) H n) (firstN F nk (nk - i)) H t n := by
    intro b1 m i W H n hI hbLn hbXn hW8 hW hgL hgX hi ih
    obtain ⟨f1, f2, f3, f4, f5, f6⟩ := ar.facts H n hI
    unfold C118_1 B118_1
    rw [binK_some bin_lss, ifK_d]
    by_cases hlt : i < nk
    · have hI1 : I64 ((i : Int) + 1) := by unfold I64; omega
      have hcast : ((i : Int) + 1) = ((i + 1 : Nat) : Int) := by omega
      have next : ∀ (W : List Int) (H' : Hp) (n' : Nat), F i = none → Inv H' n' → bL < n' → bX < n' → W.length = 8 → (∀ a, W.set p a = L.set p a) → H'.get bL = some (.cells (ints W) 121 false none) → H'.get bX = some (.cells (ints X) 111 false none) →
          PlaceOut Inv Fin base (C118_2 (cal (l + 5 + (d + 1))) k m b1 (.int .i64 p) (.int .i64 left) (.pointer (some ⟨sb, 0, none⟩)) (.pointer (some ⟨pb, 0, none⟩)) (.pointer (some ⟨bL, 0, none⟩)) (.pointer (some ⟨bX, 0, none⟩)) (.int .i64 nk) (.int .i64 i) H' n') (firstN F nk (nk - i)) H' t n' := by
        intro W H' n' hFi hI' h1 h2 h3 h4 h5 h6
        rw [firstN_step hlt, hFi]
        unfold C118_2 B118_2
        rw [binK_some (bin_add hI1), hcast]
        exact ih W H' n' hI' h1 h2 h3 h4 h5 h6 hlt
      have lsb := load_func f2 agg105 rfl rfl
      obtain ⟨r, hr, hc⟩ := takes_call (ρ := Value × Hp × Nat) (l + 1 + (d + 1)) (n := n) f5 hs hz hn hks hnp hnk hp (i : Int)
      have hr' : r = true ↔ fitD js ks nj np p i = true := by
        rw [hr]
        unfold takesP
        rw [Int.toNat_natCast]
        exact ⟨fun h => h.2.2, fun h => ⟨by omega, by omega, h⟩⟩
      rw [show l + 1 + (d + 1) + 4 = l + 5 + (d + 1) by omega] at hc
      rw [if_pos (by omega), addrV_eq, bindO_some, lsb, bindO_some, hc]
      cases r with
      | false =>
        have hFi : F i = none := by rw [← hF]; exact if_neg (fun h => absurd (hr'.2 h) (by simp))
        rw [not_f, bindO_some, ifK_t]
        exact next W H n hFi hI hbLn hbXn hW8 hW hgL hgX
      | true =>
        have hfit := hr'.1 rfl
        have hFi : F i = findL (rightD js ks ps nj np) (holdsD js ks ps nj np) (fitD js ks nj np) np nk d (L.set p (i : Int)) (left - 1) := by rw [← hF]; exact if_pos hfit
        have hst : storeP P 3 (.pointer (some ⟨bL, 0 + p * 1, none⟩)) (.int .i64 i) H = some (H.set bL (some (.cells (ints (L.set p (i : Int))) 121 false none))) := by
          rw [store3, show 0 + p * 1 = p by omega, store_one hgL (by omega), hW]
        rw [not_t, bindO_some, ifK_f, at121 _ (by omega), bindO_some, hst, bindO_some]
        have g1 : (H.set bL (some (.cells (ints (L.set p (i : Int))) 121 false none))).get bL = some (.cells (ints (L.set p (i : Int))) 121 false none) := by rw [Tr.get_set, if_pos rfl]
        have g2 : ∀ b, b ≠ bL → (H.set bL (some (.cells (ints (L.set p (i : Int))) 121 false none))).get b = H.get b := fun b hb => by rw [Tr.get_set, if_neg hb]
        generalize H.set bL (some (.cells (ints (L.set p (i : Int))) 121 false none)) = H2 at g1 g2 ⊢
        have lens : (ints (L.set p (i : Int))).length = 8 := by rw [ints_length]; simp [hL8]
        have l1 := load_func ((g2 pb (by omega)).trans f4) agg176 rfl rfl
        have l2 := load_all g1 agg121 sz121 lens
        have l3 := load_all ((g2 bX (Ne.symm hne)).trans hgX) agg111 sz111 lXi
        have l4 := load_func ((g2 sb (by omega)).trans f2) agg105 rfl rfl
        have hf2 : CellsF H2 g 859 117 f := by
          obtain ⟨c, a1, a2, a3⟩ := f5
          exact ⟨c, (g2 g (by omega)).trans a1, a2, a3⟩
        obtain ⟨B, hB, l5⟩ := bound_load hf2 (hn p i hp hlt) (by omega) (by omega)
        have hI2 : I64 ((p : Int) + 1) := by unfold I64; omega
        have hI3 : I64 ((left : Int) - 1) := by unfold I64; omega
        have hc2 : ((p : Int) + 1) = ((p + 1 : Nat) : Int) := by omega
        have hc3 : ((left : Int) - 1) = ((left - 1 : Nat) : Int) := by omega
        have mX : Mild X := row_mild hX.1 fun q hq => by
          obtain ⟨a, b⟩ := hX.2 q hq
          rw [a, b]; exact ⟨bsum_mild hks hnp hK (by omega) (by omega), bsum_mild hks hnp hK (by omega) (by omega)⟩
        have hsb := shP_bounded (js := js) (nj := nj) hks hlt hnp hp
        have mB : Mild B := row_mild hB.1 fun q hq => by
          obtain ⟨y1, _, _⟩ := hks i hlt
          obtain ⟨a, b⟩ := hB.2 q hq
          have e0 := ext_mild hsb y1 (e := 0) (q := q) (by omega)
          have e1 := ext_mild hsb y1 (e := 1) (q := q) (by omega)
          rw [a, b]; omega
        obtain ⟨Z, hZ, hplus⟩ := plus_call (ρ := Value × Hp × Nat) (l + 4 + (d + 1)) hX.1 hB.1 mX mB
        rw [show l + 4 + (d + 1) + 1 = l + 5 + (d + 1) by omega] at hplus
        have hRow := row_put hL8 (show p < 8 by omega) hp1 hX hB hZ
        obtain ⟨H3, s3, c3⟩ := effK_still (P := P) (ρ := Value × Hp × Nat) (ex := [.l 121 ⟨bL, 0, none⟩, .l 176 ⟨pb, 0, none⟩]) (H := H2) (n := n) (v := .agg ⟨ints Z⟩)
          (op := fun H n k => callFK P (cal (l + 5 + (d + 1))) 103 [.agg ⟨ints X⟩, .agg ⟨ints B⟩] H n fun v H n => k v H n)
          ⟨fun q hq => .inl (by
            simp only [List.mem_cons, List.not_mem_nil, or_false] at hq
            rcases hq with rfl | rfl
            · exact ⟨_, _, rfl, .inl ⟨_, _, _, _, g1⟩⟩
            · exact ⟨_, _, rfl, .inl ⟨_, _, _, _, (g2 pb (by omega)).trans f4⟩⟩), fun t a id c e h1 h2 => by simp at h2⟩ (fun H k => hplus H _ _)
        have hInv3 : Inv H3 n := ar.same H n H3 n hI f1 fun b hb => by rw [s3, g2 b (by omega)]
        have keep3 : ∀ b, b ≠ bL → H3.get b = H.get b := fun b hb => by rw [s3, g2 b hb]
        have hr3 := hrec i Z H3 n hlt hfit hRow hInv3
        have epl := place_value (ρ := Value × Hp × Nat) (l + 5 + d) (.agg ⟨ints (L.set p (i : Int))⟩) (.agg ⟨ints Z⟩) (.int .i64 ((p + 1 : Nat) : Int)) (.int .i64 ((left - 1 : Nat) : Int)) sb yb pb
        rw [show l + 5 + d + 1 = l + 5 + (d + 1) by omega] at epl
        rw [addrV_eq, bindO_some, l1, bindO_some, addrV_eq, bindO_some, l2, bindO_some, addrV_eq, bindO_some, l3, bindO_some, bindO_some, l4, bindO_some, nil_ptr, bindO_some, fa117_2, bindO_some, at115 _ _ (by omega), bindO_some, at114 _ _ (by omega), bindO_some, fa113_2, bindO_some, addrV_eq, bindO_some, l5, bindO_some,
          binK_some (bin_add hI2), binK_some (bin_sub hI3), c3, hc2, hc3, epl]
        obtain ⟨H4, n4, q1, q2, q3⟩ := hr3
        rw [firstN_step hlt, hFi]
        cases hfd : findL (rightD js ks ps nj np) (holdsD js ks ps nj np) (fitD js ks nj np) np nk d (L.set p (i : Int)) (left - 1) with
        | some M =>
          rw [hfd] at q3
          obtain ⟨q3, q4⟩ := q3
          rw [q3, bindO_some]
          dsimp only
          rw [not_f, bindO_some, ifK_t]
          exact ⟨H4, n4, q1, fun b hb hbt => by rw [q2 b hb (by omega), keep3 b (by omega)], rfl, q4⟩
        | none =>
          rw [hfd] at q3 hFi
          obtain ⟨q3, q4⟩ := q3
          rw [q3, bindO_some]
          dsimp only
          rw [not_t, bindO_some, ifK_f]
          have := next (L.set p (i : Int)) H4 n4 hFi q4 (by omega) (by omega) (by simp [hL8]) (fun a => by rw [List.set_set]) (by rw [q2 bL (by omega) hbLn, s3]; exact g1) (by rw [q2 bX (by omega) hbXn, keep3 bX (Ne.symm hne)]; exact hgX)
          rw [firstN_step hlt, hFi] at this
          exact this.from q1 (Nat.le_refl _) fun b hb hbt => by rw [q2 b hb (by omega), keep3 b (by omega)]
    · rw [if_neg (by omega)]
      have : nk - i = 0 := by omega
      rw [this]
      exact ⟨H, n, Nat.le_refl _, fun _ _ _ => rfl, rfl, hI⟩
  intro m
  induction m with
  | zero =>
    intro i W H n h1 h2 h3 h4 h5 h6 h7 h8 h9
    exact body _ 0 i W H n h1 h2 h3 h4 h5 h6 h7 h8 (fun _ _ _ _ _ _ _ _ _ _ h => by omega)
  | succ m ih =>
    intro i W H n h1 h2 h3 h4 h5 h6 h7 h8 h9
    exact body _ (m + 1) i W H n h1 h2 h3 h4 h5 h6 h7 h8 (fun W H n q1 q2 q3 q4 q5 q6 q7 q8 => ih (i + 1) W H n q1 q2 q3 q4 q5 q6 q7 (by omega) (by omega))
end Go.Proofs.Ytekajfobmnedjaa.spec
end
section
namespace Go.Proofs.Ytekajfobmnedjaa.spec
open Go Go.Ev Go.Proofs.Ytekajfobmnedjaa.nestFits Go.Proofs.Ytekajfobmnedjaa.G
set_option maxRecDepth 100000
variable {ρ : Type}
theorem findL_stop {R Hd : List Int → Bool} {tk : Nat → Nat → Bool} {np nk d left : Nat} {L : List Int} (h : Hd L = false ∨ d < left) : findL R Hd tk np nk d L left = none := by
  cases d with
  | zero => unfold findL; rw [if_pos h]
  | succ d => unfold findL; rw [if_pos h]
theorem findL_last {R Hd : List Int → Bool} {tk : Nat → Nat → Bool} {np nk d : Nat} {L : List Int} (h : Hd L = true) : findL R Hd tk np nk d L 0 = if R L = true then some L else none := by
  have no : ∀ d, ¬ (Hd L = false ∨ d < 0) := fun d h' => by
    rcases h' with z | z
    · rw [h] at z; cases z
    · omega
  cases d with
  | zero => unfold findL; rw [if_neg (no 0)]
  | succ d => unfold findL; rw [if_neg (no (d + 1)), if_pos rfl]
theorem findL_step {R Hd : List Int → Bool} {tk : Nat → Nat → Bool} {np nk d left : Nat} {L : List Int} (h : Hd L = true) (h1 : left ≤ d + 1) (h2 : left ≠ 0) : findL R Hd tk np nk (d + 1) L left = match findL R Hd tk np nk d L left with
    | some r => some r
    | none => firstN (fun kd => if tk (np - (d + 1)) kd = true then findL R Hd tk np nk d (L.set (np - (d + 1)) (kd : Int)) (left - 1) else none) nk nk := by
  have no : ¬ (Hd L = false ∨ d + 1 < left) := fun h' => by
    rcases h' with z | z
    · rw [h] at z; cases z
    · omega
  rw [findL, if_neg no, if_neg h2]
  all_goals (cases findL R Hd tk np nk d L left <;> rfl)
def Yields (Inv : Hp → Nat → Prop) (Fin : List Int → Hp → Nat → Prop) (base np nj : Nat) (js ks ps : List Int) (yv : Value) : Prop := ∀ (lv : Nat) (L X : List Int) (H : Hp) (n : Nat), Inv H n → L.length = 8 → RowIs X js ks L nj np 8 → ∃ H' n', n ≤ n' ∧ (∀ b, base ≤ b → b < n → H'.get b = H.get b) ∧
  ((rightD js ks ps nj np L = true ∧ (∀ k : Value → Hp → Nat → Res, callVK P (cal (lv + 5)) yv [.agg ⟨ints L⟩, .agg ⟨ints X⟩] H n k = k (.bool false) H' n') ∧ Fin L H' n') ∨
   (rightD js ks ps nj np L = false ∧ (∀ k : Value → Hp → Nat → Res, callVK P (cal (lv + 5)) yv [.agg ⟨ints L⟩, .agg ⟨ints X⟩] H n k = k (.bool true) H' n') ∧ Inv H' n'))
theorem place_spec (l : Nat) {Inv : Hp → Nat → Prop} {Fin : List Int → Hp → Nat → Prop} {base sb yb pb g np nj nk : Nat} {f : Nat → Value} {x y z yv : Value} {ps js ks : List Int} (ar : Around Inv base sb yb pb g np f x yv ps) (hs : SiteF f x y z js nj) (hz : lenV P 33 z = some (.int .i64 nk)) (hn : ∀ p kd, p < np → kd < nk → NestAt f js ks nj np p kd) (hks : KindsOk ks nk) (hnp : np ≤ 8) (hnk : nk ≤ 3) (hY : Yields Inv Fin base np nj js ks ps yv) :
    ∀ (d : Nat) (L X : List Int) (left p : Nat) (H : Hp) (n : Nat), p + d = np → Open L p → KindsIn L np nk → RowIs X js ks L nj np 8 → left ≤ 8 → Inv H n →
    PlaceOut Inv Fin base (C118_0 (cal (l + 5 + d)) KK (.agg ⟨ints L⟩) (.agg ⟨ints X⟩) (.int .i64 p) (.int .i64 left) (.pointer (some ⟨sb, 0, none⟩)) (.pointer (some ⟨yb, 0, none⟩)) (.pointer (some ⟨pb, 0, none⟩)) H n) (findL (rightD js ks ps nj np) (holdsD js ks ps nj np) (fitD js ks nj np) np nk d L left) H n n := by
  obtain ⟨lo1, lo2, lo3, lo4⟩ := ar.low
  intro d
  induction d with
  | zero =>
    intro L X left p H n hpd hL hK hX hl8 hI
    obtain ⟨f1, f2, f3, f4, f5, f6⟩ := ar.facts H n hI
    have lLi : (ints L).length = 8 := by rw [ints_length, hL.1]
    have lXi : (ints X).length = 16 := by rw [ints_length, hX.1]
    unfold C118_0 B118_0
    generalize hS : S118_1 (cal (l + 5 + (0))) KK KK = S1
    rw [boxK_eq, boxK_eq]
    simp only [cellsV, ptr]
    have b1 : ((H.set n (some (.cells (ints L) 121 false none))).set (n + 1) (some (.cells (ints X) 111 false none))).get n = some (.cells (ints L) 121 false none) := by rw [Tr.get_set, if_neg (by omega), Tr.get_set, if_pos rfl]
    have b2 : ((H.set n (some (.cells (ints L) 121 false none))).set (n + 1) (some (.cells (ints X) 111 false none))).get (n + 1) = some (.cells (ints X) 111 false none) := by rw [Tr.get_set, if_pos rfl]
    have b3 : ∀ b, b < n → ((H.set n (some (.cells (ints L) 121 false none))).set (n + 1) (some (.cells (ints X) 111 false none))).get b = H.get b := fun b hb => by rw [Tr.get_set, if_neg (by omega), Tr.get_set, if_neg (by omega)]
    generalize (H.set n (some (.cells (ints L) 121 false none))).set (n + 1) (some (.cells (ints X) 111 false none)) = H2 at b1 b2 b3 ⊢
    have hI2 : Inv H2 (n + 1 + 1) := ar.same H n H2 (n + 1 + 1) hI (by omega) fun b hb => b3 b (by omega)
    obtain ⟨_, g2, g3, g4, g5, g6⟩ := ar.facts H2 _ hI2
    obtain ⟨r, H3, n3, r0, r1, r2, r3⟩ := holds_call (ρ := Value × Hp × Nat) (l + 3 + (0)) (show g < n + 1 + 1 by omega) g5 hs (g6.up (show base ≤ n + 1 + 1 by omega)) hnp hX.1
    rw [show l + 3 + (0) + 2 = l + 5 + (0) by omega] at r1
    have hr : r = true ↔ holdsD js ks ps nj np L = true := r0.trans (holds_iff hX hnp)
    have hI3 : Inv H3 n3 := ar.same H2 _ H3 n3 hI2 (by omega) fun b hb => r3 b (by omega)
    have k3 : ∀ b, base ≤ b → b < n → H3.get b = H.get b := fun b _ hb => by rw [r3 b (by omega), b3 b hb]
    rw [addrV_eq, bindO_some, load_func g2 agg105 rfl rfl, bindO_some, addrV_eq, bindO_some, load_all b2 agg111 sz111 lXi, bindO_some, r1]
    cases r with
    | false =>
      have hh : holdsD js ks ps nj np L = false := by
        cases c : holdsD js ks ps nj np L with
        | false => rfl
        | true => exact absurd (hr.2 c) (by simp)
      rw [findL_stop (.inl hh), not_f, bindO_some]
      simp only [guardK_tf, guardK_u, pickV_t, bindO_some, ifK_t]
      exact ⟨H3, n3, by omega, k3, rfl, hI3⟩
    | true =>
      have hh := hr.1 rfl
      obtain ⟨_, q2, q3, q4, q5, q6⟩ := ar.facts H3 _ hI3
      have lx : loadV P H3 31 ⟨g, 0 + 0 + 0, none⟩ = some x := by
        have := q5.load (P := P) (k := 0) agg31 (by omega)
        rw [hs.x] at this; exact this
      have hlx : lenV P 31 x = some (.int .i64 np) := q6.len_eq und31
      have hIs : I64 ((np : Int) - (p : Int)) := by unfold I64; omega
      rw [not_t, bindO_some]
      simp only [guardK_ff, addrV_eq, bindO_some, load_func q2 agg105 rfl rfl, nil_ptr, fa117_0, fa35_0, lx, hlx, binK_some (bin_sub hIs), binK_some bin_gtr, pickV_f]
      cases hc : decide (((np : Int) - (p : Int)) < (left : Int)) with
      | true =>
        have := of_decide_eq_true hc
        rw [findL_stop (.inr (by omega)), ifK_t]
        exact ⟨H3, n3, by omega, k3, rfl, hI3⟩
      | false =>
        have hle := of_decide_eq_false hc
        have l1 := load_all ((r3 n (by omega)).trans b1) agg121 sz121 lLi
        have l2 := load_all ((r3 (n + 1) (by omega)).trans b2) agg111 sz111 lXi
        rw [ifK_f, binK_some bin_eql]
        cases hz0 : decide ((left : Int) = 0) with
        | true =>
          have : left = 0 := by have := of_decide_eq_true hz0; omega
          subst this
          obtain ⟨H4, n4, y1, y2, y3⟩ := hY (l + (0)) L X H3 n3 hI3 hL.1 hX
          rw [show l + (0) + 5 = l + 5 + (0) by omega] at y3
          rw [ifK_t, load_func q3 agg175 ar.holes.1 ar.holes.2, bindO_some, l1, bindO_some, l2, bindO_some, findL_last hh]
          have ky : ∀ b, base ≤ b → b < n → H4.get b = H.get b := fun b hb hbn => by rw [y2 b hb (by omega), k3 b hb hbn]
          rcases y3 with ⟨z1, z2, z3⟩ | ⟨z1, z2, z3⟩
          · rw [if_pos z1, z2]
            exact ⟨H4, n4, by omega, ky, rfl, z3⟩
          · rw [if_neg (by rw [z1]; simp), z2]
            exact ⟨H4, n4, by omega, ky, rfl, z3⟩
        | false =>
          have hl0 : left ≠ 0 := by have := of_decide_eq_false hz0; omega
          exact absurd hle (by omega)
  | succ d ih =>
    intro L X left p H n hpd hL hK hX hl8 hI
    obtain ⟨f1, f2, f3, f4, f5, f6⟩ := ar.facts H n hI
    have lLi : (ints L).length = 8 := by rw [ints_length, hL.1]
    have lXi : (ints X).length = 16 := by rw [ints_length, hX.1]
    unfold C118_0 B118_0
    generalize hS : S118_1 (cal (l + 5 + (d + 1))) KK KK = S1
    rw [boxK_eq, boxK_eq]
    simp only [cellsV, ptr]
    have b1 : ((H.set n (some (.cells (ints L) 121 false none))).set (n + 1) (some (.cells (ints X) 111 false none))).get n = some (.cells (ints L) 121 false none) := by rw [Tr.get_set, if_neg (by omega), Tr.get_set, if_pos rfl]
    have b2 : ((H.set n (some (.cells (ints L) 121 false none))).set (n + 1) (some (.cells (ints X) 111 false none))).get (n + 1) = some (.cells (ints X) 111 false none) := by rw [Tr.get_set, if_pos rfl]
    have b3 : ∀ b, b < n → ((H.set n (some (.cells (ints L) 121 false none))).set (n + 1) (some (.cells (ints X) 111 false none))).get b = H.get b := fun b hb => by rw [Tr.get_set, if_neg (by omega), Tr.get_set, if_neg (by omega)]
    generalize (H.set n (some (.cells (ints L) 121 false none))).set (n + 1) (some (.cells (ints X) 111 false none)) = H2 at b1 b2 b3 ⊢
    have hI2 : Inv H2 (n + 1 + 1) := ar.same H n H2 (n + 1 + 1) hI (by omega) fun b hb => b3 b (by omega)
    obtain ⟨_, g2, g3, g4, g5, g6⟩ := ar.facts H2 _ hI2
    obtain ⟨r, H3, n3, r0, r1, r2, r3⟩ := holds_call (ρ := Value × Hp × Nat) (l + 3 + (d + 1)) (show g < n + 1 + 1 by omega) g5 hs (g6.up (show base ≤ n + 1 + 1 by omega)) hnp hX.1
    rw [show l + 3 + (d + 1) + 2 = l + 5 + (d + 1) by omega] at r1
    have hr : r = true ↔ holdsD js ks ps nj np L = true := r0.trans (holds_iff hX hnp)
    have hI3 : Inv H3 n3 := ar.same H2 _ H3 n3 hI2 (by omega) fun b hb => r3 b (by omega)
    have k3 : ∀ b, base ≤ b → b < n → H3.get b = H.get b := fun b _ hb => by rw [r3 b (by omega), b3 b hb]
    rw [addrV_eq, bindO_some, load_func g2 agg105 rfl rfl, bindO_some, addrV_eq, bindO_some, load_all b2 agg111 sz111 lXi, bindO_some, r1]
    cases r with
    | false =>
      have hh : holdsD js ks ps nj np L = false := by
        cases c : holdsD js ks ps nj np L with
        | false => rfl
        | true => exact absurd (hr.2 c) (by simp)
      rw [findL_stop (.inl hh), not_f, bindO_some]
      simp only [guardK_tf, guardK_u, pickV_t, bindO_some, ifK_t]
      exact ⟨H3, n3, by omega, k3, rfl, hI3⟩
    | true =>
      have hh := hr.1 rfl
      obtain ⟨_, q2, q3, q4, q5, q6⟩ := ar.facts H3 _ hI3
      have lx : loadV P H3 31 ⟨g, 0 + 0 + 0, none⟩ = some x := by
        have := q5.load (P := P) (k := 0) agg31 (by omega)
        rw [hs.x] at this; exact this
      have hlx : lenV P 31 x = some (.int .i64 np) := q6.len_eq und31
      have hIs : I64 ((np : Int) - (p : Int)) := by unfold I64; omega
      rw [not_t, bindO_some]
      simp only [guardK_ff, addrV_eq, bindO_some, load_func q2 agg105 rfl rfl, nil_ptr, fa117_0, fa35_0, lx, hlx, binK_some (bin_sub hIs), binK_some bin_gtr, pickV_f]
      cases hc : decide (((np : Int) - (p : Int)) < (left : Int)) with
      | true =>
        have := of_decide_eq_true hc
        rw [findL_stop (.inr (by omega)), ifK_t]
        exact ⟨H3, n3, by omega, k3, rfl, hI3⟩
      | false =>
        have hle := of_decide_eq_false hc
        have l1 := load_all ((r3 n (by omega)).trans b1) agg121 sz121 lLi
        have l2 := load_all ((r3 (n + 1) (by omega)).trans b2) agg111 sz111 lXi
        rw [ifK_f, binK_some bin_eql]
        cases hz0 : decide ((left : Int) = 0) with
        | true =>
          have : left = 0 := by have := of_decide_eq_true hz0; omega
          subst this
          obtain ⟨H4, n4, y1, y2, y3⟩ := hY (l + (d + 1)) L X H3 n3 hI3 hL.1 hX
          rw [show l + (d + 1) + 5 = l + 5 + (d + 1) by omega] at y3
          rw [ifK_t, load_func q3 agg175 ar.holes.1 ar.holes.2, bindO_some, l1, bindO_some, l2, bindO_some, findL_last hh]
          have ky : ∀ b, base ≤ b → b < n → H4.get b = H.get b := fun b hb hbn => by rw [y2 b hb (by omega), k3 b hb hbn]
          rcases y3 with ⟨z1, z2, z3⟩ | ⟨z1, z2, z3⟩
          · rw [if_pos z1, z2]
            exact ⟨H4, n4, by omega, ky, rfl, z3⟩
          · rw [if_neg (by rw [z1]; simp), z2]
            exact ⟨H4, n4, by omega, ky, rfl, z3⟩
        | false =>
          have hl0 : left ≠ 0 := by have := of_decide_eq_false hz0; omega
          have hI1 : I64 ((p : Int) + 1) := by unfold I64; omega
          have hc1 : ((p : Int) + 1) = ((p + 1 : Nat) : Int) := by omega
          have ep : np - (d + 1) = p := by omega
          have epl := place_value (ρ := Value × Hp × Nat) (l + 5 + d) (.agg ⟨ints L⟩) (.agg ⟨ints X⟩) (.int .i64 ((p + 1 : Nat) : Int)) (.int .i64 left) sb yb pb
          rw [show l + 5 + d + 1 = l + 5 + (d + 1) by omega] at epl
          obtain ⟨H4, n4, y1, y2, y3⟩ := ih L X left (p + 1) H3 n3 (by omega) hL.skip hK hX hl8 hI3
          rw [ifK_f, load_func q4 agg176 rfl rfl, bindO_some, l1, bindO_some, l2, bindO_some, binK_some (bin_add hI1), hc1, epl, findL_step hh (by omega) hl0, ep]
          have ky : ∀ b, base ≤ b → b < n3 → H4.get b = H3.get b := fun b hb hbn => y2 b hb hbn
          cases hfd : findL (rightD js ks ps nj np) (holdsD js ks ps nj np) (fitD js ks nj np) np nk d L left with
          | some M =>
            rw [hfd] at y3
            obtain ⟨y3, y4⟩ := y3
            rw [y3, bindO_some]
            dsimp only
            rw [not_f, bindO_some, ifK_t]
            exact ⟨H4, n4, by omega, fun b hb hbn => by rw [ky b hb (by omega), k3 b hb hbn], rfl, y4⟩
          | none =>
            rw [hfd] at y3
            obtain ⟨y3, y4⟩ := y3
            obtain ⟨_, w2, w3, w4, w5, w6⟩ := ar.facts H4 _ y4
            have lz : loadV P H4 33 ⟨g, 0 + 0 + 2, none⟩ = some z := by
              have := w5.load (P := P) (k := 2) agg33 (by omega)
              rw [hs.z] at this; exact this
            rw [y3, bindO_some]
            dsimp only
            rw [not_t, bindO_some, ifK_f, load_func w2 agg105 rfl rfl, bindO_some, nil_ptr, bindO_some, fa117_0, bindO_some, fa35_2, bindO_some, addrV_eq, bindO_some, lz, bindO_some, hz, bindO_some, ← hS]
            have := kinds_loop l KK (t := n) (bL := n) (bX := n + 1) ar hs hz hn hks hnp hnk (show p < np by omega) hL hK hX (by omega) hl8 f1 (by omega) (by omega) (by omega)
              (fun kd Z H n hkd hfit hZ hI => ih (L.set p (kd : Int)) Z (left - 1) (p + 1) H n (by omega) hL.put (kinds_put hK hL.1 (by omega) hkd) hZ (by omega) hI)
              KK 0 L H4 n4 y4 (by omega) (by omega) hL.1 (fun a => rfl) (by rw [ky n (by omega) (by omega), r3 n (by omega)]; exact b1) (by rw [ky (n + 1) (by omega) (by omega), r3 (n + 1) (by omega)]; exact b2) (Nat.zero_le _) (by unfold KK; omega)
            rw [Nat.sub_zero] at this
            exact this.from (by omega) (Nat.le_refl _) fun b hb hbn => by rw [ky b hb (by omega), k3 b hb hbn]
end Go.Proofs.Ytekajfobmnedjaa.spec
end
section
namespace Go.Proofs.Ytekajfobmnedjaa.spec
open Go Go.Ev Go.Proofs.Ytekajfobmnedjaa.nestFits Go.Proofs.Ytekajfobmnedjaa.G
set_option maxRecDepth 100000
variable {ρ : Type}
noncomputable def code81 : Code := codeOf 81
noncomputable def results81 : List ResultVar := resOf 81
noncomputable def loop81 : Code := cL (cR (cL (cR (cR (cL (cR code81))))))
noncomputable def tail81 : Code := cR (cR (cR (cL (cR code81))))
noncomputable def body81 : Code := cL loop81
noncomputable def rang81 : Code := cR (cR (cL (cL (cR (cR body81)))))
noncomputable def asg81 : Code := asgOf (cL rang81)
noncomputable def bod81 : Code := bodOf (cL rang81)
noncomputable def KE (c : Cal) (k : Nat) : KC (Value × Hp × Nat) := codeE P c (codeF P c k) none 81 tail81 .leaf (doneK P results81) X0 (doneK P results81)
noncomputable def LP (c : Cal) (k m : Nat) : KC (Value × Hp × Nat) := codeF P c m .leaf none 81 loop81 (KE c k) (upX 0 (KE c k) X0) (doneK P results81)
noncomputable def KN (c : Cal) (k m : Nat) : KC (Value × Hp × Nat) := codeE P c (codeF P c m) none 81 (cR (cR (cR body81))) .leaf (fun T H n D => LP c k m T H n D) (upX 0 (KE c k) X0) (doneK P results81)
def upd (o : Nat → Value) (i : Nat) (v : Value) : Nat → Value := fun j => match Nat.beq j i with
  | true => v
  | false => o j
noncomputable def TA (o : Nat → Value) (v1 v2 v4 v5 v16 v17 : Value) : Tm := ((((((((((((((((Tr.nil : Tm).set 0 (some (o 0))).set 1 (some v1)).set 2 (some v2)).set 3 (some (o 3))).set 4 (some v4)).set 5 (some v5)).set 9 (some (o 9))).set 10 (some (o 10))).set 11 (some (o 11))).set 12 (some (o 12))).set 13 (some (o 13))).set 14 (some (o 14))).set 15 (some (o 15))).set 16 (some v16)).set 17 (some v17))
noncomputable def TB (o : Nat → Value) (v1 v2 v4 v5 v16 v17 : Value) : Tm := ((((((((((((((((((((((Tr.nil : Tm).set 0 (some (o 0))).set 1 (some v1)).set 2 (some v2)).set 3 (some (o 3))).set 4 (some v4)).set 5 (some v5)).set 9 (some (o 9))).set 10 (some (o 10))).set 11 (some (o 11))).set 12 (some (o 12))).set 13 (some (o 13))).set 14 (some (o 14))).set 15 (some (o 15))).set 16 (some v16)).set 17 (some v17)).set 18 (some (o 18))).set 19 (some (o 19))).set 6 (some (o 6))).set 20 (some (o 20))).set 21 (some (o 21))).set 22 (some (o 22)))
noncomputable def TC (o : Nat → Value) (v1 v2 v4 v5 v16 v17 : Value) : Tm := (((((((((((((((((((((((Tr.nil : Tm).set 0 (some (o 0))).set 1 (some v1)).set 2 (some v2)).set 3 (some (o 3))).set 4 (some v4)).set 5 (some v5)).set 9 (some (o 9))).set 10 (some (o 10))).set 11 (some (o 11))).set 12 (some (o 12))).set 13 (some (o 13))).set 14 (some (o 14))).set 15 (some (o 15))).set 16 (some v16)).set 17 (some v17)).set 18 (some (o 18))).set 19 (some (o 19))).set 6 (some (o 6))).set 20 (some (o 20))).set 21 (some (o 21))).set 22 (some (o 22))).set 29 (some (o 29)))
def o81 (v0 v9 v10 v11 v12 v13 v14 v15 : Value) : Nat → Value := upd (upd (upd (upd (upd (upd (upd (upd (upd (fun _ => .nilIface) 0 v0) 3 (.bool false)) 9 v9) 10 v10) 11 v11) 12 v12) 13 v13) 14 v14) 15 v15
theorem pre81 (c : Cal) (k : Nat) (v0 : Value) (H : Hp) (n : Nat) : bodyE P c A (k + 1) 81 [v0] H n =
    (boxK 105 v0 H n fun v1 H n => allocK P 121 H n fun v2 H n => callFK P c 101 [] H n fun v9 H n => allocK P 121 H n fun v4 H n => allocK P 4 H n fun v5 H n => bindO (storeP P 121 v4 v9 H) fun H => bindO (storeP P 4 v5 (.bool false) H) fun H =>
      bindO (addrV v1) fun a => bindO (loadV P H 105 a) fun v10 => bindO (nilV v10) fun v11 => bindO (fieldAddrV P 117 v11 0) fun v12 => bindO (fieldAddrV P 35 v12 0) fun v13 => bindO (addrV v13) fun a => bindO (loadV P H 31 a) fun v14 => bindO (lenV P 31 v14) fun v15 =>
      binK P .add 3 (.tmp 15) (.const (.int .i64 1)) v15 (.int .i64 1) fun v16 => LP c k (k + 1) (TA (o81 v0 v9 v10 v11 v12 v13 v14 v15) v1 v2 v4 v5 v16 (.int .i64 0)) H n []) := by
  rw [body_eq (fn := Go.Proofs.Try.f81) (c := code81) (rs := results81) (by kernel_rfl) (by kernel_rfl) (by kernel_rfl) (by kernel_rfl)]
  kernel_rfl
theorem loop81_A (c : Cal) (k m : Nat) (o : Nat → Value) (v1 v2 v4 v5 v16 v17 : Value) (H : Hp) (n : Nat) (D : List Nat) : LP c k (m + 1) (TA o v1 v2 v4 v5 v16 v17) H n D =
    (binK P .lss 3 (.tmp 17) (.tmp 16) v17 v16 fun v18 => ifK v18
      (bindO (addrV v1) fun a => bindO (loadV P H 105 a) fun v20 => callFK P c 110 [v20, v17] H n fun v22 H n =>
          rangeK P c none 81 v22 #[23, 24] asg81 bod81 (KN c k m) (upX 2 (KN c k m) (upX 1 (KN c k m) (upX 0 (KE c k) X0))) (doneK P results81) (TB (upd (upd (upd (upd (upd (upd o 18 v18) 19 v17) 6 v17) 20 v20) 21 v17) 22 v22) v1 v2 v4 v5 v16 v17) H n D)
      (KE c k ((TA o v1 v2 v4 v5 v16 v17).set 18 (some v18)) H n D)) := by
  kernel_rfl
theorem loop81_C (c : Cal) (k m : Nat) (o : Nat → Value) (v1 v2 v4 v5 v16 v17 : Value) (H : Hp) (n : Nat) (D : List Nat) : LP c k (m + 1) (TC o v1 v2 v4 v5 v16 v17) H n D =
    (binK P .lss 3 (.tmp 17) (.tmp 16) v17 v16 fun v18 => ifK v18
      (bindO (addrV v1) fun a => bindO (loadV P H 105 a) fun v20 => callFK P c 110 [v20, v17] H n fun v22 H n =>
          rangeK P c none 81 v22 #[23, 24] asg81 bod81 (KN c k m) (upX 2 (KN c k m) (upX 1 (KN c k m) (upX 0 (KE c k) X0))) (doneK P results81) (TC (upd (upd (upd (upd (upd (upd o 18 v18) 19 v17) 6 v17) 20 v20) 21 v17) 22 v22) v1 v2 v4 v5 v16 v17) H n D)
      (KE c k ((TC o v1 v2 v4 v5 v16 v17).set 18 (some v18)) H n D)) := by
  kernel_rfl
theorem next81_B (c : Cal) (k m : Nat) (o : Nat → Value) (v1 v2 v4 v5 v16 v17 : Value) (H : Hp) (n : Nat) (D : List Nat) : KN c k m (TB o v1 v2 v4 v5 v16 v17) H n D =
    (binK P .add 3 (.tmp 17) (.const (.int .i64 1)) v17 (.int .i64 1) fun v29 => LP c k m (TC (upd o 29 v29) v1 v2 v4 v5 v16 v29) H n D) := by
  kernel_rfl
theorem post81_B (c : Cal) (k : Nat) (o : Nat → Value) (v1 v2 v4 v5 v16 v17 : Value) (H : Hp) (n : Nat) (D : List Nat) : KE c k (TB o v1 v2 v4 v5 v16 v17) H n D =
    (bindO (addrV v4) fun a => bindO (loadV P H 121 a) fun v30 => bindO (addrV v5) fun a5 => bindO (loadV P H 4 a5) fun v31 => effK P [.l 4 a5] H n (fun H n k => bindO (storeP P 121 v2 v30 H) fun H => k undef H n) fun _ H n =>
      getK (takeD H D) fun H => bindO (resV P (((Tr.nil : Tm).set 3 (some v31)).set 2 (some v2)) H results81) fun vs => some (oneV vs, H, n)) := by
  kernel_rfl
theorem asg81_B (l lp : Nat) (o : Nat → Value) (v1 v2 v4 v5 v16 v17 p q : Value) (H : Hp) (n : Nat) :
    (cal (l + 1)).body lp 81 asg81 { T := ((TB o v1 v2 v4 v5 v16 v17).set 23 (some p)).set 24 (some q), H, n, D := [] } =
      (allocK P 121 H n fun v7 H n => bindO (storeP P 121 v7 p H) fun H => allocK P 111 H n fun v8 H n => bindO (storeP P 111 v8 q H) fun H => some (.norm, { T := ((((TB o v1 v2 v4 v5 v16 v17).set 23 (some p)).set 24 (some q)).set 7 (some v7)).set 8 (some v8), H, n, D := [] })) := by kernel_rfl
theorem bod81_B (l lp : Nat) (o : Nat → Value) (v1 v2 v4 v5 v16 v17 p q v7 v8 : Value) (H : Hp) (n : Nat) :
    (cal (l + 1)).body lp 81 bod81 { T := ((((TB o v1 v2 v4 v5 v16 v17).set 23 (some p)).set 24 (some q)).set 7 (some v7)).set 8 (some v8), H, n, D := [] } =
      (bindO (addrV v1) fun a => bindO (loadV P H 105 a) fun v25 => bindO (addrV v8) fun a => bindO (loadV P H 111 a) fun v26 => callFK P (cal l) 83 [v25, v26] H n fun v27 H n => ifK v27
        (bindO (addrV v7) fun a => bindO (loadV P H 121 a) fun v28 => bindO (storeP P 121 v4 v28 H) fun H => bindO (storeP P 4 v5 (.bool true) H) fun H =>
          some (.exit 0, { T := ((((((((TB o v1 v2 v4 v5 v16 v17).set 23 (some p)).set 24 (some q)).set 7 (some v7)).set 8 (some v8)).set 25 (some v25)).set 26 (some v26)).set 27 (some v27)).set 28 (some v28), H, n, D := [] }))
        (some (.norm, { T := (((((((TB o v1 v2 v4 v5 v16 v17).set 23 (some p)).set 24 (some q)).set 7 (some v7)).set 8 (some v8)).set 25 (some v25)).set 26 (some v26)).set 27 (some v27), H, n, D := [] }))) := by kernel_rfl
theorem next81_C (c : Cal) (k m : Nat) (o : Nat → Value) (v1 v2 v4 v5 v16 v17 : Value) (H : Hp) (n : Nat) (D : List Nat) : KN c k m (TC o v1 v2 v4 v5 v16 v17) H n D =
    (binK P .add 3 (.tmp 17) (.const (.int .i64 1)) v17 (.int .i64 1) fun v29 => LP c k m (TC (upd o 29 v29) v1 v2 v4 v5 v16 v29) H n D) := by
  kernel_rfl
theorem post81_C (c : Cal) (k : Nat) (o : Nat → Value) (v1 v2 v4 v5 v16 v17 : Value) (H : Hp) (n : Nat) (D : List Nat) : KE c k (TC o v1 v2 v4 v5 v16 v17) H n D =
    (bindO (addrV v4) fun a => bindO (loadV P H 121 a) fun v30 => bindO (addrV v5) fun a5 => bindO (loadV P H 4 a5) fun v31 => effK P [.l 4 a5] H n (fun H n k => bindO (storeP P 121 v2 v30 H) fun H => k undef H n) fun _ H n =>
      getK (takeD H D) fun H => bindO (resV P (((Tr.nil : Tm).set 3 (some v31)).set 2 (some v2)) H results81) fun vs => some (oneV vs, H, n)) := by
  kernel_rfl
theorem asg81_C (l lp : Nat) (o : Nat → Value) (v1 v2 v4 v5 v16 v17 p q : Value) (H : Hp) (n : Nat) :
    (cal (l + 1)).body lp 81 asg81 { T := ((TC o v1 v2 v4 v5 v16 v17).set 23 (some p)).set 24 (some q), H, n, D := [] } =
      (allocK P 121 H n fun v7 H n => bindO (storeP P 121 v7 p H) fun H => allocK P 111 H n fun v8 H n => bindO (storeP P 111 v8 q H) fun H => some (.norm, { T := ((((TC o v1 v2 v4 v5 v16 v17).set 23 (some p)).set 24 (some q)).set 7 (some v7)).set 8 (some v8), H, n, D := [] })) := by kernel_rfl
theorem bod81_C (l lp : Nat) (o : Nat → Value) (v1 v2 v4 v5 v16 v17 p q v7 v8 : Value) (H : Hp) (n : Nat) :
    (cal (l + 1)).body lp 81 bod81 { T := ((((TC o v1 v2 v4 v5 v16 v17).set 23 (some p)).set 24 (some q)).set 7 (some v7)).set 8 (some v8), H, n, D := [] } =
      (bindO (addrV v1) fun a => bindO (loadV P H 105 a) fun v25 => bindO (addrV v8) fun a => bindO (loadV P H 111 a) fun v26 => callFK P (cal l) 83 [v25, v26] H n fun v27 H n => ifK v27
        (bindO (addrV v7) fun a => bindO (loadV P H 121 a) fun v28 => bindO (storeP P 121 v4 v28 H) fun H => bindO (storeP P 4 v5 (.bool true) H) fun H =>
          some (.exit 0, { T := ((((((((TC o v1 v2 v4 v5 v16 v17).set 23 (some p)).set 24 (some q)).set 7 (some v7)).set 8 (some v8)).set 25 (some v25)).set 26 (some v26)).set 27 (some v27)).set 28 (some v28), H, n, D := [] }))
        (some (.norm, { T := (((((((TC o v1 v2 v4 v5 v16 v17).set 23 (some p)).set 24 (some q)).set 7 (some v7)).set 8 (some v8)).set 25 (some v25)).set 26 (some v26)).set 27 (some v27), H, n, D := [] }))) := by kernel_rfl
theorem set18_C (o : Nat → Value) (v1 v2 v4 v5 v16 v17 v18 : Value) : (TC o v1 v2 v4 v5 v16 v17).set 18 (some v18) = TC (upd o 18 v18) v1 v2 v4 v5 v16 v17 := by kernel_rfl
theorem call81 (l : Nat) (a : Value) (H : Hp) (n : Nat) : (cal (l + 1)).call 81 [a] H n = bodyE P (cal l) A (KK + 1) 81 [a] H n := by kernel_rfl
theorem ntm81 : ntm P 81 = 32 := by kernel_rfl
theorem results81_eq : results81 = [.cell 2 121, .tmp 3] := by kernel_rfl
end Go.Proofs.Ytekajfobmnedjaa.spec
end
section
namespace Go.Proofs.Ytekajfobmnedjaa.spec
open Go Go.Ev Go.Proofs.Ytekajfobmnedjaa.nestFits Go.Proofs.Ytekajfobmnedjaa.G
set_option maxRecDepth 100000
variable {ρ : Type}
theorem agg4' : isAggT P 4 = some false := by kernel_rfl
theorem sz4' : szT P 4 = some 1 := by kernel_rfl
theorem zero4' : zeroT P 4 = some (.bool false) := by kernel_rfl
def IsT81 (T : Tm) (b1 b2 b4 b5 : Nat) (v16 v17 : Value) : Prop := (∃ o, T = TB o (.pointer (some ⟨b1, 0, none⟩)) (.pointer (some ⟨b2, 0, none⟩)) (.pointer (some ⟨b4, 0, none⟩)) (.pointer (some ⟨b5, 0, none⟩)) v16 v17) ∨ ∃ o, T = TC o (.pointer (some ⟨b1, 0, none⟩)) (.pointer (some ⟨b2, 0, none⟩)) (.pointer (some ⟨b4, 0, none⟩)) (.pointer (some ⟨b5, 0, none⟩)) v16 v17
theorem asg_of (l lp : Nat) {T : Tm} {b1 b2 b4 b5 : Nat} {v16 v17 : Value} (hT : IsT81 T b1 b2 b4 b5 v16 v17) (p q : Value) (H : Hp) (n : Nat) :
    (cal (l + 1)).body lp 81 asg81 { T := (T.set 23 (some p)).set 24 (some q), H, n, D := [] } =
      (allocK P 121 H n fun v7 H n => bindO (storeP P 121 v7 p H) fun H => allocK P 111 H n fun v8 H n => bindO (storeP P 111 v8 q H) fun H => some (.norm, { T := (((T.set 23 (some p)).set 24 (some q)).set 7 (some v7)).set 8 (some v8), H, n, D := [] })) := by
  rcases hT with ⟨o, rfl⟩ | ⟨o, rfl⟩
  · exact asg81_B ..
  · exact asg81_C ..
theorem bod_of (l lp : Nat) {T : Tm} {b1 b2 b4 b5 : Nat} {v16 v17 : Value} (hT : IsT81 T b1 b2 b4 b5 v16 v17) (p q v7 v8 : Value) (H : Hp) (n : Nat) : ∃ U V : Value → Value → Value → Value → Tm,
    (cal (l + 1)).body lp 81 bod81 { T := (((T.set 23 (some p)).set 24 (some q)).set 7 (some v7)).set 8 (some v8), H, n, D := [] } =
      (bindO (addrV (.pointer (some ⟨b1, 0, none⟩))) fun a => bindO (loadV P H 105 a) fun v25 => bindO (addrV v8) fun a => bindO (loadV P H 111 a) fun v26 => callFK P (cal l) 83 [v25, v26] H n fun v27 H n => ifK v27
        (bindO (addrV v7) fun a => bindO (loadV P H 121 a) fun v28 => bindO (storeP P 121 (.pointer (some ⟨b4, 0, none⟩)) v28 H) fun H => bindO (storeP P 4 (.pointer (some ⟨b5, 0, none⟩)) (.bool true) H) fun H =>
          some (.exit 0, { T := U v25 v26 v27 v28, H, n, D := [] }))
        (some (.norm, { T := V v25 v26 v27 v27, H, n, D := [] }))) := by
  rcases hT with ⟨o, rfl⟩ | ⟨o, rfl⟩
  · exact ⟨fun v25 v26 v27 v28 => _, fun v25 v26 v27 _ => _, bod81_B ..⟩
  · exact ⟨fun v25 v26 v27 v28 => _, fun v25 v26 v27 _ => _, bod81_C ..⟩
theorem yield81 (l : Nat) {T : Tm} {H : Hp} {n lb b1 b2 b4 b5 g d np nj : Nat} {f : Nat → Value} {x y z v16 v17 : Value} {ps js ks L X : List Int} (hT : IsT81 T b1 b2 b4 b5 v16 v17)
    (hl : H.get lb = some (.loop .ready none 81 T (ntm P 81) #[23, 24] asg81 bod81 d)) (h1 : H.get b1 = some (.cells [.pointer (some ⟨g, 0, none⟩)] 105 false none)) (h4 : ∃ w, H.get b4 = some (.cells w 121 false none) ∧ w.length = 8) (h5 : ∃ w, H.get b5 = some (.cells [w] 4 false none))
    (hf : CellsF H g 859 117 f) (hs : SiteF f x y z js nj) (hx : SliceR H n 2 x np ps) (hnp : np ≤ 8) (hL : L.length = 8) (hX : RowIs X js ks L nj np 8)
    (hlb : lb < n) (hb1 : b1 < n) (hb4 : b4 < n) (hb5 : b5 < n) (hg : g < n) (e1 : b1 ≠ lb) (e4 : b4 ≠ lb) (e5 : b5 ≠ lb) (eg : g ≠ lb) (e45 : b4 ≠ b5) (hxl : ∀ H' : Hp, (∀ b, b ≠ lb → H'.get b = H.get b) → SliceR H' n 2 x np ps) :
    ∃ H' n', n ≤ n' ∧ (∀ b, b < n → b ≠ lb → b ≠ b4 → b ≠ b5 → H'.get b = H.get b) ∧
      ((rightD js ks ps nj np L = true ∧ (∀ k : Value → Hp → Nat → Option ρ, callVK P (cal (l + 5)) (.func (.yield lb) #[] #[]) [.agg ⟨ints L⟩, .agg ⟨ints X⟩] H n k = k (.bool false) H' n') ∧ H'.get b4 = some (.cells (ints L) 121 false none) ∧ H'.get b5 = some (.cells [.bool true] 4 false none) ∧ H'.get lb = some (.loop .done (some (.exit 0)) 81 T (ntm P 81) #[23, 24] asg81 bod81 d)) ∨
       (rightD js ks ps nj np L = false ∧ (∀ k : Value → Hp → Nat → Option ρ, callVK P (cal (l + 5)) (.func (.yield lb) #[] #[]) [.agg ⟨ints L⟩, .agg ⟨ints X⟩] H n k = k (.bool true) H' n') ∧ H'.get b4 = H.get b4 ∧ H'.get b5 = H.get b5 ∧ H'.get lb = H.get lb)) := by
  have lLi : (ints L).length = 8 := by rw [ints_length, hL]
  have lXi : (ints X).length = 16 := by rw [ints_length, hX.1]
  have hpar : paramsT T (ntm P 81) (#[23, 24] : Array Tmp).toList [.agg ⟨ints L⟩, .agg ⟨ints X⟩] = some ((T.set 23 (some (.agg ⟨ints L⟩))).set 24 (some (.agg ⟨ints X⟩))) := by
    rw [ntm81]; rfl
  obtain ⟨H1, k1, k2, k3⟩ := spill (P := P) (ρ := Ex × St) (H := H) (n := n) (L := ints L) zero121 rfl sz121 lLi (ints_leaf _)
  obtain ⟨H2, k4, k5, k6⟩ := spill (P := P) (ρ := Ex × St) (H := H1) (n := n + 1) (L := ints X) zero111 rfl sz111 lXi (ints_leaf _)
  have kk : Keep n H H2 := k1.trans k4 (by omega)
  have hasg : (cal (l + 5)).body lb 81 asg81 { T := (T.set 23 (some (.agg ⟨ints L⟩))).set 24 (some (.agg ⟨ints X⟩)), H, n, D := [] } = some (.norm, { T := (((T.set 23 (some (.agg ⟨ints L⟩))).set 24 (some (.agg ⟨ints X⟩))).set 7 (some (.pointer (some ⟨n, 0, none⟩)))).set 8 (some (.pointer (some ⟨n + 1, 0, none⟩))), H := H2, n := n + 1 + 1, D := [] }) := by
    rw [asg_of (l + 4) lb hT, k3, k6]
  have hl2 := (kk lb hlb).trans hl
  have hrdy : isReady H2 lb = true := by unfold isReady; rw [hl2]
  have hpen : pendingOf H2 lb = none := by unfold pendingOf; rw [hl2]
  have hbusy : setLoop H2 lb .busy none = some (H2.set lb (some (.loop .busy none 81 T (ntm P 81) #[23, 24] asg81 bod81 d))) := by unfold setLoop; rw [hl2]
  have ho : ∀ b, b ≠ lb → (H2.set lb (some (.loop .busy none 81 T (ntm P 81) #[23, 24] asg81 bod81 d))).get b = H2.get b := fun b hb => by rw [Tr.get_set, if_neg hb]
  have gl : (H2.set lb (some (.loop .busy none 81 T (ntm P 81) #[23, 24] asg81 bod81 d))).get lb = some (.loop .busy none 81 T (ntm P 81) #[23, 24] asg81 bod81 d) := by rw [Tr.get_set, if_pos rfl]
  have hx3 : SliceR (H2.set lb (some (.loop .busy none 81 T (ntm P 81) #[23, 24] asg81 bod81 d))) (n + 1 + 1) 2 x np ps := by
    have := (hxl (H.set lb (some (.loop .busy none 81 T (ntm P 81) #[23, 24] asg81 bod81 d))) fun b hb => by rw [Tr.get_set, if_neg hb])
    refine (this.keep (m := n) (fun b hb => ?_) (Nat.le_refl _)).up (by omega)
    rw [Tr.get_set, Tr.get_set]
    split
    · rfl
    · exact kk b hb
  generalize H2.set lb (some (.loop .busy none 81 T (ntm P 81) #[23, 24] asg81 bod81 d)) = H3 at hbusy ho gl hx3
  have low : ∀ b, b < n → b ≠ lb → H3.get b = H.get b := fun b hb hne => (ho b hne).trans (kk b hb)
  have g7 : H3.get n = some (.cells (ints L) 121 false none) := by rw [ho n (by omega), k4 n (by omega)]; exact k2
  have g8 : H3.get (n + 1) = some (.cells (ints X) 111 false none) := by rw [ho _ (by omega)]; exact k5
  have hf3 : CellsF H3 g 859 117 f := by
    obtain ⟨c, a1, a2, a3⟩ := hf
    exact ⟨c, (low g hg eg).trans a1, a2, a3⟩
  obtain ⟨r, H4, n4, r0, r1, r2, r3⟩ := right_call (ρ := Ex × St) l (show g < n + 1 + 1 by omega) hf3 hs hx3 hnp hX.1
  have hr : r = true ↔ rightD js ks ps nj np L = true := by rw [r0, right_iff hX hnp, rightD_iff]
  have o4 : ∀ b, b < n → b ≠ lb → H4.get b = H.get b := fun b hb hne => (r3 b (by omega)).trans (low b hb hne)
  have gl4 : H4.get lb = some (.loop .busy none 81 T (ntm P 81) #[23, 24] asg81 bod81 d) := (r3 lb (by omega)).trans gl
  have l1 : loadV P H3 105 ⟨b1, 0, none⟩ = some (.pointer (some ⟨g, 0, none⟩)) := load_func ((low b1 hb1 e1).trans h1) agg105 rfl rfl
  obtain ⟨U, V, hbd⟩ := bod_of (l + 4) lb hT (.agg ⟨ints L⟩) (.agg ⟨ints X⟩) (.pointer (some ⟨n, 0, none⟩)) (.pointer (some ⟨n + 1, 0, none⟩)) H3 (n + 1 + 1)
  rw [addrV_eq, bindO_some, l1, bindO_some, addrV_eq, bindO_some, load_all g8 agg111 sz111 lXi, bindO_some, r1] at hbd
  have out : ∀ (j : Bool) (H' : Hp) (n' : Nat), (∀ k : Value → Hp → Nat → Option ρ, yieldF (fun | some l' => (cal (l + 5)).body l' | none => fun _ _ _ => none) P lb [.agg ⟨ints L⟩, .agg ⟨ints X⟩] (bare H n) = some (.bool j, { bare H n with H := H', n := n' }) → callVK P (cal (l + 5)) (.func (.yield lb) #[] #[]) [.agg ⟨ints L⟩, .agg ⟨ints X⟩] H n k = k (.bool j) H' n') := by
    intro j H' n' k hy
    show stK (yieldF (fun | some l' => (cal (l + 5)).body l' | none => fun _ _ _ => none) P lb [.agg ⟨ints L⟩, .agg ⟨ints X⟩] (bare H n)) k = _
    rw [hy]
    rfl
  have hb : Nat.beq (ntm P 81) (ntm P 81) = true := Nat.beq_refl _
  cases r with
  | false =>
    have hRf : rightD js ks ps nj np L = false := by
      cases c : rightD js ks ps nj np L with
      | false => rfl
      | true => exact absurd (hr.2 c) (by simp)
    rw [ifK_f] at hbd
    have hend : setLoop H4 lb .ready none = some (H4.set lb (some (.loop .ready none 81 T (ntm P 81) #[23, 24] asg81 bod81 d))) := by unfold setLoop; rw [gl4]
    refine ⟨H4.set lb (some (.loop .ready none 81 T (ntm P 81) #[23, 24] asg81 bod81 d)), n4, by omega, fun b hbn h1 _ _ => by rw [Tr.get_set, if_neg h1]; exact o4 b hbn h1, .inr ⟨hRf, fun k => out true _ _ k ?_, by rw [Tr.get_set, if_neg e4]; exact o4 b4 hb4 e4, by rw [Tr.get_set, if_neg e5]; exact o4 b5 hb5 e5, by rw [Tr.get_set, if_pos rfl, hl]⟩⟩
    unfold yieldF
    have hx : exCode .norm = some none := rfl
    simp only [bare, hl, hb, hpar, hasg, hrdy, hpen, hbusy, hbd, hx, Option.isNone_none, if_true, hend]
  | true =>
    obtain ⟨w4, w41, w42⟩ := h4
    obtain ⟨w5, w51⟩ := h5
    have g4 := (o4 b4 hb4 e4).trans w41
    have hst := storeN_all (vs := ints L) g4 (by rw [lLi, w42]) (ints_leaf _)
    have g5 : (H4.set b4 (some (.cells (ints L) 121 false none))).get b5 = some (.cells [w5] 4 false none) := by rw [Tr.get_set, if_neg (Ne.symm e45)]; exact (o4 b5 hb5 e5).trans w51
    have hst5 := storeN_all (vs := [.bool true]) g5 rfl rfl
    have l7 := load_all ((r3 n (by omega)).trans g7) agg121 sz121 lLi
    rw [ifK_t, addrV_eq, bindO_some, l7, bindO_some, storeP_agg sz121 lLi, hst, bindO_some, storeP_leaf sz4' rfl, hst5, bindO_some] at hbd
    have q1 : ((H4.set b4 (some (.cells (ints L) 121 false none))).set b5 (some (.cells [.bool true] 4 false none))).get b4 = some (.cells (ints L) 121 false none) := by rw [Tr.get_set, if_neg e45, Tr.get_set, if_pos rfl]
    have q2 : ((H4.set b4 (some (.cells (ints L) 121 false none))).set b5 (some (.cells [.bool true] 4 false none))).get b5 = some (.cells [.bool true] 4 false none) := by rw [Tr.get_set, if_pos rfl]
    have q3 : ∀ b, b ≠ b4 → b ≠ b5 → ((H4.set b4 (some (.cells (ints L) 121 false none))).set b5 (some (.cells [.bool true] 4 false none))).get b = H4.get b := fun b h1 h2 => by rw [Tr.get_set, if_neg h2, Tr.get_set, if_neg h1]
    generalize (H4.set b4 (some (.cells (ints L) 121 false none))).set b5 (some (.cells [.bool true] 4 false none)) = H5 at hbd q1 q2 q3
    have hend : setLoop H5 lb .done (some (.exit 0)) = some (H5.set lb (some (.loop .done (some (.exit 0)) 81 T (ntm P 81) #[23, 24] asg81 bod81 d))) := by unfold setLoop; rw [q3 lb (Ne.symm e4) (Ne.symm e5), gl4]
    refine ⟨H5.set lb (some (.loop .done (some (.exit 0)) 81 T (ntm P 81) #[23, 24] asg81 bod81 d)), n4, by omega, fun b hbn h1 h2 h3 => by rw [Tr.get_set, if_neg h1, q3 b h2 h3]; exact o4 b hbn h1, .inl ⟨hr.1 rfl, fun k => out false _ _ k ?_, by rw [Tr.get_set, if_neg e4]; exact q1, by rw [Tr.get_set, if_neg e5]; exact q2, by rw [Tr.get_set, if_pos rfl]⟩⟩
    unfold yieldF
    have hx : exCode (.exit 0) = some (some (.exit 0)) := rfl
    have hn : (some (Code.exit 0)).isNone = false := rfl
    have hff : ¬ (false = true) := by simp
    simp only [bare, hl, hb, hpar, hasg, hrdy, hpen, hbusy, hbd, hx, hn, if_neg hff, hend]
end Go.Proofs.Ytekajfobmnedjaa.spec
end
section
namespace Go.Proofs.Ytekajfobmnedjaa.spec
open Go Go.Ev Go.Proofs.Ytekajfobmnedjaa.nestFits Go.Proofs.Ytekajfobmnedjaa.G
set_option maxRecDepth 100000
variable {ρ : Type}
end Go.Proofs.Ytekajfobmnedjaa.spec
end
section
namespace Go.Proofs.Ytekajfobmnedjaa.spec
open Go Go.Ev Go.Proofs.Ytekajfobmnedjaa.nestFits Go.Proofs.Ytekajfobmnedjaa.G
set_option maxRecDepth 100000
variable {ρ : Type}
end Go.Proofs.Ytekajfobmnedjaa.spec
end
section
namespace Go.Proofs.Ytekajfobmnedjaa.spec
open Go Go.Ev Go.Proofs.Ytekajfobmnedjaa.nestFits Go.Proofs.Ytekajfobmnedjaa.G
set_option maxRecDepth 100000
variable {ρ : Type}
end Go.Proofs.Ytekajfobmnedjaa.spec
end
section
namespace Go.Proofs.Ytekajfobmnedjaa.spec
open Go Go.Ev Go.Proofs.Ytekajfobmnedjaa.nestFits Go.Proofs.Ytekajfobmnedjaa.G
set_option maxRecDepth 100000
variable {ρ : Type}
def RowAt (H : Hp) (base n : Nat) (v : Value) (xs : List Int) : Prop := (v = .slice none 0 0 ∧ xs = []) ∨ ∃ b cap, v = .slice (some ⟨b, 0, none⟩) xs.length cap ∧ base ≤ b ∧ b < n ∧ H.get b = some (.cells (ints xs) 3 false (some 1))
theorem eq44 (p q : Operand) (b o l c : Nat) : binV P .eql 44 p q (.slice (some ⟨b, o, none⟩) l c) (.slice none 0 0) = some (.bool false) := by kernel_rfl
theorem flat76 : flatF P 76 = false := by kernel_rfl
theorem call76 (l : Nat) (a : Value) (H : Hp) (n : Nat) : (cal (l + 1)).call 76 [a] H n = C76_0 (cal l) KK a H n := by kernel_rfl
theorem clone76_at (l : Nat) {H : Hp} {n len : Nat} {v : Value} {xs : List Int} (h : ListR H n v len xs) (h0 : len ≠ 0) (hlen : len ≤ 1000) :
    ∃ H' n', (∀ k : Value → Hp → Nat → Option ρ, callFK P (cal (l + 1)) 76 [v] H n k = k (.slice (some ⟨n + 1, 0, none⟩) len capV) H' n') ∧ n + 1 < n' ∧ Keep n H H' ∧ H'.get (n + 1) = some (.cells (ints xs) 3 false (some 1)) := by
  obtain ⟨H', n', e, h1, h2, h3⟩ := list_at (cal l) KK h h0 hlen
  have e' : C76_0 (cal l) KK v H n = C23_0 (cal l) KK v H n := by
    rcases h.2.2 with ⟨_, z⟩ | ⟨b, o, cap, rfl, _⟩
    · exact absurd z h0
    · unfold C76_0 B76_0 C23_0 B23_0
      rw [binK_some (eq44 ..), ifK_f]
  refine ⟨H', n', fun k => ?_, h1, h2, h3⟩
  unfold callFK
  rw [flat76, call76, e', e]
  rfl
theorem ints_take_list {H : Hp} {b n k : Nat} {xs : List Int} {e : TypeId} {vec : Option Nat} (h : H.get b = some (.cells (ints xs) e false vec)) (hb : b < n) (hk : k ≤ xs.length) (hx : ∀ x ∈ xs, I64 x) {cap : Nat} : ListR H n (.slice (some ⟨b, 0, none⟩) k cap) k (xs.take k) := by
  refine ⟨by simp; omega, fun x hx' => hx x (List.mem_of_mem_take hx'), .inr ⟨b, 0, cap, rfl, hb, _, ints xs, h, rfl, fun q v hv => ?_⟩⟩
  have : (ints (xs.take k))[q]? = if q < k then (ints xs)[q]? else none := by
    unfold ints
    rw [List.map_take, List.getElem?_take]
  rw [this] at hv
  split at hv
  · rw [Nat.zero_add]; exact hv
  · cases hv
end Go.Proofs.Ytekajfobmnedjaa.spec
end
section
namespace Go.Proofs.Ytekajfobmnedjaa.spec
open Go Go.Ev Go.Proofs.Ytekajfobmnedjaa.nestFits Go.Proofs.Ytekajfobmnedjaa.G
set_option maxRecDepth 100000
variable {ρ : Type}
end Go.Proofs.Ytekajfobmnedjaa.spec
end
section
namespace Go.Proofs.Ytekajfobmnedjaa.spec
open Go Go.Ev Go.Proofs.Ytekajfobmnedjaa.nestFits Go.Proofs.Ytekajfobmnedjaa.G
set_option maxRecDepth 100000
variable {ρ : Type}
theorem zero176 : zeroT P 176 = some .nilFunc := by kernel_rfl
theorem sz176 : szT P 176 = some 1 := by kernel_rfl
theorem build111' : buildP P 111 [] = some (.agg ⟨ints (List.replicate 16 0)⟩) := by kernel_rfl
def noL : List Int := List.replicate 8 (-1)
theorem noL_get {q : Nat} (h : q < 8) : noL.getD q 0 = -1 := by
  rw [List.getD_eq_getElem?_getD, noL, List.getElem?_replicate, if_pos h]; rfl
theorem noL_open : Open noL 0 := ⟨rfl, fun _ _ h => noL_get h⟩
theorem noL_kinds (np nk : Nat) : KindsIn noL np nk := fun _ hi => .inl (noL_get hi)
theorem noL_row (js ks : List Int) (nj np : Nat) : RowIs (List.replicate 16 0) js ks noL nj np 8 := by
  refine ⟨rfl, fun q hq => ?_⟩
  have z : ∀ k, (List.replicate 16 (0 : Int)).getD k 0 = 0 := fun k => by
    rw [List.getD_eq_getElem?_getD, List.getElem?_replicate]; split <;> rfl
  have s : ∀ e, bsum js ks noL nj np 8 e q = 0 := fun e => by
    unfold bsum
    have : ∀ i, i ≤ 8 → sumTo (fun p => if noL.getD p 0 = -1 then 0 else ext (ks.getD ((noL.getD p 0).toNat * 5) 0) (shP js ks nj np p (noL.getD p 0).toNat) e q) i = 0 := by
      intro i
      induction i with
      | zero => intro _; rfl
      | succ i ih =>
        intro hi
        simp only [sumTo]
        rw [ih (by omega), if_pos (noL_get (by omega))]
        rfl
    exact this 8 (Nat.le_refl _)
  rw [z, z, s, s]
  exact ⟨rfl, rfl⟩
def LayOut (H : Hp) (n lb b4 b5 : Nat) (T : Tm) (d : Nat) (o : Option (List Int)) (H' : Hp) : Prop := match o with
  | some M => (∀ b, b < n → b ≠ lb → b ≠ b4 → b ≠ b5 → H'.get b = H.get b) ∧ H'.get b4 = some (.cells (ints M) 121 false none) ∧ H'.get b5 = some (.cells [.bool true] 4 false none) ∧ H'.get lb = some (.loop .done (some (.exit 0)) 81 T (ntm P 81) #[23, 24] asg81 bod81 d)
  | none => ∀ b, b < n → H'.get b = H.get b
theorem layouts_spec (l : Nat) {T : Tm} {H : Hp} {n lb b1 b2 b4 b5 sb nb g d np nj nk nests m0 : Nat} {f : Nat → Value} {x y z v16 v17 : Value} {ps js ks : List Int} (hT : IsT81 T b1 b2 b4 b5 v16 v17)
    (hl : H.get lb = some (.loop .ready none 81 T (ntm P 81) #[23, 24] asg81 bod81 d)) (h1 : H.get b1 = some (.cells [.pointer (some ⟨g, 0, none⟩)] 105 false none)) (h4 : ∃ w, H.get b4 = some (.cells w 121 false none) ∧ w.length = 8) (h5 : ∃ w, H.get b5 = some (.cells [w] 4 false none))
    (hsb : H.get sb = some (.cells [.pointer (some ⟨g, 0, none⟩)] 105 false none)) (hnb : H.get nb = some (.cells [.int .i64 nests] 3 false none))
    (hf : CellsF H g 859 117 f) (hs : SiteF f x y z js nj) (hz : lenV P 33 z = some (.int .i64 nk)) (hn : ∀ p kd, p < np → kd < nk → NestAt f js ks nj np p kd) (hks : KindsOk ks nk) (hx : SliceR H m0 2 x np ps) (hnp : np ≤ 8) (hnk : nk ≤ 3) (hnests : nests ≤ 8)
    (hm0 : m0 ≤ lb) (hlb : lb < n) (hb1 : b1 < n) (hb4 : b4 < n) (hb5 : b5 < n) (hsbn : sb < n) (hnbn : nb < n) (hg : g < n) (e1 : b1 ≠ lb) (e4 : b4 ≠ lb) (e5 : b5 ≠ lb) (eg : g ≠ lb) (e45 : b4 ≠ b5) :
    ∃ H' n', n ≤ n' ∧ C117_0 (cal (l + 5 + np + 1)) KK (.func (.yield lb) #[] #[]) (.pointer (some ⟨sb, 0, none⟩)) (.pointer (some ⟨nb, 0, none⟩)) H n = some (.tuple ⟨[]⟩, H', n') ∧
      LayOut H n lb b4 b5 T d (findL (rightD js ks ps nj np) (holdsD js ks ps nj np) (fitD js ks nj np) np nk np noL nests) H' := by
  unfold C117_0 B117_0
  rw [boxK_eq, allocK_eq zero176]
  simp only [cellsV, ptr]
  have g0 : ((H.set n (some (.cells [.func (.yield lb) #[] #[]] 175 false none))).set (n + 1) (some (.cells [.nilFunc] 176 false none))).get (n + 1) = some (.cells [.nilFunc] 176 false none) := by rw [Tr.get_set, if_pos rfl]
  have hst := storeN_all (vs := [placeV sb n (n + 1)]) g0 rfl rfl
  have hst' : storeP P 176 (.pointer (some ⟨n + 1, 0, none⟩)) (.func (.func 118) ⟨[]⟩ ⟨[.pointer (some ⟨sb, 0, none⟩), .pointer (some ⟨n, 0, none⟩), .pointer (some ⟨n + 1, 0, none⟩)]⟩) ((H.set n (some (.cells [.func (.yield lb) #[] #[]] 175 false none))).set (n + 1) (some (.cells [.nilFunc] 176 false none))) = _ := (storeP_leaf sz176 rfl).trans hst
  rw [hst', bindO_some]
  have q1 : (((H.set n (some (.cells [.func (.yield lb) #[] #[]] 175 false none))).set (n + 1) (some (.cells [.nilFunc] 176 false none))).set (n + 1) (some (.cells [placeV sb n (n + 1)] 176 false none))).get n = some (.cells [.func (.yield lb) #[] #[]] 175 false none) := by rw [Tr.get_set, if_neg (by omega), Tr.get_set, if_neg (by omega), Tr.get_set, if_pos rfl]
  have q2 : (((H.set n (some (.cells [.func (.yield lb) #[] #[]] 175 false none))).set (n + 1) (some (.cells [.nilFunc] 176 false none))).set (n + 1) (some (.cells [placeV sb n (n + 1)] 176 false none))).get (n + 1) = some (.cells [placeV sb n (n + 1)] 176 false none) := by rw [Tr.get_set, if_pos rfl]
  have q3 : Keep n H (((H.set n (some (.cells [.func (.yield lb) #[] #[]] 175 false none))).set (n + 1) (some (.cells [.nilFunc] 176 false none))).set (n + 1) (some (.cells [placeV sb n (n + 1)] 176 false none))) := (((Keep.refl n H).set (Nat.le_refl _) _).set (by omega) _).set (by omega) _
  generalize ((H.set n (some (.cells [.func (.yield lb) #[] #[]] 175 false none))).set (n + 1) (some (.cells [.nilFunc] 176 false none))).set (n + 1) (some (.cells [placeV sb n (n + 1)] 176 false none)) = H2 at q1 q2 q3 ⊢
  have l1 := load_func q2 agg176 rfl rfl
  have l2 : loadV P H2 3 ⟨nb, 0, none⟩ = some (.int .i64 nests) := loadV_int (o := 0) (k := 0) (cells_at ((q3 nb hnbn).trans hnb)) agg3 rfl
  rw [addrV_eq, bindO_some, l1, bindO_some, build111', bindO_some, addrV_eq, bindO_some, l2, bindO_some]
  obtain ⟨H3, s3, c3⟩ := effK_still (P := P) (ρ := Value × Hp × Nat) (ex := [.l 3 ⟨nb, 0, none⟩, .l 176 ⟨n + 1, 0, none⟩]) (H := H2) (n := n + 1 + 1) (v := .agg ⟨ints noL⟩)
    (op := fun H n k => callFK P (cal (l + 5 + np + 1)) 101 [] H n fun v H n => k v H n)
    ⟨fun q hq => .inl (by
      simp only [List.mem_cons, List.not_mem_nil, or_false] at hq
      rcases hq with rfl | rfl
      · exact ⟨_, _, rfl, .inl ⟨_, _, _, _, (q3 nb hnbn).trans hnb⟩⟩
      · exact ⟨_, _, rfl, .inl ⟨_, _, _, _, q2⟩⟩), fun t a id c e h1 h2 => by simp at h2⟩ (fun H k => bare_call (l + 5 + np) H _ _)
  rw [c3]
  have low : ∀ b, b < n → H3.get b = H.get b := fun b hb => by rw [s3, q3 b hb]
  have ar : Around (fun H' n' => n + 2 ≤ n' ∧ ∀ b, b < n + 2 → H'.get b = H3.get b) (n + 2) sb n (n + 1) g np f x (.func (.yield lb) #[] #[]) ps := by
    refine ⟨fun H' n' ⟨hn', hk'⟩ => ⟨hn', by rw [hk' _ (by omega), low _ hsbn]; exact hsb, by rw [hk' _ (by omega), s3]; exact q1, by rw [hk' _ (by omega), s3]; exact q2, ?_, ?_⟩, fun H1 n1 H' n' ⟨_, hk1⟩ hn' hk' => ⟨hn', fun b hb => (hk' b hb).trans (hk1 b hb)⟩, ⟨by omega, by omega, by omega, by omega⟩, rfl, rfl⟩
    · obtain ⟨c, a1, a2, a3⟩ := hf
      exact ⟨c, by rw [hk' g (by omega), low g hg]; exact a1, a2, a3⟩
    · exact (hx.keep (m := m0) (fun b hb => by rw [hk' b (by omega), low b (by omega)]) (Nat.le_refl _)).up (by omega)
  have hY : Yields (fun H' n' => n + 2 ≤ n' ∧ ∀ b, b < n + 2 → H'.get b = H3.get b) (fun M H' n' => LayOut H n lb b4 b5 T d (some M) H') (n + 2) np nj js ks ps (.func (.yield lb) #[] #[]) := by
    intro lv L X Hc nc ⟨hnc, hkc⟩ hL hX
    have lowc : ∀ b, b < n → Hc.get b = H.get b := fun b hb => (hkc b (by omega)).trans (low b hb)
    obtain ⟨H', n', r1, r2, r3⟩ := yield81 (ρ := Value × Hp × Nat) lv (H := Hc) (n := nc) (lb := lb) (g := g) (d := d) (x := x) (y := y) (z := z) (f := f) (js := js) (ks := ks) (ps := ps) (L := L) (X := X) (np := np) (nj := nj) hT ((lowc lb hlb).trans hl) ((lowc b1 hb1).trans h1)
      (by obtain ⟨w, w1, w2⟩ := h4; exact ⟨w, (lowc b4 hb4).trans w1, w2⟩) (by obtain ⟨w, w1⟩ := h5; exact ⟨w, (lowc b5 hb5).trans w1⟩)
      (by
        obtain ⟨c, a1, a2, a3⟩ := hf
        exact ⟨c, by rw [lowc g hg]; exact a1, a2, a3⟩) hs ((hx.keep (m := m0) (fun b hb => lowc b (by omega)) (Nat.le_refl _)).up (by omega)) hnp hL hX (by omega) (by omega) (by omega) (by omega) (by omega) e1 e4 e5 eg e45
      (fun H' hk => (hx.keep (m := m0) (fun b hb => by rw [hk b (by omega), lowc b (by omega)]) (Nat.le_refl _)).up (by omega))
    refine ⟨H', n', r1, fun b hb hbn => r2 b hbn (by omega) (by omega) (by omega), ?_⟩
    rcases r3 with ⟨z1, z2, z3, z4, z5⟩ | ⟨z1, z2, z3, z4, z5⟩
    · exact .inl ⟨z1, z2, fun b hb i1 i2 i3 => by rw [r2 b (by omega) i1 i2 i3, lowc b hb], z3, z4, z5⟩
    · refine .inr ⟨z1, z2, by omega, fun b hb => ?_⟩
      by_cases i1 : b = lb
      · rw [i1, z5, hkc lb (by omega)]
      · by_cases i2 : b = b4
        · rw [i2, z3, hkc b4 (by omega)]
        · by_cases i3 : b = b5
          · rw [i3, z4, hkc b5 (by omega)]
          · rw [r2 b (by omega) i1 i2 i3, hkc b hb]
  have hp := place_spec l ar hs hz hn hks hnp hnk hY np noL (List.replicate 16 0) nests 0 H3 (n + 1 + 1) (by omega) noL_open (noL_kinds np nk) (noL_row ..) hnests ⟨by omega, fun _ _ => rfl⟩
  have epl := place_value (ρ := Value × Hp × Nat) (l + 5 + np) (.agg ⟨ints noL⟩) (.agg ⟨ints (List.replicate 16 0)⟩) (.int .i64 ((0 : Nat) : Int)) (.int .i64 nests) sb n (n + 1)
  have ez : (Value.int IntKind.i64 0) = .int .i64 ((0 : Nat) : Int) := rfl
  rw [ez, epl]
  obtain ⟨H4, n4, y1, _, y3⟩ := hp
  refine ⟨H4, n4, by omega, ?_, ?_⟩
  · cases hfd : findL (rightD js ks ps nj np) (holdsD js ks ps nj np) (fitD js ks nj np) np nk np noL nests with
    | some M => rw [hfd] at y3; rw [y3.1]; rfl
    | none => rw [hfd] at y3; rw [y3.1]; rfl
  · cases hfd : findL (rightD js ks ps nj np) (holdsD js ks ps nj np) (fitD js ks nj np) np nk np noL nests with
    | some M => rw [hfd] at y3; exact y3.2
    | none =>
      rw [hfd] at y3
      exact fun b hb => by rw [y3.2.2 b (by omega), low b hb]
end Go.Proofs.Ytekajfobmnedjaa.spec
end
section
namespace Go.Proofs.Ytekajfobmnedjaa.spec
open Go Go.Ev Go.Proofs.Ytekajfobmnedjaa.nestFits Go.Proofs.Ytekajfobmnedjaa.G
set_option maxRecDepth 100000
variable {ρ : Type}
theorem flat110 : flatF P 110 = false := by kernel_rfl
theorem call110 (l : Nat) (a b : Value) (H : Hp) (n : Nat) : (cal (l + 1)).call 110 [a, b] H n = C110_0 (cal l) KK a b H n := by kernel_rfl
theorem call117 (l : Nat) (a b c : Value) (H : Hp) (n : Nat) : (cal (l + 1)).call 117 [a, b, c] H n = C117_0 (cal l) KK a b c H n := by kernel_rfl
theorem layouts_call (l : Nat) (g : Nat) (i : Int) (H : Hp) (n : Nat) (k : Value → Hp → Nat → Option ρ) : callFK P (cal (l + 1)) 110 [.pointer (some ⟨g, 0, none⟩), .int .i64 i] H n k =
    k (.func (.func 117) ⟨[]⟩ ⟨[.pointer (some ⟨n, 0, none⟩), .pointer (some ⟨n + 1, 0, none⟩)]⟩) ((H.set n (some (.cells [.pointer (some ⟨g, 0, none⟩)] 105 false none))).set (n + 1) (some (.cells [.int .i64 i] 3 false none))) (n + 2) := by
  unfold callFK
  rw [flat110, call110]
  rfl
theorem layouts_range (l : Nat) (a b c : Value) (H : Hp) (n : Nat) (k : Value → Hp → Nat → Option ρ) (hb : pureV b = false) : callFK P (cal (l + 1)) 117 [a, b, c] H n k = bindO (C117_0 (cal l) KK a b c H n) fun r => k r.1 r.2.1 r.2.2 := by
  unfold callFK
  have : (flatF P 117 && pureL [a, b, c]) = false := by simp [pureL, hb]
  rw [this, call117]
theorem range81 (c : Cal) (a b : Value) (K : KC (Value × Hp × Nat)) (X : XC (Value × Hp × Nat)) (Kr : KC (Value × Hp × Nat)) (T : Tm) (H : Hp) (n : Nat) (D : List Nat) :
    rangeK P c none 81 (.func (.func 117) ⟨[]⟩ ⟨[a, b]⟩) #[23, 24] asg81 bod81 K X Kr T H n D =
      callFK P c 117 [.func (.yield (n + 1)) #[] #[], a, b] ((H.set n (some .deferred)).set (n + 1) (some (.loop .ready none 81 T (ntm P 81) #[23, 24] asg81 bod81 n))) (n + 2) fun _ H n' => fin K X Kr (rangeOut (n + 1) { T := T, H, n := n', D := n :: D }) := rfl
theorem takeD_ok : ∀ (D : List Nat) (H : Hp), D.Nodup → (∀ d, d ∈ D → H.get d = some .deferred) → ∃ H', takeD H D = some H' ∧ ∀ b, b ∉ D → H'.get b = H.get b
  | [], H, _, _ => ⟨H, rfl, fun _ _ => rfl⟩
  | d :: D, H, hD, h => by
    obtain ⟨h1, h2⟩ := List.nodup_cons.1 hD
    obtain ⟨H', q1, q2⟩ := takeD_ok D (H.set d none) h2 fun e he => by
      have : e ≠ d := fun c => h1 (c ▸ he)
      rw [Tr.get_set, if_neg this]
      exact h e (List.mem_cons_of_mem _ he)
    refine ⟨H', ?_, fun b hb => ?_⟩
    · unfold takeD
      simp only [h d (List.mem_cons_self ..), q1]
    · have hb1 : b ≠ d := fun c => hb (c ▸ List.mem_cons_self ..)
      rw [q2 b fun c => hb (List.mem_cons_of_mem _ c), Tr.get_set, if_neg hb1]
theorem res81 (b2 : Nat) (v : Value) (M : List Int) (H : Hp) (hM : M.length = 8) (h : H.get b2 = some (.cells (ints M) 121 false none)) : resV P (((Tr.nil : Tm).set 3 (some v)).set 2 (some (.pointer (some ⟨b2, 0, none⟩)))) H results81 = some [.agg ⟨ints M⟩, v] := by
  rw [results81_eq]
  have t2 : (((Tr.nil : Tm).set 3 (some v)).set 2 (some (.pointer (some ⟨b2, 0, none⟩)))).get 2 = some (.pointer (some ⟨b2, 0, none⟩)) := by rw [Tr.get_set, if_pos rfl]
  have t3 : (((Tr.nil : Tm).set 3 (some v)).set 2 (some (.pointer (some ⟨b2, 0, none⟩)))).get 3 = some v := by rw [Tr.get_set, if_neg (by omega), Tr.get_set, if_pos rfl]
  simp only [resV, t2, t3, load_all h agg121 sz121 (by rw [ints_length, hM])]
theorem ld_one {t : TypeId} {a : Addr} (b : Nat) : ldOf [.l t a] b ↔ b = a.block := by
  constructor
  · rintro ⟨t', a', h1, h2⟩
    simp only [List.mem_cons, List.not_mem_nil, or_false, Extra.l.injEq] at h1
    obtain ⟨_, rfl⟩ := h1
    exact h2.symm
  · rintro rfl
    exact ⟨t, a, by simp, rfl⟩
theorem end81 (c : Cal) (k : Nat) {T : Tm} {b1 b2 b4 b5 : Nat} {v16 v17 : Value} (hT : IsT81 T b1 b2 b4 b5 v16 v17) {H : Hp} {n : Nat} {D : List Nat} {M : List Int} {r : Bool} (hM : M.length = 8) (h2 : ∃ w, H.get b2 = some (.cells w 121 false none) ∧ w.length = 8) (h4 : H.get b4 = some (.cells (ints M) 121 false none)) (h5 : H.get b5 = some (.cells [.bool r] 4 false none)) (e2 : b2 ≠ b5) (hD : D.Nodup) (hd : ∀ d, d ∈ D → H.get d = some .deferred) :
    ∃ H', KE c k T H n D = some (.tuple ⟨[.agg ⟨ints M⟩, .bool r]⟩, H', n) ∧ ∀ b, b ∉ D → b ≠ b2 → H'.get b = H.get b := by
  obtain ⟨w, w1, w2⟩ := h2
  have lM : (ints M).length = 8 := by rw [ints_length, hM]
  have l4 := load_all h4 agg121 sz121 lM
  have l5 : loadV P H 4 ⟨b5, 0, none⟩ = some (.bool r) := loadV_scalar (o := 0) (k := 0) (cells_at h5) agg4' rfl rfl rfl
  have hb5D : b5 ∉ D := fun h => by have := hd b5 h; rw [h5] at this; cases this
  have hb2D : b2 ∉ D := fun h => by have := hd b2 h; rw [w1] at this; cases this
  obtain ⟨H1, H2, n2, q1, ⟨rfl, q2, q3⟩, q4, q5⟩ := effK_gen (P := P) (ρ := Value × Hp × Nat) (ex := [.l 4 ⟨b5, 0, none⟩]) (H := H) (n := n) (v := undef)
    (op := fun H n k => bindO (storeP P 121 (.pointer (some ⟨b2, 0, none⟩)) (.agg ⟨ints M⟩) H) fun H => k undef H n)
    (R := fun H' n' => n' = n ∧ H'.get b2 = some (.cells (ints M) 121 false none) ∧ ∀ b, b ≠ b2 → b ≠ b5 → H'.get b = H.get b)
    (fun q hq => by
      simp only [List.mem_cons, List.not_mem_nil, or_false] at hq
      subst hq
      exact ⟨_, _, rfl, .inl ⟨_, _, _, _, h5⟩⟩)
    (fun Hm hm => by
      have g2 : Hm.get b2 = some (.cells w 121 false none) := by rw [hm b2 (fun h => e2 ((ld_one b2).1 h))]; exact w1
      have hst := storeN_all (vs := ints M) g2 (by rw [lM, w2]) (ints_leaf _)
      refine ⟨Hm.set b2 (some (.cells (ints M) 121 false none)), n, fun k => by rw [storeP_agg sz121 lM, hst, bindO_some], fun b hb => ?_, rfl, by rw [Tr.get_set, if_pos rfl], fun b hb hb' => ?_⟩
      · have := (ld_one b).1 hb
        rw [Tr.get_set, if_neg (by intro h; exact e2 (h.symm.trans this))]
      · rw [Tr.get_set, if_neg hb, hm b (fun h => hb' ((ld_one b).1 h))])
  have g5 : H1.get b5 = H.get b5 := q4 b5 ((ld_one b5).2 rfl)
  have g2 : H1.get b2 = some (.cells (ints M) 121 false none) := by rw [q5 b2 (fun h => e2 ((ld_one b2).1 h))]; exact q2
  have go : ∀ b, b ≠ b2 → H1.get b = H.get b := fun b hb => by
    by_cases c : b = b5
    · rw [c, g5]
    · rw [q5 b (fun h => c ((ld_one b).1 h)), q3 b hb c]
  obtain ⟨H3, t1, t2⟩ := takeD_ok D H1 hD fun d h => by rw [go d (fun c => hb2D (c ▸ h))]; exact hd d h
  refine ⟨H3, ?_, fun b hb hb2 => by rw [t2 b hb, go b hb2]⟩
  have key : (bindO (addrV (.pointer (some ⟨b4, 0, none⟩))) fun a => bindO (loadV P H 121 a) fun v30 => bindO (addrV (.pointer (some ⟨b5, 0, none⟩))) fun a5 => bindO (loadV P H 4 a5) fun v31 => effK P [.l 4 a5] H n2 (fun H n k => bindO (storeP P 121 (.pointer (some ⟨b2, 0, none⟩)) v30 H) fun H => k undef H n) fun _ H n =>
      getK (takeD H D) fun H => bindO (resV P (((Tr.nil : Tm).set 3 (some v31)).set 2 (some (.pointer (some ⟨b2, 0, none⟩)))) H results81) fun vs => some (oneV vs, H, n)) = some (.tuple ⟨[.agg ⟨ints M⟩, .bool r]⟩, H3, n2) := by
    rw [addrV_eq, bindO_some, l4, bindO_some, addrV_eq, bindO_some, l5, bindO_some, q1, t1]
    show (bindO (resV P (((Tr.nil : Tm).set 3 (some (.bool r))).set 2 (some (.pointer (some ⟨b2, 0, none⟩)))) H3 results81) fun vs => some (oneV vs, H3, n2)) = _
    rw [res81 b2 _ M H3 hM ((t2 b2 hb2D).trans g2)]
    rfl
  rcases hT with ⟨o, rfl⟩ | ⟨o, rfl⟩
  · rw [post81_B]; exact key
  · rw [post81_C]; exact key
def IsL81 (T : Tm) (b1 b2 b4 b5 : Nat) (v16 : Value) (i : Nat) : Prop := (i = 0 ∧ ∃ o, T = TA o (.pointer (some ⟨b1, 0, none⟩)) (.pointer (some ⟨b2, 0, none⟩)) (.pointer (some ⟨b4, 0, none⟩)) (.pointer (some ⟨b5, 0, none⟩)) v16 (.int .i64 i)) ∨ ∃ o, T = TC o (.pointer (some ⟨b1, 0, none⟩)) (.pointer (some ⟨b2, 0, none⟩)) (.pointer (some ⟨b4, 0, none⟩)) (.pointer (some ⟨b5, 0, none⟩)) v16 (.int .i64 i)
theorem head81 (c : Cal) (k m : Nat) {T : Tm} {b1 b2 b4 b5 g N i : Nat} (hT : IsL81 T b1 b2 b4 b5 (.int .i64 N) i) (hi : i < N) : ∃ TT : Value → Tm, (∀ v, IsT81 (TT v) b1 b2 b4 b5 (.int .i64 N) (.int .i64 i)) ∧ ∀ (H : Hp) (n : Nat) (D : List Nat), loadV P H 105 ⟨b1, 0, none⟩ = some (.pointer (some ⟨g, 0, none⟩)) →
    LP c k (m + 1) T H n D = callFK P c 110 [.pointer (some ⟨g, 0, none⟩), .int .i64 i] H n fun v22 H n => rangeK P c none 81 v22 #[23, 24] asg81 bod81 (KN c k m) (upX 2 (KN c k m) (upX 1 (KN c k m) (upX 0 (KE c k) X0))) (doneK P results81) (TT v22) H n D := by
  rcases hT with ⟨_, o, rfl⟩ | ⟨o, rfl⟩
  · refine ⟨fun v22 => TB (upd (upd (upd (upd (upd (upd o 18 (.bool (decide ((i : Int) < (N : Int))))) 19 (.int .i64 i)) 6 (.int .i64 i)) 20 (.pointer (some ⟨g, 0, none⟩))) 21 (.int .i64 i)) 22 v22) (.pointer (some ⟨b1, 0, none⟩)) (.pointer (some ⟨b2, 0, none⟩)) (.pointer (some ⟨b4, 0, none⟩)) (.pointer (some ⟨b5, 0, none⟩)) (.int .i64 N) (.int .i64 i), fun v => .inl ⟨_, rfl⟩, fun H n D hl => ?_⟩
    rw [loop81_A, binK_some bin_lss, ifK_d, if_pos (by omega), addrV_eq, bindO_some, hl, bindO_some]
  · refine ⟨fun v22 => TC (upd (upd (upd (upd (upd (upd o 18 (.bool (decide ((i : Int) < (N : Int))))) 19 (.int .i64 i)) 6 (.int .i64 i)) 20 (.pointer (some ⟨g, 0, none⟩))) 21 (.int .i64 i)) 22 v22) (.pointer (some ⟨b1, 0, none⟩)) (.pointer (some ⟨b2, 0, none⟩)) (.pointer (some ⟨b4, 0, none⟩)) (.pointer (some ⟨b5, 0, none⟩)) (.int .i64 N) (.int .i64 i), fun v => .inr ⟨_, rfl⟩, fun H n D hl => ?_⟩
    rw [loop81_C, binK_some bin_lss, ifK_d, if_pos (by omega), addrV_eq, bindO_some, hl, bindO_some]
theorem last81 (c : Cal) (k m : Nat) {T : Tm} {b1 b2 b4 b5 N : Nat} (hT : IsL81 T b1 b2 b4 b5 (.int .i64 N) N) (hN : N ≠ 0) : ∃ T', IsT81 T' b1 b2 b4 b5 (.int .i64 N) (.int .i64 N) ∧ ∀ (H : Hp) (n : Nat) (D : List Nat), LP c k (m + 1) T H n D = KE c k T' H n D := by
  rcases hT with ⟨h, _⟩ | ⟨o, rfl⟩
  · exact absurd h hN
  · refine ⟨(TC o (.pointer (some ⟨b1, 0, none⟩)) (.pointer (some ⟨b2, 0, none⟩)) (.pointer (some ⟨b4, 0, none⟩)) (.pointer (some ⟨b5, 0, none⟩)) (.int .i64 N) (.int .i64 N)).set 18 (some (.bool (decide ((N : Int) < (N : Int))))), .inr ⟨_, set18_C ..⟩, fun H n D => ?_⟩
    rw [loop81_C, binK_some bin_lss, ifK_d, if_neg (by omega)]
theorem next81 (c : Cal) (k m : Nat) {T : Tm} {b1 b2 b4 b5 i : Nat} {v16 : Value} (hT : IsT81 T b1 b2 b4 b5 v16 (.int .i64 i)) (hi : i ≤ 1000) : ∃ T', IsL81 T' b1 b2 b4 b5 v16 (i + 1) ∧ ∀ (H : Hp) (n : Nat) (D : List Nat), KN c k m T H n D = LP c k m T' H n D := by
  have hI1 : I64 ((i : Int) + 1) := by unfold I64; omega
  have hcast : ((i : Int) + 1) = ((i + 1 : Nat) : Int) := by omega
  rcases hT with ⟨o, rfl⟩ | ⟨o, rfl⟩
  · refine ⟨TC (upd o 29 (.int .i64 ((i + 1 : Nat) : Int))) (.pointer (some ⟨b1, 0, none⟩)) (.pointer (some ⟨b2, 0, none⟩)) (.pointer (some ⟨b4, 0, none⟩)) (.pointer (some ⟨b5, 0, none⟩)) v16 (.int .i64 ((i + 1 : Nat) : Int)), .inr ⟨_, rfl⟩, fun H n D => ?_⟩
    rw [next81_B, binK_some (bin_add hI1), hcast]
  · refine ⟨TC (upd o 29 (.int .i64 ((i + 1 : Nat) : Int))) (.pointer (some ⟨b1, 0, none⟩)) (.pointer (some ⟨b2, 0, none⟩)) (.pointer (some ⟨b4, 0, none⟩)) (.pointer (some ⟨b5, 0, none⟩)) v16 (.int .i64 ((i + 1 : Nat) : Int)), .inr ⟨_, rfl⟩, fun H n D => ?_⟩
    rw [next81_C, binK_some (bin_add hI1), hcast]
end Go.Proofs.Ytekajfobmnedjaa.spec
end
section
namespace Go.Proofs.Ytekajfobmnedjaa.spec
open Go Go.Ev Go.Proofs.Ytekajfobmnedjaa.nestFits Go.Proofs.Ytekajfobmnedjaa.G
set_option maxRecDepth 100000
variable {ρ : Type}
structure Stand (H : Hp) (n m0 b1 b4 b5 g np nj nk : Nat) (f : Nat → Value) (x y z : Value) (ps js ks : List Int) : Prop where
  at1 : H.get b1 = some (.cells [.pointer (some ⟨g, 0, none⟩)] 105 false none)
  at4 : ∃ w, H.get b4 = some (.cells w 121 false none) ∧ w.length = 8
  at5 : ∃ w, H.get b5 = some (.cells [w] 4 false none)
  cells : CellsF H g 859 117 f
  site : SiteF f x y z js nj
  kinds : lenV P 33 z = some (.int .i64 nk)
  nests : ∀ p kd, p < np → kd < nk → NestAt f js ks nj np p kd
  ok : KindsOk ks nk
  pads : SliceR H m0 2 x np ps
  np8 : np ≤ 8
  nk3 : nk ≤ 3
  low : m0 ≤ n ∧ b1 < n ∧ b4 < n ∧ b5 < n ∧ g < n
  apart : b4 ≠ b5
theorem Stand.keep {H H' : Hp} {n n' m0 b1 b4 b5 g np nj nk : Nat} {f : Nat → Value} {x y z : Value} {ps js ks : List Int} (h : Stand H n m0 b1 b4 b5 g np nj nk f x y z ps js ks) (hk : Keep n H H') (hn : n ≤ n') : Stand H' n' m0 b1 b4 b5 g np nj nk f x y z ps js ks := by
  obtain ⟨l1, l2, l3, l4, l5⟩ := h.low
  refine ⟨(hk _ l2).trans h.at1, ?_, ?_, h.cells.keep hk l5, h.site, h.kinds, h.nests, h.ok, h.pads.keep (hk.le l1) (Nat.le_refl _), h.np8, h.nk3, ⟨by omega, by omega, by omega, by omega, by omega⟩, h.apart⟩
  · obtain ⟨w, q1, q2⟩ := h.at4
    exact ⟨w, (hk _ l3).trans q1, q2⟩
  · obtain ⟨w, q1⟩ := h.at5
    exact ⟨w, (hk _ l4).trans q1⟩
noncomputable def withN (ps js ks : List Int) (nj np nk : Nat) (i : Nat) : Option (List Int) := findL (rightD js ks ps nj np) (holdsD js ks ps nj np) (fitD js ks nj np) np nk np noL i
theorem round81 (l : Nat) {H : Hp} {n m0 b1 b2 b4 b5 g np nj nk i : Nat} {f : Nat → Value} {x y z v16 v17 : Value} {ps js ks : List Int} (st : Stand H n m0 b1 b4 b5 g np nj nk f x y z ps js ks) (hi : i ≤ np) {TT : Value → Tm} (hTT : ∀ v, IsT81 (TT v) b1 b2 b4 b5 v16 v17) (K E : KC (Value × Hp × Nat)) (Kr : KC (Value × Hp × Nat)) (D : List Nat) :
    ∃ T H' n', IsT81 T b1 b2 b4 b5 v16 v17 ∧ n + 4 ≤ n' ∧ H'.get (n + 2) = some .deferred ∧ (∀ b, b < n → b ≠ b4 → b ≠ b5 → H'.get b = H.get b) ∧
      (callFK P (cal (l + 5 + np + 2)) 110 [.pointer (some ⟨g, 0, none⟩), .int .i64 i] H n fun v22 H n => rangeK P (cal (l + 5 + np + 2)) none 81 v22 #[23, 24] asg81 bod81 K (upX 2 K (upX 1 K (upX 0 E X0))) Kr (TT v22) H n D) =
        (match withN ps js ks nj np nk i with
        | some _ => E T H' n' ((n + 2) :: D)
        | none => K T H' n' ((n + 2) :: D)) ∧
      match withN ps js ks nj np nk i with
      | some M => H'.get b4 = some (.cells (ints M) 121 false none) ∧ H'.get b5 = some (.cells [.bool true] 4 false none)
      | none => H'.get b4 = H.get b4 ∧ H'.get b5 = H.get b5 := by
  obtain ⟨o1, o2, o3, o4, o5⟩ := st.low
  have hnp := st.np8
  have hap := st.apart
  rw [layouts_call (l + 5 + np + 1)]
  have a1 : ((H.set n (some (.cells [.pointer (some ⟨g, 0, none⟩)] 105 false none))).set (n + 1) (some (.cells [.int .i64 i] 3 false none))).get n = some (.cells [.pointer (some ⟨g, 0, none⟩)] 105 false none) := by rw [Tr.get_set, if_neg (by omega), Tr.get_set, if_pos rfl]
  have a2 : ((H.set n (some (.cells [.pointer (some ⟨g, 0, none⟩)] 105 false none))).set (n + 1) (some (.cells [.int .i64 i] 3 false none))).get (n + 1) = some (.cells [.int .i64 i] 3 false none) := by rw [Tr.get_set, if_pos rfl]
  have a3 : Keep n H ((H.set n (some (.cells [.pointer (some ⟨g, 0, none⟩)] 105 false none))).set (n + 1) (some (.cells [.int .i64 i] 3 false none))) := ((Keep.refl n H).set (Nat.le_refl _) _).set (by omega) _
  generalize (H.set n (some (.cells [.pointer (some ⟨g, 0, none⟩)] 105 false none))).set (n + 1) (some (.cells [.int .i64 i] 3 false none)) = H5 at a1 a2 a3 ⊢
  rw [range81, layouts_range (l + 5 + np + 1) _ _ _ _ _ _ rfl]
  have hT := hTT (.func (.func 117) ⟨[]⟩ ⟨[.pointer (some ⟨n, 0, none⟩), .pointer (some ⟨n + 1, 0, none⟩)]⟩)
  generalize TT (.func (.func 117) ⟨[]⟩ ⟨[.pointer (some ⟨n, 0, none⟩), .pointer (some ⟨n + 1, 0, none⟩)]⟩) = T at hT ⊢
  have r1 : ∀ b, b < n + 2 → ((H5.set (n + 2) (some .deferred)).set (n + 2 + 1) (some (.loop .ready none 81 T (ntm P 81) #[23, 24] asg81 bod81 (n + 2)))).get b = H5.get b := fun b hb => by rw [Tr.get_set, if_neg (by omega), Tr.get_set, if_neg (by omega)]
  have r2 : ((H5.set (n + 2) (some .deferred)).set (n + 2 + 1) (some (.loop .ready none 81 T (ntm P 81) #[23, 24] asg81 bod81 (n + 2)))).get (n + 2) = some .deferred := by rw [Tr.get_set, if_neg (by omega), Tr.get_set, if_pos rfl]
  have r3 : ((H5.set (n + 2) (some .deferred)).set (n + 2 + 1) (some (.loop .ready none 81 T (ntm P 81) #[23, 24] asg81 bod81 (n + 2)))).get (n + 2 + 1) = some (.loop .ready none 81 T (ntm P 81) #[23, 24] asg81 bod81 (n + 2)) := by rw [Tr.get_set, if_pos rfl]
  generalize (H5.set (n + 2) (some .deferred)).set (n + 2 + 1) (some (.loop .ready none 81 T (ntm P 81) #[23, 24] asg81 bod81 (n + 2))) = H6 at r1 r2 r3 ⊢
  have low : ∀ b, b < n → H6.get b = H.get b := fun b hb => by rw [r1 b (by omega), a3 b hb]
  have st6 : Stand H6 n m0 b1 b4 b5 g np nj nk f x y z ps js ks := st.keep low (Nat.le_refl _)
  obtain ⟨H7, n7, s1, s2, s3⟩ := layouts_spec l (H := H6) (n := n + 2 + 2) (lb := n + 2 + 1) (sb := n) (nb := n + 1) (nests := i) (m0 := m0) hT r3 st6.at1 st6.at4 st6.at5 ((r1 n (by omega)).trans a1) ((r1 (n + 1) (by omega)).trans a2) st6.cells st6.site st6.kinds st6.nests st6.ok st6.pads st6.np8 st6.nk3 (by omega) (by omega) (by omega) (by omega) (by omega) (by omega) (by omega) (by omega) (by omega) (by omega) (by omega) (by omega) (by omega) st.apart
  rw [s2, bindO_some]
  dsimp only
  have hw : withN ps js ks nj np nk i = findL (rightD js ks ps nj np) (holdsD js ks ps nj np) (fitD js ks nj np) np nk np noL i := rfl
  rw [← hw] at s3
  cases hc : withN ps js ks nj np nk i with
  | none =>
    rw [hc] at s3
    have s3 : ∀ b, b < n + 2 + 2 → H7.get b = H6.get b := s3
    have hout : rangeOut (n + 2 + 1) { T := T, H := H7, n := n7, D := (n + 2) :: D } = some (.norm, { T := T, H := H7.set (n + 2 + 1) (some (.loop .exhausted none 81 T (ntm P 81) #[23, 24] asg81 bod81 (n + 2))), n := n7, D := (n + 2) :: D }) := by
      unfold rangeOut
      simp only [s3 (n + 2 + 1) (by omega), r3]
    rw [hout]
    have ot : ∀ b, b < n + 2 + 1 → (H7.set (n + 2 + 1) (some (.loop .exhausted none 81 T (ntm P 81) #[23, 24] asg81 bod81 (n + 2)))).get b = H6.get b := fun b hb => by rw [Tr.get_set, if_neg (by omega), s3 b (by omega)]
    exact ⟨T, _, n7, hT, by omega, (ot _ (by omega)).trans r2, fun b hb _ _ => by rw [ot b (by omega), low b hb], rfl, by rw [ot b4 (by omega), low b4 o3], by rw [ot b5 (by omega), low b5 o4]⟩
  | some M =>
    rw [hc] at s3
    obtain ⟨t1, t2, t3, t4⟩ := s3
    have hout : rangeOut (n + 2 + 1) { T := T, H := H7, n := n7, D := (n + 2) :: D } = some (.exit 0, { T := T, H := H7.set (n + 2 + 1) (some (.loop .exhausted (some (.exit 0)) 81 T (ntm P 81) #[23, 24] asg81 bod81 (n + 2))), n := n7, D := (n + 2) :: D }) := by
      unfold rangeOut
      simp only [t4]
    rw [hout]
    have ot : ∀ b, b < n + 2 + 1 → (H7.set (n + 2 + 1) (some (.loop .exhausted (some (.exit 0)) 81 T (ntm P 81) #[23, 24] asg81 bod81 (n + 2)))).get b = H7.get b := fun b hb => by rw [Tr.get_set, if_neg (by omega)]
    exact ⟨T, _, n7, hT, by omega, by rw [ot _ (by omega), t1 _ (by omega) (by omega) (by omega) (by omega)]; exact r2, fun b hb i1 i2 => by rw [ot b (by omega), t1 b (by omega) (by omega) i1 i2, low b hb], rfl, by rw [ot b4 (by omega)]; exact t2, by rw [ot b5 (by omega)]; exact t3⟩
noncomputable def bestL (ps js ks : List Int) (nj np nk : Nat) : Option (List Int) := firstN (withN ps js ks nj np nk) (np + 1) (np + 1)
def bestV (o : Option (List Int)) : Value := match o with
  | some M => .tuple ⟨[.agg ⟨ints M⟩, .bool true]⟩
  | none => .tuple ⟨[.agg ⟨ints noL⟩, .bool false]⟩
theorem withN_len {ps js ks M : List Int} {nj np nk i : Nat} (hnp : np ≤ 8) (hks : KindsOk ks nk) (h : withN ps js ks nj np nk i = some M) : M.length = 8 :=
  ((findL_spec hnp (prune_ok hnp hks) np noL i 0 (by omega) noL_open).1 M h).1.len
theorem loop81_spec (l k : Nat) {H0 : Hp} {base n0 m0 b1 b2 b4 b5 g np nj nk : Nat} {f : Nat → Value} {x y z : Value} {ps js ks : List Int} (st : Stand H0 base m0 b1 b4 b5 g np nj nk f x y z ps js ks) (h2 : ∃ w, H0.get b2 = some (.cells w 121 false none) ∧ w.length = 8) (h4 : H0.get b4 = some (.cells (ints noL) 121 false none)) (h5 : H0.get b5 = some (.cells [.bool false] 4 false none))
    (hb2 : b2 < base) (e24 : b2 ≠ b4) (e25 : b2 ≠ b5) (n2 : n0 ≤ b2) (n4 : n0 ≤ b4) (n5 : n0 ≤ b5) :
    ∀ (j i : Nat) (T : Tm) (H : Hp) (n : Nat) (D : List Nat), IsL81 T b1 b2 b4 b5 (.int .i64 ((np + 1 : Nat) : Int)) i → i ≤ np + 1 → np + 1 - i ≤ j → base ≤ n → (∀ b, b < base → H.get b = H0.get b) → D.Nodup → (∀ d, d ∈ D → H.get d = some .deferred ∧ base ≤ d ∧ d < n) →
    ∃ H' n', LP (cal (l + 5 + np + 2)) k (j + 1) T H n D = some (bestV (firstN (withN ps js ks nj np nk) (np + 1) (np + 1 - i)), H', n') ∧ n ≤ n' ∧ ∀ b, b < n0 → H'.get b = H0.get b := by
  obtain ⟨o1, o2, o3, o4, o5⟩ := st.low
  have hnp := st.np8
  intro j
  induction j with
  | zero =>
    intro i T H n D hT hi hij hb hk hD hd
    have : i = np + 1 := by omega
    subst this
    obtain ⟨T', q1, q2⟩ := last81 (cal (l + 5 + np + 2)) k 0 hT (by omega)
    obtain ⟨H', e1, e2⟩ := end81 (cal (l + 5 + np + 2)) k q1 (H := H) (n := n) (D := D) (M := noL) (r := false) rfl (by obtain ⟨w, w1, w2⟩ := h2; exact ⟨w, (hk b2 hb2).trans w1, w2⟩) ((hk b4 o3).trans h4) ((hk b5 o4).trans h5) e25 hD fun d h => (hd d h).1
    refine ⟨H', n, ?_, Nat.le_refl _, fun b hbn => ?_⟩
    · rw [q2, e1, Nat.sub_self]
      rfl
    · rw [e2 b (fun h => by have := (hd b h).2; omega) (by omega), hk b (by omega)]
  | succ j ih =>
    intro i T H n D hT hi hij hb hk hD hd
    by_cases hlt : i < np + 1
    · have stH : Stand H n m0 b1 b4 b5 g np nj nk f x y z ps js ks := st.keep hk hb
      have l1 : loadV P H 105 ⟨b1, 0, none⟩ = some (.pointer (some ⟨g, 0, none⟩)) := load_func stH.at1 agg105 rfl rfl
      obtain ⟨TT, q1, q2⟩ := head81 (g := g) (cal (l + 5 + np + 2)) k (j + 1) hT hlt
      obtain ⟨T', H1, n1, r1, r2, r3, r4, r5, r6⟩ := round81 l stH (show i ≤ np by omega) q1 (KN (cal (l + 5 + np + 2)) k (j + 1)) (KE (cal (l + 5 + np + 2)) k) (doneK P results81) D
      have hD1 : ((n + 2) :: D).Nodup := List.nodup_cons.2 ⟨fun h => by have := (hd _ h).2; omega, hD⟩
      have hd1 : ∀ d, d ∈ (n + 2) :: D → H1.get d = some .deferred ∧ base ≤ d ∧ d < n1 := by
        intro d h
        rcases List.mem_cons.1 h with rfl | h
        · exact ⟨r3, by omega, by omega⟩
        · obtain ⟨d1, d2, d3⟩ := hd d h
          exact ⟨by rw [r4 d d3 (by omega) (by omega)]; exact d1, d2, by omega⟩
      rw [q2 H n D l1, r5, firstN_step hlt]
      cases hc : withN ps js ks nj np nk i with
      | none =>
        rw [hc] at r6
        obtain ⟨r6, r7⟩ := r6
        dsimp only
        obtain ⟨T'', t1, t2⟩ := next81 (cal (l + 5 + np + 2)) k (j + 1) r1 (by omega)
        rw [t2]
        obtain ⟨H', n', u1, u2, u3⟩ := ih (i + 1) T'' H1 n1 ((n + 2) :: D) t1 (by omega) (by omega) (by omega) (fun b hbb => by
          by_cases c4 : b = b4
          · rw [c4, r6, hk b4 o3]
          · by_cases c5 : b = b5
            · rw [c5, r7, hk b5 o4]
            · rw [r4 b (by omega) c4 c5, hk b hbb]) hD1 hd1
        exact ⟨H', n', u1, by omega, u3⟩
      | some M =>
        rw [hc] at r6
        obtain ⟨r6, r7⟩ := r6
        dsimp only
        have hM := withN_len hnp st.ok hc
        obtain ⟨H', e1, e2⟩ := end81 (cal (l + 5 + np + 2)) k r1 (H := H1) (n := n1) (D := (n + 2) :: D) (M := M) (r := true) hM (by obtain ⟨w, w1, w2⟩ := h2; exact ⟨w, by rw [r4 b2 (by omega) e24 e25, hk b2 hb2]; exact w1, w2⟩) r6 r7 e25 hD1 fun d h => (hd1 d h).1
        refine ⟨H', n1, e1, by omega, fun b hbn => ?_⟩
        rw [e2 b (fun h => by have := (hd1 b h).2; omega) (by omega), r4 b (by omega) (by omega) (by omega), hk b (by omega)]
    · have : i = np + 1 := by omega
      subst this
      obtain ⟨T', q1, q2⟩ := last81 (cal (l + 5 + np + 2)) k (j + 1) hT (by omega)
      obtain ⟨H', e1, e2⟩ := end81 (cal (l + 5 + np + 2)) k q1 (H := H) (n := n) (D := D) (M := noL) (r := false) rfl (by obtain ⟨w, w1, w2⟩ := h2; exact ⟨w, (hk b2 hb2).trans w1, w2⟩) ((hk b4 o3).trans h4) ((hk b5 o4).trans h5) e25 hD fun d h => (hd d h).1
      refine ⟨H', n, ?_, Nat.le_refl _, fun b hbn => ?_⟩
      · rw [q2, e1, Nat.sub_self]
        rfl
      · rw [e2 b (fun h => by have := (hd b h).2; omega) (by omega), hk b (by omega)]
end Go.Proofs.Ytekajfobmnedjaa.spec
end
section
namespace Go.Proofs.Ytekajfobmnedjaa.spec
open Go Go.Ev Go.Proofs.Ytekajfobmnedjaa.nestFits Go.Proofs.Ytekajfobmnedjaa.G
set_option maxRecDepth 100000
variable {ρ : Type}
theorem best_spec (l : Nat) {H : Hp} {n g np nj nk : Nat} {f : Nat → Value} {x y z : Value} {ps js ks : List Int} (hf : CellsF H g 859 117 f) (hs : SiteF f x y z js nj) (hz : lenV P 33 z = some (.int .i64 nk)) (hn : ∀ p kd, p < np → kd < nk → NestAt f js ks nj np p kd) (hks : KindsOk ks nk) (hx : SliceR H n 2 x np ps) (hnp : np ≤ 8) (hnk : nk ≤ 3) (hg : g < n) :
    Ret ((cal (l + 5 + np + 3)).call 81 [.pointer (some ⟨g, 0, none⟩)] H n) n H (bestV (bestL ps js ks nj np nk)) := by
  have lN : (ints noL).length = 8 := rfl
  rw [call81 (l + 5 + np + 2), pre81, boxK_eq, allocK_eq zero121, bare_call (l + 5 + np + 1), allocK_eq zero121, allocK_eq zero4']
  simp only [ptr]
  have c1 : cellsV (.pointer (some ⟨g, 0, none⟩)) = [.pointer (some ⟨g, 0, none⟩)] := rfl
  have c2 : cellsV (.agg ⟨ints (List.replicate 8 0)⟩) = ints (List.replicate 8 0) := rfl
  have c3 : cellsV (.bool false) = [.bool false] := rfl
  rw [c1, c2, c3]
  have a1 : ((((H.set n (some (.cells [.pointer (some ⟨g, 0, none⟩)] 105 false none))).set (n + 1) (some (.cells (ints (List.replicate 8 0)) 121 false none))).set (n + 1 + 1) (some (.cells (ints (List.replicate 8 0)) 121 false none))).set (n + 1 + 1 + 1) (some (.cells [.bool false] 4 false none))).get n = some (.cells [.pointer (some ⟨g, 0, none⟩)] 105 false none) := by rw [Tr.get_set, if_neg (by omega), Tr.get_set, if_neg (by omega), Tr.get_set, if_neg (by omega), Tr.get_set, if_pos rfl]
  have a2 : ((((H.set n (some (.cells [.pointer (some ⟨g, 0, none⟩)] 105 false none))).set (n + 1) (some (.cells (ints (List.replicate 8 0)) 121 false none))).set (n + 1 + 1) (some (.cells (ints (List.replicate 8 0)) 121 false none))).set (n + 1 + 1 + 1) (some (.cells [.bool false] 4 false none))).get (n + 1) = some (.cells (ints (List.replicate 8 0)) 121 false none) := by rw [Tr.get_set, if_neg (by omega), Tr.get_set, if_neg (by omega), Tr.get_set, if_pos rfl]
  have a3 : ((((H.set n (some (.cells [.pointer (some ⟨g, 0, none⟩)] 105 false none))).set (n + 1) (some (.cells (ints (List.replicate 8 0)) 121 false none))).set (n + 1 + 1) (some (.cells (ints (List.replicate 8 0)) 121 false none))).set (n + 1 + 1 + 1) (some (.cells [.bool false] 4 false none))).get (n + 1 + 1) = some (.cells (ints (List.replicate 8 0)) 121 false none) := by rw [Tr.get_set, if_neg (by omega), Tr.get_set, if_pos rfl]
  have a4 : ((((H.set n (some (.cells [.pointer (some ⟨g, 0, none⟩)] 105 false none))).set (n + 1) (some (.cells (ints (List.replicate 8 0)) 121 false none))).set (n + 1 + 1) (some (.cells (ints (List.replicate 8 0)) 121 false none))).set (n + 1 + 1 + 1) (some (.cells [.bool false] 4 false none))).get (n + 1 + 1 + 1) = some (.cells [.bool false] 4 false none) := by rw [Tr.get_set, if_pos rfl]
  have a5 : Keep n H ((((H.set n (some (.cells [.pointer (some ⟨g, 0, none⟩)] 105 false none))).set (n + 1) (some (.cells (ints (List.replicate 8 0)) 121 false none))).set (n + 1 + 1) (some (.cells (ints (List.replicate 8 0)) 121 false none))).set (n + 1 + 1 + 1) (some (.cells [.bool false] 4 false none))) := ((((Keep.refl n H).set (Nat.le_refl _) _).set (by omega) _).set (by omega) _).set (by omega) _
  generalize (((H.set n (some (.cells [.pointer (some ⟨g, 0, none⟩)] 105 false none))).set (n + 1) (some (.cells (ints (List.replicate 8 0)) 121 false none))).set (n + 1 + 1) (some (.cells (ints (List.replicate 8 0)) 121 false none))).set (n + 1 + 1 + 1) (some (.cells [.bool false] 4 false none)) = H1 at a1 a2 a3 a4 a5 ⊢
  have eN : (List.replicate 8 (-1) : List Int) = noL := rfl
  rw [eN]
  have s1 := storeN_all (vs := ints noL) a3 rfl (ints_leaf _)
  rw [storeP_agg sz121 lN, s1, bindO_some]
  have b1 : (H1.set (n + 1 + 1) (some (.cells (ints noL) 121 false none))).get (n + 1 + 1 + 1) = some (.cells [.bool false] 4 false none) := by rw [Tr.get_set, if_neg (by omega)]; exact a4
  have s2 := storeN_all (vs := [.bool false]) b1 rfl rfl
  rw [storeP_leaf sz4' rfl, s2, bindO_some]
  have o1 : ∀ b, b < n + 2 → ((H1.set (n + 1 + 1) (some (.cells (ints noL) 121 false none))).set (n + 1 + 1 + 1) (some (.cells [.bool false] 4 false none))).get b = H1.get b := fun b hb => by rw [Tr.get_set, if_neg (by omega), Tr.get_set, if_neg (by omega)]
  have o2 : ((H1.set (n + 1 + 1) (some (.cells (ints noL) 121 false none))).set (n + 1 + 1 + 1) (some (.cells [.bool false] 4 false none))).get (n + 1 + 1) = some (.cells (ints noL) 121 false none) := by rw [Tr.get_set, if_neg (by omega), Tr.get_set, if_pos rfl]
  have o3 : ((H1.set (n + 1 + 1) (some (.cells (ints noL) 121 false none))).set (n + 1 + 1 + 1) (some (.cells [.bool false] 4 false none))).get (n + 1 + 1 + 1) = some (.cells [.bool false] 4 false none) := by rw [Tr.get_set, if_pos rfl]
  generalize (H1.set (n + 1 + 1) (some (.cells (ints noL) 121 false none))).set (n + 1 + 1 + 1) (some (.cells [.bool false] 4 false none)) = H2 at o1 o2 o3 ⊢
  have kk : Keep n H H2 := fun b hb => by rw [o1 b (by omega), a5 b hb]
  have g1 : H2.get n = some (.cells [.pointer (some ⟨g, 0, none⟩)] 105 false none) := (o1 n (by omega)).trans a1
  have f2 := hf.keep kk hg
  have lx : loadV P H2 31 ⟨g, 0 + 0 + 0, none⟩ = some x := by
    have := f2.load (P := P) (k := 0) agg31 (by omega)
    rw [hs.x] at this; exact this
  have hI : I64 ((np : Int) + 1) := by unfold I64; omega
  have hlx : lenV P 31 x = some (.int .i64 np) := hx.len_eq und31
  have hcast : ((np : Int) + 1) = ((np + 1 : Nat) : Int) := by omega
  rw [addrV_eq, bindO_some, load_func g1 agg105 rfl rfl, bindO_some, nil_ptr, bindO_some, fa117_0, bindO_some, fa35_0, bindO_some, addrV_eq, bindO_some, lx, bindO_some, hlx, bindO_some, binK_some (bin_add hI), hcast]
  have st : Stand H2 (n + 4) n n (n + 1 + 1) (n + 1 + 1 + 1) g np nj nk f x y z ps js ks := ⟨g1, ⟨_, o2, rfl⟩, ⟨_, o3⟩, f2, hs, hz, hn, hks, hx.keep kk (Nat.le_refl _), hnp, hnk, ⟨by omega, by omega, by omega, by omega, by omega⟩, by omega⟩
  obtain ⟨H', n', e1, e2, e3⟩ := loop81_spec l KK (n0 := n) (b2 := n + 1) st ⟨_, (o1 (n + 1) (by omega)).trans a2, rfl⟩ o2 o3 (by omega) (by omega) (by omega) (by omega) (by omega) (by omega) KK 0 _ H2 (n + 4) [] (.inl ⟨rfl, _, rfl⟩) (by omega) (by unfold KK; omega) (Nat.le_refl _) (fun _ _ => rfl) List.nodup_nil (fun d h => by cases h)
  exact ⟨H', n', e1, by omega, fun b hb => by rw [e3 b hb, kk b hb]⟩
theorem best_call (l : Nat) {H : Hp} {n g np nj nk : Nat} {f : Nat → Value} {x y z : Value} {ps js ks : List Int} (hf : CellsF H g 859 117 f) (hs : SiteF f x y z js nj) (hz : lenV P 33 z = some (.int .i64 nk)) (hn : ∀ p kd, p < np → kd < nk → NestAt f js ks nj np p kd) (hks : KindsOk ks nk) (hx : SliceR H n 2 x np ps) (hnp : np ≤ 8) (hnk : nk ≤ 3) (hg : g < n) :
    ∃ H' n', (∀ k : Value → Hp → Nat → Option ρ, callFK P (cal (l + 16)) 81 [.pointer (some ⟨g, 0, none⟩)] H n k = k (bestV (bestL ps js ks nj np nk)) H' n') ∧ n ≤ n' ∧ Keep n H H' := by
  obtain ⟨H', n', e1, e2, e3⟩ := best_spec (l + (8 - np)) hf hs hz hn hks hx hnp hnk hg
  rw [show l + (8 - np) + 5 + np + 3 = l + 16 by omega] at e1
  refine ⟨H', n', fun k => ?_, e2, e3⟩
  unfold callFK
  have : (flatF P 81 && pureL [.pointer (some ⟨g, 0, none⟩)]) = false := by simp [pureL, pureV]
  rw [this, e1]
  rfl
end Go.Proofs.Ytekajfobmnedjaa.spec
end
section
namespace Go.Proofs.Ytekajfobmnedjaa.spec
open Go Go.Ev Go.Proofs.Ytekajfobmnedjaa.nestFits Go.Proofs.Ytekajfobmnedjaa.G
set_option maxRecDepth 100000
variable {ρ : Type}
noncomputable def code82 : Code := codeOf 82
noncomputable def results82 : List ResultVar := resOf 82
noncomputable def asg82 : Code := asgOf (cL (cR (cL (cR (cR code82)))))
noncomputable def bod82 : Code := bodOf (cL (cR (cL (cR (cR code82)))))
noncomputable def K82 (c : Cal) (k : Nat) : KC (Value × Hp × Nat) := codeE P c (codeF P c k) none 82 (cR (cR (cR code82))) .leaf (doneK P results82) X0 (doneK P results82)
noncomputable def T82 (v0 v1 v3 v5 v7 v8 : Value) : Tm := ((((((((Tr.nil : Tm).set 0 (some v0)).set 1 (some v1)).set 3 (some v3)).set 4 (some (.int .i64 0))).set 5 (some v5)).set 6 (some v0)).set 7 (some v7)).set 8 (some v8)
theorem pre82 (c : Cal) (k : Nat) (v0 v1 : Value) (H : Hp) (n : Nat) : bodyE P c A (k + 1) 82 [v0, v1] H n =
    (boxK 121 v1 H n fun v3 H n => allocK P 3 H n fun v5 H n => bindO (storeP P 3 v5 (.int .i64 0) H) fun H => bindO (addrV v3) fun a => bindO (loadV P H 121 a) fun v7 => callFK P c 74 [v0, v7] H n fun v8 H n =>
      rangeK P c none 82 v8 #[9, 10] asg82 bod82 (K82 c k) (upX 0 (K82 c k) X0) (doneK P results82) (T82 v0 v1 v3 v5 v7 v8) H n []) := by
  rw [body_eq (fn := Go.Proofs.Try.f82) (c := code82) (rs := results82) (by kernel_rfl) (by kernel_rfl) (by kernel_rfl) (by kernel_rfl)]
  kernel_rfl
theorem post82 (c : Cal) (k : Nat) (v0 v1 v3 v5 v7 v8 : Value) (H : Hp) (n : Nat) (D : List Nat) : K82 c k (T82 v0 v1 v3 v5 v7 v8) H n D =
    (bindO (addrV v5) fun a => bindO (loadV P H 3 a) fun v13 => getK (takeD H D) fun H => bindO (resV P ((Tr.nil : Tm).set 4 (some v13)) H results82) fun vs => some (oneV vs, H, n)) := by
  kernel_rfl
theorem call82 (l : Nat) (a b : Value) (H : Hp) (n : Nat) : (cal (l + 1)).call 82 [a, b] H n = bodyE P (cal l) A (KK + 1) 82 [a, b] H n := by kernel_rfl
theorem asg82_eq (l lp : Nat) (v0 v1 v3 v5 v7 v8 p q : Value) (H : Hp) (n : Nat) :
    (cal (l + 1)).body lp 82 asg82 { T := ((T82 v0 v1 v3 v5 v7 v8).set 9 (some p)).set 10 (some q), H, n, D := [] } = some (.norm, { T := ((T82 v0 v1 v3 v5 v7 v8).set 9 (some p)).set 10 (some q), H, n, D := [] }) := by kernel_rfl
theorem bod82_eq (l lp : Nat) (v0 v1 v3 v5 v7 v8 p q : Value) (H : Hp) (n : Nat) :
    (cal (l + 1)).body lp 82 bod82 { T := ((T82 v0 v1 v3 v5 v7 v8).set 9 (some p)).set 10 (some q), H, n, D := [] } =
      (bindO (addrV v5) fun a => bindO (loadV P H 3 a) fun v11 => binK P .add 3 (.tmp 11) (.const (.int .i64 1)) v11 (.int .i64 1) fun v12 => bindO (storeP P 3 v5 v12 H) fun H =>
        some (.norm, { T := ((((T82 v0 v1 v3 v5 v7 v8).set 9 (some p)).set 10 (some q)).set 11 (some v11)).set 12 (some v12), H, n, D := [] })) := by kernel_rfl
theorem res82 (v : Value) (H : Hp) : resV P ((Tr.nil : Tm).set 4 (some v)) H results82 = some [v] := by kernel_rfl
theorem ntm82 : ntm P 82 = 14 := by kernel_rfl
theorem range82 (c : Cal) (a b : Value) (K : KC (Value × Hp × Nat)) (X : XC (Value × Hp × Nat)) (Kr : KC (Value × Hp × Nat)) (T : Tm) (H : Hp) (n : Nat) :
    rangeK P c none 82 (.func (.func 104) ⟨[]⟩ ⟨[a, b]⟩) #[9, 10] asg82 bod82 K X Kr T H n [] =
      callFK P c 104 [.func (.yield (n + 1)) #[] #[], a, b] ((H.set n (some .deferred)).set (n + 1) (some (.loop .ready none 82 T (ntm P 82) #[9, 10] asg82 bod82 n))) (n + 2) fun _ H n' => fin K X Kr (rangeOut (n + 1) { T := T, H, n := n', D := [n] }) := rfl
theorem yield82 (L : Nat) {H : Hp} {n lb b5 d : Nat} {v0 v1 v3 v7 v8 q0 q1 : Value} {c : Int} (hl : H.get lb = some (.loop .ready none 82 (T82 v0 v1 v3 (.pointer (some ⟨b5, 0, none⟩)) v7 v8) (ntm P 82) #[9, 10] asg82 bod82 d))
    (h5 : H.get b5 = some (.cells [.int .i64 c] 3 false none)) (hc : I64 (c + 1)) (n5 : b5 ≠ lb) :
    ∃ H', (∀ k : Value → Hp → Nat → Option ρ, callVK P (cal (L + 1)) (.func (.yield lb) #[] #[]) [q0, q1] H n k = k (.bool true) H' n) ∧ H'.get lb = H.get lb ∧
      H'.get b5 = some (.cells [.int .i64 (c + 1)] 3 false none) ∧ ∀ b, b ≠ lb → b ≠ b5 → H'.get b = H.get b := by
  have hpar : paramsT (T82 v0 v1 v3 (.pointer (some ⟨b5, 0, none⟩)) v7 v8) (ntm P 82) (#[9, 10] : Array Tmp).toList [q0, q1] = some (((T82 v0 v1 v3 (.pointer (some ⟨b5, 0, none⟩)) v7 v8).set 9 (some q0)).set 10 (some q1)) := by
    rw [ntm82]; rfl
  have hasg := asg82_eq L lb v0 v1 v3 (.pointer (some ⟨b5, 0, none⟩)) v7 v8 q0 q1 H n
  have hrdy : isReady H lb = true := by unfold isReady; rw [hl]
  have hpen : pendingOf H lb = none := by unfold pendingOf; rw [hl]
  have hbd := fun H => bod82_eq L lb v0 v1 v3 (.pointer (some ⟨b5, 0, none⟩)) v7 v8 q0 q1 H n
  generalize T82 v0 v1 v3 (.pointer (some ⟨b5, 0, none⟩)) v7 v8 = T at hl hpar hasg hbd
  have hbusy : setLoop H lb .busy none = some (H.set lb (some (.loop .busy none 82 T (ntm P 82) #[9, 10] asg82 bod82 d))) := by unfold setLoop; rw [hl]
  have g5 : (H.set lb (some (.loop .busy none 82 T (ntm P 82) #[9, 10] asg82 bod82 d))).get b5 = some (.cells [.int .i64 c] 3 false none) := by rw [Tr.get_set, if_neg n5]; exact h5
  have gl : (H.set lb (some (.loop .busy none 82 T (ntm P 82) #[9, 10] asg82 bod82 d))).get lb = some (.loop .busy none 82 T (ntm P 82) #[9, 10] asg82 bod82 d) := by rw [Tr.get_set, if_pos rfl]
  have ho : ∀ b, b ≠ lb → (H.set lb (some (.loop .busy none 82 T (ntm P 82) #[9, 10] asg82 bod82 d))).get b = H.get b := fun b hb => by rw [Tr.get_set, if_neg hb]
  generalize H.set lb (some (.loop .busy none 82 T (ntm P 82) #[9, 10] asg82 bod82 d)) = H2 at hbusy g5 gl ho
  have hst := storeN_all (vs := [.int .i64 (c + 1)]) g5 rfl rfl
  have l5 : loadV P H2 3 ⟨b5, 0, none⟩ = some (.int .i64 c) := loadV_int (o := 0) (k := 0) (cells_at g5) agg3 rfl
  have hbody := hbd H2
  rw [addrV_eq, bindO_some, l5, bindO_some, binK_some (bin_add hc), storeP_leaf sz3 rfl, hst, bindO_some] at hbody
  have q5 : (H2.set b5 (some (.cells [.int .i64 (c + 1)] 3 false none))).get b5 = some (.cells [.int .i64 (c + 1)] 3 false none) := by rw [Tr.get_set, if_pos rfl]
  have ql : (H2.set b5 (some (.cells [.int .i64 (c + 1)] 3 false none))).get lb = some (.loop .busy none 82 T (ntm P 82) #[9, 10] asg82 bod82 d) := by rw [Tr.get_set, if_neg (Ne.symm n5)]; exact gl
  have qo : ∀ b, b ≠ lb → b ≠ b5 → (H2.set b5 (some (.cells [.int .i64 (c + 1)] 3 false none))).get b = H.get b := fun b hb hb5 => by rw [Tr.get_set, if_neg hb5]; exact ho b hb
  generalize H2.set b5 (some (.cells [.int .i64 (c + 1)] 3 false none)) = H3 at q5 ql qo hbody
  have hend : setLoop H3 lb .ready none = some (H3.set lb (some (.loop .ready none 82 T (ntm P 82) #[9, 10] asg82 bod82 d))) := by unfold setLoop; rw [ql]
  refine ⟨H3.set lb (some (.loop .ready none 82 T (ntm P 82) #[9, 10] asg82 bod82 d)), fun k => ?_, by rw [Tr.get_set, if_pos rfl, hl], by rw [Tr.get_set, if_neg n5]; exact q5, fun b hb hb5 => by rw [Tr.get_set, if_neg hb, qo b hb hb5]⟩
  show stK (yieldF (fun | some l => (cal (L + 1)).body l | none => fun _ _ _ => none) P lb [q0, q1] (bare H n)) k = _
  have hy : yieldF (fun | some l => (cal (L + 1)).body l | none => fun _ _ _ => none) P lb [q0, q1] (bare H n) = some (.bool true, { bare H n with H := H3.set lb (some (.loop .ready none 82 T (ntm P 82) #[9, 10] asg82 bod82 d)), n := n }) := by
    unfold yieldF
    have hb : Nat.beq (ntm P 82) (ntm P 82) = true := Nat.beq_refl _
    have hx : exCode .norm = some none := rfl
    simp only [bare, hl, hb, hpar, hasg, hrdy, hpen, hbusy, hbody, hx, Option.isNone_none, if_true, hend]
  rw [hy]
  rfl
noncomputable def cntI (L : List Int) (i : Nat) : Int := sumTo (fun p => if L.getD p 0 = -1 then 0 else 1) i
theorem cntI_range (L : List Int) : ∀ i, 0 ≤ cntI L i ∧ cntI L i ≤ i
  | 0 => ⟨Int.le_refl _, Int.le_refl _⟩
  | i + 1 => by
    obtain ⟨h1, h2⟩ := cntI_range L i
    unfold cntI at h1 h2 ⊢
    simp only [sumTo]
    split <;> omega
theorem count_call (l : Nat) {H : Hp} {n g np nj nk : Nat} {f : Nat → Value} {js ks L : List Int} (hf : CellsF H g 859 117 f) (hn : ∀ p kd, p < np → kd < nk → NestAt f js ks nj np p kd) (hL : L.length = 8) (hK : KindsIn L np nk) (hnp : np ≤ 8) (hnk : nk ≤ 3) (hg : g < n) :
    ∃ H' n', (∀ k : Value → Hp → Nat → Option ρ, callFK P (cal (l + 3)) 82 [.pointer (some ⟨g, 0, none⟩), .agg ⟨ints L⟩] H n k = k (.int .i64 (cntI L 8)) H' n') ∧ n ≤ n' ∧ Keep n H H' := by
  have lens : (ints L).length = 8 := by rw [ints_length, hL]
  have key : Ret ((cal (l + 3)).call 82 [.pointer (some ⟨g, 0, none⟩), .agg ⟨ints L⟩] H n) n H (.int .i64 (cntI L 8)) := by
    rw [call82 (l + 2), pre82, boxK_eq, allocK_eq zero3]
    have c1 : cellsV (.agg ⟨ints L⟩) = ints L := rfl
    have c2 : cellsV (.int .i64 0) = [.int .i64 0] := rfl
    simp only [ptr]
    rw [c1, c2]
    have a1 : ((H.set n (some (.cells (ints L) 121 false none))).set (n + 1) (some (.cells [.int .i64 0] 3 false none))).get (n + 1) = some (.cells [.int .i64 0] 3 false none) := by rw [Tr.get_set, if_pos rfl]
    have a0 : ((H.set n (some (.cells (ints L) 121 false none))).set (n + 1) (some (.cells [.int .i64 0] 3 false none))).get n = some (.cells (ints L) 121 false none) := by rw [Tr.get_set, if_neg (by omega), Tr.get_set, if_pos rfl]
    have a2 : Keep n H ((H.set n (some (.cells (ints L) 121 false none))).set (n + 1) (some (.cells [.int .i64 0] 3 false none))) := ((Keep.refl n H).set (Nat.le_refl _) _).set (by omega) _
    generalize (H.set n (some (.cells (ints L) 121 false none))).set (n + 1) (some (.cells [.int .i64 0] 3 false none)) = H1 at a0 a1 a2 ⊢
    have s1 := storeN_all (vs := [.int .i64 0]) a1 rfl rfl
    rw [storeP_leaf sz3 rfl, s1, bindO_some]
    have b1 : (H1.set (n + 1) (some (.cells [.int .i64 0] 3 false none))).get (n + 1) = some (.cells [.int .i64 0] 3 false none) := by rw [Tr.get_set, if_pos rfl]
    have b0 : (H1.set (n + 1) (some (.cells [.int .i64 0] 3 false none))).get n = some (.cells (ints L) 121 false none) := by rw [Tr.get_set, if_neg (by omega)]; exact a0
    have b2 : Keep n H (H1.set (n + 1) (some (.cells [.int .i64 0] 3 false none))) := a2.set (by omega) _
    generalize H1.set (n + 1) (some (.cells [.int .i64 0] 3 false none)) = H2 at b0 b1 b2 ⊢
    rw [addrV_eq, bindO_some, load_all b0 agg121 sz121 lens, bindO_some, placed_call (l + 1), range82]
    generalize hH5 : (H2.set (n + 1 + 1) (some (.cells [.pointer (some ⟨g, 0, none⟩)] 105 false none))).set (n + 1 + 1 + 1) (some (.cells (ints L) 121 false none)) = H5
    have q1 : ∀ b, b < n + 2 → H5.get b = H2.get b := fun b hb => by rw [← hH5, Tr.get_set, if_neg (by omega), Tr.get_set, if_neg (by omega)]
    have q3 : H5.get (n + 2) = some (.cells [.pointer (some ⟨g, 0, none⟩)] 105 false none) := by rw [← hH5, Tr.get_set, if_neg (by omega), Tr.get_set, if_pos rfl]
    have q4 : H5.get (n + 3) = some (.cells (ints L) 121 false none) := by rw [← hH5, Tr.get_set, if_pos rfl]
    clear hH5
    have hc104 : ∀ (a b c : Value) (H : Hp) (n : Nat) (k : Value → Hp → Nat → Res), pureV b = false → callFK P (cal (l + 2)) 104 [a, b, c] H n k = bindO (C104_0 (cal (l + 1)) KK a b c H n) fun r => k r.1 r.2.1 r.2.2 := by
      intro a b c H n k hb
      unfold callFK
      have : (flatF P 104 && pureL [a, b, c]) = false := by simp [pureL, hb]
      rw [this, call104]
    rw [hc104 _ _ _ _ _ _ rfl]
    have e4 : n + 1 + 1 + 2 = n + 4 := by omega
    have e5 : n + 1 + 1 + 2 + 1 = n + 5 := by omega
    have e6 : n + 1 + 1 + 2 + 2 = n + 6 := by omega
    have e3 : n + 1 + 1 + 1 = n + 3 := by omega
    have e2 : n + 1 + 1 = n + 2 := by omega
    simp only [e4, e5, e6, e3, e2]
    generalize hT : T82 _ _ _ _ _ _ = T
    generalize hH6 : (H5.set (n + 4) (some .deferred)).set (n + 5) (some (.loop .ready none 82 T (ntm P 82) #[9, 10] asg82 bod82 (n + 4))) = H6
    have r1 : ∀ b, b < n + 4 → H6.get b = H5.get b := fun b hb => by rw [← hH6, Tr.get_set, if_neg (by omega), Tr.get_set, if_neg (by omega)]
    have r2 : H6.get (n + 4) = some .deferred := by rw [← hH6, Tr.get_set, if_neg (by omega), Tr.get_set, if_pos rfl]
    have r3 : H6.get (n + 5) = some (.loop .ready none 82 T (ntm P 82) #[9, 10] asg82 bod82 (n + 4)) := by rw [← hH6, Tr.get_set, if_pos rfl]
    clear hH6
    have low : ∀ b, b < n → H6.get b = H.get b := fun b hb => by rw [r1 b (by omega), q1 b (by omega), b2 b hb]
    have l104 : loadV P H6 121 ⟨n + 3, 0, none⟩ = some (.agg ⟨ints L⟩) := load_all (by rw [r1 _ (by omega)]; exact q4) agg121 sz121 lens
    obtain ⟨H7, n7, i0, i1, i2, i3, i4⟩ := iter104_loop (cal (l + 1)) KK (.func (.yield (n + 5)) #[] #[]) (n + 2) g np nj nk js ks L hL hK hnp hnk
      (fun i Hc nc => n + 6 ≤ nc ∧ Hc.get (n + 5) = some (.loop .ready none 82 T (ntm P 82) #[9, 10] asg82 bod82 (n + 4)) ∧ Hc.get (n + 1) = some (.cells [.int .i64 (cntI L i)] 3 false none) ∧ ∀ b, b < n + 6 → b ≠ n + 5 → b ≠ n + 1 → Hc.get b = H6.get b)
      (fun i Hc nc ⟨_, _, _, h⟩ => by
        refine ⟨load_func (by rw [h _ (by omega) (by omega) (by omega), r1 _ (by omega)]; exact q3) agg105 rfl rfl, fun p kd hp hkd => ?_⟩
        have cg : CellsF Hc g 859 117 f := by
          obtain ⟨c, a1, a2, a3⟩ := hf
          exact ⟨c, by rw [h _ (by omega) (by omega) (by omega), low g hg]; exact a1, a2, a3⟩
        exact nest_load cg (hn p kd hp hkd) (by omega) (by omega))
      (fun i Hc nc kd B ⟨h1, h2, h3, h4⟩ hip hkd hLi _ => by
        have hr := cntI_range L i
        rw [← hT] at h2
        obtain ⟨H', z1, z2, z3, z4⟩ := yield82 (ρ := Value × Hp × Nat) l (n := nc) (q0 := .int .i64 i) (q1 := .agg ⟨ints (nestL (ks.getD (kd * 5) 0) (shP js ks nj np i kd) B)⟩) h2 h3 (by unfold I64; omega) (by omega)
        refine ⟨H', nc, z1, h1, by rw [z2, h2, hT], ?_, fun b hb hb1 hb2 => (z4 b hb1 hb2).trans (h4 b hb hb1 hb2)⟩
        rw [z3]
        unfold cntI
        simp only [sumTo]
        rw [if_neg (by omega)])
      (fun i Hc nc ⟨h1, h2, h3, h4⟩ hLi => ⟨h1, h2, by
        rw [h3]
        unfold cntI
        simp only [sumTo]
        rw [if_pos hLi, Int.add_zero], h4⟩)
      KK 0 H6 (n + 6) ⟨Nat.le_refl _, r3, by rw [r1 _ (by omega), q1 _ (by omega)]; exact b1, fun _ _ _ _ => rfl⟩ (by omega) (by unfold KK; omega)
    have e3' : C104_0 (cal (l + 1)) KK (.func (.yield (n + 5)) #[] #[]) (.pointer (some ⟨n + 3, 0, none⟩)) (.pointer (some ⟨n + 2, 0, none⟩)) H6 (n + 6) = some (.tuple ⟨[]⟩, H7, n7) := by
      unfold C104_0 B104_0
      rw [addrV_eq, bindO_some, l104, bindO_some]
      exact i0
    rw [e3', bindO_some]
    have hout : rangeOut (n + 5) { T := T, H := H7, n := n7, D := [n + 4] } = some (.norm, { T := T, H := H7.set (n + 5) (some (.loop .exhausted none 82 T (ntm P 82) #[9, 10] asg82 bod82 (n + 4))), n := n7, D := [n + 4] }) := by
      unfold rangeOut
      simp only [i2]
    rw [hout]
    show Ret (K82 (cal (l + 2)) KK T (H7.set (n + 5) (some (.loop .exhausted none 82 T (ntm P 82) #[9, 10] asg82 bod82 (n + 4)))) n7 [n + 4]) n H (.int .i64 (cntI L 8))
    generalize hH8 : H7.set (n + 5) (some (.loop .exhausted none 82 T (ntm P 82) #[9, 10] asg82 bod82 (n + 4))) = H8
    have o1 : ∀ b, b < n + 5 → H8.get b = H7.get b := fun b hb => by rw [← hH8, Tr.get_set, if_neg (by omega)]
    clear hH8 hout
    have l5 : loadV P H8 3 ⟨n + 1, 0, none⟩ = some (.int .i64 (cntI L 8)) := loadV_int (o := 0) (k := 0) (cells_at (by rw [o1 _ (by omega)]; exact i3)) agg3 rfl
    have ht : takeD H8 [n + 4] = some (H8.set (n + 4) none) := by
      have : H8.get (n + 4) = some .deferred := by rw [o1 _ (by omega), i4 _ (by omega) (by omega) (by omega)]; exact r2
      unfold takeD
      simp only [this]
      rfl
    rw [← hT, post82, addrV_eq, bindO_some, l5, bindO_some, ht]
    show Ret (bindO (resV P ((Tr.nil : Tm).set 4 (some (.int .i64 (cntI L 8)))) (H8.set (n + 4) none) results82) fun vs => some (oneV vs, H8.set (n + 4) none, n7)) n H _
    rw [res82]
    refine ⟨_, _, rfl, by omega, fun b hb => ?_⟩
    rw [Tr.get_set, if_neg (by omega), o1 _ (by omega), i4 _ (by omega) (by omega) (by omega), low b hb]
  obtain ⟨H', n', e1, e2, e3⟩ := key
  refine ⟨H', n', fun k => ?_, e2, e3⟩
  unfold callFK
  have : (flatF P 82 && pureL [.pointer (some ⟨g, 0, none⟩), .agg ⟨ints L⟩]) = false := by simp [pureL, pureV]
  rw [this, e1]
  rfl
end Go.Proofs.Ytekajfobmnedjaa.spec
end
section
namespace Go.Proofs.Ytekajfobmnedjaa.spec
open Go Go.Ev Go.Proofs.Ytekajfobmnedjaa.nestFits Go.Proofs.Ytekajfobmnedjaa.G
set_option maxRecDepth 100000
variable {ρ : Type}
def Same (H Hm : Hp) : Prop := ∀ b o vs, CellsAt H b o vs → CellsAt Hm b o vs
theorem same_list {H Hm : Hp} {n len : Nat} {v : Value} {xs : List Int} (hr : Same H Hm) (h : ListR H n v len xs) : ListR Hm n v len xs := by
  obtain ⟨h1, h2, h3⟩ := h
  refine ⟨h1, h2, ?_⟩
  rcases h3 with h3 | ⟨b, o, cap, e, a, c⟩
  · exact .inl h3
  · exact .inr ⟨b, o, cap, e, a, hr _ _ _ c⟩
end Go.Proofs.Ytekajfobmnedjaa.spec
end
section
namespace Go.Proofs.Ytekajfobmnedjaa.spec
open Go Go.Ev Go.Proofs.Ytekajfobmnedjaa.nestFits Go.Proofs.Ytekajfobmnedjaa.G
set_option maxRecDepth 100000
variable {ρ : Type}
theorem effK_readR {ex : List Extra} {H : Hp} {n : Nat} {v : Value} {op : Hp → Nat → (Value → Hp → Nat → Option ρ) → Option ρ} {R : Hp → Nat → Prop}
    (hex : ∀ y ∈ ex, ∃ t a, y = .l t a ∧ a.block < n ∧ ((∃ c e ro vec, H.get a.block = some (.cells c e ro vec)) ∨ ∃ c, H.get a.block = some (.rows c)))
    (hop : ∀ Hm, Same H Hm → ∃ H2 n2, (∀ k, op Hm n k = k v H2 n2) ∧ n ≤ n2 ∧ Keep n Hm H2 ∧ R H2 n2) :
    ∃ H' H2 n2, (∀ k, effK P ex H n op k = k v H' n2) ∧ n ≤ n2 ∧ Keep n H H' ∧ R H2 n2 ∧ ∀ b, n ≤ b → H'.get b = H2.get b := by
  cases ex with
  | nil =>
    obtain ⟨H2, n2, h1, h2, h3, h4⟩ := hop H (fun _ _ _ h => h)
    exact ⟨H2, H2, n2, fun k => by unfold effK; exact h1 k, h2, h3, h4, fun _ _ => rfl⟩
  | cons y l =>
    have hl : ∀ z ∈ y :: l, ∃ t a, z = .l t a := fun z hz => by obtain ⟨t, a, e, _⟩ := hex z hz; exact ⟨t, a, e⟩
    obtain ⟨H1, e1, e2⟩ := maskX_some (ex := y :: l) (H := H) fun z hz => by obtain ⟨t, a, e, _, h⟩ := hex z hz; exact .inl ⟨t, a, e, h⟩
    have hnw : ∀ b, ¬ nwOf (y :: l) b := fun b ⟨id, c, e, h1, _⟩ => by obtain ⟨t, a, q⟩ := hl _ h1; cases q
    obtain ⟨H2, n2, h1, h2, h3, h4⟩ := hop (maskXA (y :: l) H1) fun b o vs hc => by
      obtain ⟨B, c, g1, g2, g3⟩ := hc
      have em := (maskXA_get (ex := y :: l) (H := H1) b).2 (hnw _)
      rcases e2 b with q | ⟨⟨c', e, ro, vec, q1, q2⟩, _⟩
      · exact ⟨B, c, by rw [em, q]; exact g1, g2, g3⟩
      · rw [q1] at g1
        cases g1
        exact ⟨.cells c' e true vec, c, by rw [em]; exact q2, g2, g3⟩
    have hsome : ∀ z ∈ y :: l, (∃ t a, z = .l t a ∧ (H2.get a.block).isSome) ∨ ∃ id c e, z = .a id c e := by
      intro z hz
      obtain ⟨t, a, rfl, hb, hc⟩ := hex z hz
      refine .inl ⟨t, a, rfl, ?_⟩
      rw [h3 _ hb, (maskXA_get (H := H1) a.block).2 (hnw _)]
      have hs : (H.get a.block).isSome := by rcases hc with ⟨c, e, ro, vec, hc⟩ | ⟨c, hc⟩ <;> rw [hc] <;> rfl
      rcases e2 a.block with q | ⟨⟨c, e, ro, vec, _, q⟩, _⟩
      · rw [q]; exact hs
      · rw [q]; rfl
    obtain ⟨H3, f1, f2, f3⟩ := backX_some (H0 := H) hsome
    have hck : chkX P (backXA (y :: l) H H3) (y :: l) = true := chk_true fun z hz => .inl (hl z hz)
    refine ⟨backXA (y :: l) H H3, H2, n2, fun k => ?_, h2, fun b hb => ?_, h4, fun b hb => ?_⟩
    · unfold effK
      simp only [e1, bindO_some, h1, f1, hck]
      rfl
    · rw [(backXA_get b).2 (hnw b)]
      by_cases q : ldOf (y :: l) b
      · exact f2 b q
      · rw [f3 b q, h3 b hb, (maskXA_get (H := H1) b).2 (hnw b)]
        rcases e2 b with z | ⟨_, z⟩
        · exact z
        · exact absurd z q
    · rw [(backXA_get b).2 (hnw b), f3 b]
      rintro ⟨t, a, q1, q2⟩
      obtain ⟨t', a', e, hlt, _⟩ := hex _ q1
      cases e
      omega
theorem slice121h (b : Nat) {np : Nat} (h : np ≤ 8) : sliceV P 121 (.pointer (some ⟨b, 0, none⟩)) none (some (.int .i64 np)) = some (.slice (some ⟨b, 0, none⟩) np 8) := by
  show sliceV P 121 (.pointer (some ⟨b, 0, none⟩)) none (some (.int .i64 (.ofNat np))) = _
  unfold sliceV
  simp [und121, sz3, boundsV, hiV, loV, bndIn, h, capV, addA]
theorem flat42 : flatF P 42 = false := by kernel_rfl
theorem call42 (l : Nat) (a : Value) (H : Hp) (n : Nat) : (cal (l + 1)).call 42 [a] H n = C42_0 (cal l) KK a H n := by kernel_rfl
theorem Best_call (l : Nat) (a : Value) (H : Hp) (n : Nat) (k : Value → Hp → Nat → Option ρ) : callFK P (cal (l + 1)) 42 [a] H n k = bindO (C42_0 (cal l) KK a H n) fun r => k r.1 r.2.1 r.2.2 := by
  unfold callFK
  rw [flat42, call42]
  rfl
theorem bestL_some {ps js ks M : List Int} {nj np nk : Nat} (hnp : np ≤ 8) (hks : KindsOk ks nk) (h : bestL ps js ks nj np nk = some M) : ∃ i, i ≤ np ∧ GoesOn (fitD js ks nj np) nk noL 0 np i M ∧ RightL js ks ps M nj np ∧
    (∀ N, GoesOn (fitD js ks nj np) nk noL 0 np i N → RightL js ks ps N nj np → M = N ∨ lexLt M N 0 np) ∧ ∀ j N, j < i → GoesOn (fitD js ks nj np) nk noL 0 np j N → ¬ RightL js ks ps N nj np := by
  obtain ⟨i, h1, h2, h3, h4⟩ := firstN_some (Nat.le_refl _) h
  have sp := fun i => findL_spec hnp (prune_ok (js := js) (ps := ps) (nj := nj) hnp hks) np noL i 0 (show 0 + np = np by omega) noL_open
  obtain ⟨g1, g2, g3⟩ := (sp i).1 M h3
  refine ⟨i, by omega, g1, rightD_iff.1 g2, fun N hN hR => g3 N hN (rightD_iff.2 hR), fun j N hj hN hR => ?_⟩
  exact (sp j).2 (h4 j (by omega) hj) N hN (rightD_iff.2 hR)
theorem bestL_none {ps js ks : List Int} {nj np nk : Nat} (hnp : np ≤ 8) (hks : KindsOk ks nk) (h : bestL ps js ks nj np nk = none) : ∀ j N, j ≤ np → GoesOn (fitD js ks nj np) nk noL 0 np j N → ¬ RightL js ks ps N nj np := fun j N hj hN hR =>
  (findL_spec hnp (prune_ok hnp hks) np noL j 0 (show 0 + np = np by omega) noL_open).2 (firstN_none (Nat.le_refl _) h j (by omega) (by omega)) N hN (rightD_iff.2 hR)
theorem GoesOn.kindsIn {tk : Nat → Nat → Bool} {nk np i : Nat} {M : List Int} (h : GoesOn tk nk noL 0 np i M) : KindsIn M np nk := by
  intro q hq
  by_cases c : q < np
  · rcases h.kinds q (Nat.zero_le _) (by omega) with z | ⟨kd, h1, _, h3⟩
    · exact .inl z
    · exact .inr ⟨c, kd, h1, h3⟩
  · exact .inl (h.after q (by omega) hq)
theorem kinds_I64 {M : List Int} {np nk : Nat} (hM : M.length = 8) (hK : KindsIn M np nk) (hnk : nk ≤ 3) : ∀ x ∈ M, I64 x := by
  intro x hx
  obtain ⟨k, hk, e⟩ := List.mem_iff_getElem.1 hx
  have : M.getD k 0 = x := by rw [List.getD_eq_getElem?_getD, List.getElem?_eq_getElem hk, e]; rfl
  rw [hM] at hk
  rcases hK k hk with z | ⟨_, kd, h1, h2⟩
  · rw [← this, z]; unfold I64; omega
  · rw [← this, h2]; unfold I64; omega
theorem Best_spec (l : Nat) {np nj nk : Nat} {ps js ks : List Int} {H : Hp} {n : Nat} {v : Value} (hg : GroveP H n v np nj nk ps js ks) (hnp : np ≤ 1000) (hnj : nj ≤ 1000) (hnk : nk ≤ 1000) :
    (faultN np nj nk ps js ks ≠ 0 → Ret (C42_0 (cal (l + 16)) KK v H n) n H (.tuple ⟨[.slice none 0 0, .int .i64 0, .int .i64 (faultN np nj nk ps js ks)]⟩)) ∧
    (faultN np nj nk ps js ks = 0 → bestL ps js ks nj np nk = none → Ret (C42_0 (cal (l + 16)) KK v H n) n H (.tuple ⟨[.slice none 0 0, .int .i64 0, .int .i64 10]⟩)) ∧
    (faultN np nj nk ps js ks = 0 → ∀ M, bestL ps js ks nj np nk = some M → ∃ w H' n', C42_0 (cal (l + 16)) KK v H n = some (.tuple ⟨[w, .int .i64 (cntI M 8), .int .i64 0]⟩, H', n') ∧ n ≤ n' ∧ Keep n H H' ∧ RowAt H' n n' w (M.take np)) := by
  have hg0 := hg
  obtain ⟨x, y, z, rfl, h1, h2, h3⟩ := hg
  unfold C42_0 B42_0
  rw [boxK_eq]
  simp only [cellsV, ptr]
  have hk : Keep n H (H.set n (some (.cells [x, y, z] 35 false none))) := (Keep.refl n H).set (Nat.le_refl _) _
  have hb : CellsAt (H.set n (some (.cells [x, y, z] 35 false none))) n 0 [x, y, z] := CellsAt.new
  generalize H.set n (some (.cells [x, y, z] 35 false none)) = H1 at hk hb ⊢
  have lg : loadV P H1 35 ⟨n, 0, none⟩ = some (.agg ⟨[x, y, z]⟩) := loadV_agg (o := 0) (k := 0) hb agg35 sz35 (by simp) (by simp [h1.hole.1, h2.hole.1, h3.hole.1])
  obtain ⟨o1, o2⟩ := open_spec (l + 10) (hg0.keep hk (show n ≤ n + 1 by omega)) hnp hnj hnk
  rw [addrV_eq, bindO_some, lg, bindO_some, open_call (l + 10)]
  by_cases he : faultN np nj nk ps js ks = 0
  · refine ⟨fun h => absurd he h, ?_⟩
    obtain ⟨g, x', y', z', f, H2, n2, e1, e2, e3, e4, e5, e6, e7, e8, e9⟩ := o2 he
    simp only [Value.agg.injEq, Array.mk.injEq, List.cons.injEq, and_true] at e6
    obtain ⟨rfl, rfl, rfl⟩ := e6
    have good := good_of he
    have np8 := good.np8
    have nk3 := good.nk3
    have kk : Keep n H H2 := hk.trans e3 (by omega)
    have t0 : tupV (.tuple ⟨[.pointer (some ⟨g, 0, none⟩), .int .i64 0]⟩) 0 = some (.pointer (some ⟨g, 0, none⟩)) := rfl
    have t1 : tupV (.tuple ⟨[.pointer (some ⟨g, 0, none⟩), .int .i64 0]⟩) 1 = some (.int .i64 0) := rfl
    have d0 : decide ((0 : Int) = 0) = true := rfl
    rw [e1, bindO_some, t0, bindO_some, t1, bindO_some, binK_some bin_neq, d0, Bool.not_true, ifK_f]
    dsimp only
    obtain ⟨H3, n3, b1, b2, b3⟩ := best_call (ρ := Value × Hp × Nat) l e7 e8 (h3.len_eq und33) e9 good.kinds ((h1.keep kk (Nat.le_refl _)).up (show n ≤ n2 by omega)) np8 nk3 e5
    rw [b1]
    have l8 : (ints (List.replicate 8 (0 : Int))).length = 8 := rfl
    have k3 : Keep n H H3 := fun b hb => by rw [b3 b (by omega), kk b hb]
    cases hc : bestL ps js ks nj np nk with
    | none =>
      refine ⟨fun _ _ => ?_, fun _ M h => by cases h⟩
      have u0 : tupV (bestV none) 0 = some (.agg ⟨ints noL⟩) := rfl
      have u1 : tupV (bestV none) 1 = some (.bool false) := rfl
      obtain ⟨H4, k4, _, k6⟩ := spill (P := P) (ρ := Value × Hp × Nat) (H := H3) (n := n3) (L := ints noL) zero121 rfl sz121 rfl (ints_leaf _)
      rw [u0, bindO_some, u1, bindO_some, k6, not_f, bindO_some, ifK_t]
      exact ⟨H4, n3 + 1, rfl, by omega, k3.trans k4 (by omega)⟩
    | some M =>
      refine ⟨fun _ h => (by cases h), fun _ M' h => ?_⟩
      cases h
      obtain ⟨i, i1, i2, i3, _⟩ := bestL_some np8 good.kinds hc
      have hM := i2.len
      have hK := i2.kindsIn
      have lM : (ints M).length = 8 := by rw [ints_length, hM]
      have u0 : tupV (bestV (some M)) 0 = some (.agg ⟨ints M⟩) := rfl
      have u1 : tupV (bestV (some M)) 1 = some (.bool true) := rfl
      obtain ⟨H4, k4, k5, k6⟩ := spill (P := P) (ρ := Value × Hp × Nat) (H := H3) (n := n3) (L := ints M) zero121 rfl sz121 lM (ints_leaf _)
      have kg : Keep n2 H2 H4 := fun b hb => by rw [k4 b (by omega), b3 b hb]
      have f4 := e7.keep kg e5
      have lx : loadV P H4 31 ⟨g, 0 + 0 + 0, none⟩ = some x := by
        have := f4.load (P := P) (k := 0) agg31 (by omega)
        rw [e8.x] at this; exact this
      have hlx : lenV P 31 x = some (.int .i64 np) := h1.len_eq und31
      rw [u0, bindO_some, u1, bindO_some, k6, not_t, bindO_some, ifK_f, nil_ptr, bindO_some, fa117_0, bindO_some, fa35_0, bindO_some, addrV_eq, bindO_some, lx, bindO_some, hlx, bindO_some, slice121h n3 np8, bindO_some, addrV_eq, bindO_some, load_all k5 agg121 sz121 lM, bindO_some]
      have hI := kinds_I64 hM hK nk3
      obtain ⟨H5, H6, n6, q1, q2, q3, ⟨q4, q5⟩, q6⟩ := effK_readR (ρ := Value × Hp × Nat) (ex := [.l 121 ⟨n3, 0, none⟩]) (H := H4) (n := n3 + 1) (v := .slice (some ⟨n3 + 1 + 1, 0, none⟩) np capV)
        (op := fun H n k => callFK P (cal (l + 16)) 76 [.slice (some ⟨n3, 0, none⟩) np 8] H n fun v H n => k v H n)
        (R := fun H' n' => n3 + 1 + 1 < n' ∧ H'.get (n3 + 1 + 1) = some (.cells (ints (M.take np)) 3 false (some 1)))
        (fun q hq => by
          simp only [List.mem_cons, List.not_mem_nil, or_false] at hq
          subst hq
          exact ⟨_, _, rfl, Nat.lt_succ_self _, .inl ⟨_, _, _, _, k5⟩⟩)
        (fun Hm hm => by
          have hw : ListR Hm (n3 + 1) (.slice (some ⟨n3, 0, none⟩) np 8) np (M.take np) := same_list hm (ints_take_list k5 (Nat.lt_succ_self _) (by omega) hI)
          obtain ⟨H2, n2, z1, z2, z3, z4⟩ := clone76_at (ρ := Value × Hp × Nat) (l + 15) hw good.np1 hnp
          exact ⟨H2, n2, fun k => z1 _, by omega, z3, z2, z4⟩)
      have kg5 : Keep n2 H2 H5 := fun b hb => by rw [q3 b (by omega), kg b hb]
      obtain ⟨H7, n7, w1, w2, w3⟩ := count_call (ρ := Value × Hp × Nat) (l + 13) (n := n6) (e7.keep kg5 e5) e9 hM hK np8 nk3 (by omega)
      rw [q1, w1]
      have lt : (M.take np).length = np := by simp [hM]; omega
      refine ⟨_, H7, n7, rfl, by omega, fun b hb => by rw [w3 b (by omega), kg5 b (by omega), kk b hb], .inr ⟨n3 + 1 + 1, capV, by rw [lt], by omega, by omega, ?_⟩⟩
      rw [w3 _ (by omega), q6 _ (by omega), q5]
  · refine ⟨fun _ => ?_, fun h => absurd h he, fun h => absurd h he⟩
    obtain ⟨H2, n2, e1, e2, e3⟩ := o1 he
    have t0 : tupV (.tuple ⟨[.pointer none, .int .i64 (faultN np nj nk ps js ks)]⟩) 0 = some (.pointer none) := rfl
    have t1 : tupV (.tuple ⟨[.pointer none, .int .i64 (faultN np nj nk ps js ks)]⟩) 1 = some (.int .i64 (faultN np nj nk ps js ks)) := rfl
    rw [e1, bindO_some, t0, bindO_some, t1, bindO_some, binK_some bin_neq, decide_eq_false he, Bool.not_false, ifK_t]
    exact ⟨H2, n2, rfl, by omega, hk.trans e3 (by omega)⟩
end Go.Proofs.Ytekajfobmnedjaa.spec
end
section
namespace Go.Proofs.Ytekajfobmnedjaa.spec
open Go Go.Ev Go.Proofs.Ytekajfobmnedjaa.nestFits Go.Proofs.Ytekajfobmnedjaa.G
set_option maxRecDepth 100000
variable {ρ : Type}
end Go.Proofs.Ytekajfobmnedjaa.spec
end
section
namespace Go.Proofs.Ytekajfobmnedjaa.spec
open Go Go.Ev Go.Proofs.Ytekajfobmnedjaa.nestFits Go.Proofs.Ytekajfobmnedjaa.G
set_option maxRecDepth 100000
variable {ρ : Type}
noncomputable def nestsR (L : List Int) (i : Nat) : Int := sumTo (fun p => if 0 ≤ L.getD p 0 then 1 else 0) i
def LessP (a b : List Int) (np : Nat) : Prop := nestsR a np < nestsR b np ∨ (nestsR a np = nestsR b np ∧ lexLt a b 0 np)
end Go.Proofs.Ytekajfobmnedjaa.spec
end
section
namespace Go.Proofs.Ytekajfobmnedjaa.spec
open Go Go.Ev Go.Proofs.Ytekajfobmnedjaa.nestFits Go.Proofs.Ytekajfobmnedjaa.G
set_option maxRecDepth 100000
variable {ρ : Type}
theorem bin_quo {t : TypeId} {x y : Operand} {a b : Int} (hb : b ≠ 0) (h : I64 (a.tdiv b)) : binV P .quo t x y (.int .i64 a) (.int .i64 b) = some (.int .i64 (a.tdiv b)) := by
  refine bin_int (by simp [binOp, Op.intDiv, hb, wrap_i64 h]) rfl ?_
  rintro m n rfl rfl
  exact .inr rfl
theorem quo_small {a n : Nat} : ((a : Int).tdiv (n : Int)) = ((a / n : Nat) : Int) := by
  rw [Int.tdiv_eq_ediv_of_nonneg (by omega)]
  rfl
theorem list_extN {L M : List Int} (h : L.length = M.length) (he : ∀ q, q < L.length → L.getD q 0 = M.getD q 0) : L = M := by
  apply List.ext_getElem?
  intro k
  by_cases hk : k < L.length
  · rw [getD_some hk, getD_some (by omega), he k hk]
  · rw [List.getElem?_eq_none (by omega), List.getElem?_eq_none (by omega)]
end Go.Proofs.Ytekajfobmnedjaa.spec
end
section
namespace Go.Proofs.Ytekajfobmnedjaa.spec
open Go Go.Ev Go.Proofs.Ytekajfobmnedjaa.nestFits Go.Proofs.Ytekajfobmnedjaa.G
set_option maxRecDepth 100000
variable {ρ : Type}
end Go.Proofs.Ytekajfobmnedjaa.spec
end
section
namespace Go.Proofs.Ytekajfobmnedjaa.spec
open Go Go.Ev Go.Proofs.Ytekajfobmnedjaa.nestFits Go.Proofs.Ytekajfobmnedjaa.G
set_option maxRecDepth 100000
variable {ρ : Type}
end Go.Proofs.Ytekajfobmnedjaa.spec
end
section
namespace Go.Proofs.Ytekajfobmnedjaa.spec
open Go Go.Ev Go.Proofs.Ytekajfobmnedjaa.nestFits Go.Proofs.Ytekajfobmnedjaa.G
set_option maxRecDepth 100000
variable {ρ : Type}
end Go.Proofs.Ytekajfobmnedjaa.spec
end
