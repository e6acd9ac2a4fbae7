import Derived.Test.YtakjjillnllocaaEv30
import GoSem.ClaimJoined
import Derived.WideShapes
import Derived.SizedLaws
namespace Go.Ev
open Go
variable {P : Program}
def tile (g : TypeId → Option Nat) : List Field → Nat → Option Nat
  | [], off => some off
  | f :: fs, off => match Nat.beq f.offset off, g f.type with
    | true, some k => tile g fs (off + k)
    | _, _ => none
def flatT (P : Program) : Nat → TypeId → Option Nat
  | 0, _ => none
  | d + 1, t => match P.underlying t with
    | some (.int .i64) => match Nat.beq (P.cellsOf t) 1 with
      | true => some 1
      | false => none
    | some (.struct fs) => match tile (flatT P d) fs.toList 0 with
      | some n => match Nat.beq (P.cellsOf t) n with
        | true => some n
        | false => none
      | none => none
    | _ => none
theorem flatT_cells {d : Nat} {t : TypeId} {n : Nat} (h : flatT P d t = some n) : P.cellsOf t = n := by
  cases d with
  | zero => cases h
  | succ d =>
    unfold flatT at h
    split at h
    · split at h
      · rename_i hb; cases h; exact Nat.eq_of_beq_eq_true hb
      · cases h
    · split at h
      · split at h
        · rename_i hb; cases h; exact Nat.eq_of_beq_eq_true hb
        · cases h
      · cases h
    · cases h
def NumAt (cs : List Value) (i : Nat) : Prop := ∃ x, cs[i]? = some (.int .i64 x) ∧ I64 x
theorem tile_le {g : TypeId → Option Nat} : ∀ {fs : List Field} {off n : Nat}, tile g fs off = some n → off ≤ n
  | [], off, n, h => by cases h; exact Nat.le_refl _
  | f :: fs, off, n, h => by
    unfold tile at h
    split at h
    · have := tile_le h; omega
    · cases h
theorem tile_num {g : TypeId → Option Nat} {cs : List Value} : ∀ {fs : List Field} {off n : Nat}, tile g fs off = some n →
    (∀ f ∈ fs, ∀ k, g f.type = some k → ∀ i, i < k → NumAt ((cs.drop f.offset).take k) i) → ∀ i, off ≤ i → i < n → NumAt cs i
  | [], off, n, h, _, i, h1, h2 => by cases h; omega
  | f :: fs, off, n, h, hf, i, h1, h2 => by
    unfold tile at h
    split at h
    · rename_i k hb hk
      have hb := Nat.eq_of_beq_eq_true hb
      by_cases q : i < off + k
      · obtain ⟨x, e, hx⟩ := hf f (by simp) k hk (i - off) (by omega)
        rw [List.getElem?_take, if_pos (by omega), List.getElem?_drop] at e
        refine ⟨x, ?_, hx⟩
        rw [← e]; congr 1; omega
      · exact tile_num h (fun f' hf' => hf f' (List.mem_cons_of_mem _ hf')) i (by omega) h2
    · cases h
theorem trod_flat {H : Type} {enc : TypeId × Value → H} {w : World} {base : Nat} {spare : Nat → Bool} {held : Bool} : ∀ (d : Nat) {t : TypeId} {n fuel : Nat} {cs : List Value} {r : DataW H × List MemPlace},
    flatT P d t = some n → DataW.trod enc P w base spare held fuel t cs = some r → cs.length = n ∧ ∀ i, i < n → NumAt cs i
  | 0, t, n, fuel, cs, r, h, _ => by cases h
  | d + 1, t, n, 0, cs, r, h, ht => by simp [DataW.trod] at ht
  | d + 1, t, n, fuel + 1, cs, r, h, ht => by
    have hcell := flatT_cells h
    unfold flatT at h
    split at h
    · rename_i hu
      split at h
      · cases h
        unfold DataW.trod at ht
        simp only [hu] at ht
        split at ht <;> simp_all
        rename_i k1 k2 x e
        subst e
        refine ⟨x, by simp, ?_⟩
        have := ht.1.2
        simp only [Lit.wf, Bool.and_eq_true, decide_eq_true_eq, IntKind.min, IntKind.max, IntKind.signed, IntKind.bits] at this
        unfold I64
        simp at this
        omega
      · cases h
    · rename_i fs hu
      split at h
      case h_2 => cases h
      rename_i n' hn'
      split at h
      case h_2 => cases h
      cases h
      have hlen : cs.length = P.cellsOf t ∧ ∃ xs, fs.toList.mapM (fun f => DataW.trod enc P w base spare held fuel f.type ((cs.drop f.offset).take (P.cellsOf f.type))) = some xs := by
        unfold DataW.trod at ht
        simp only [hu] at ht
        split at ht <;> simp_all
        obtain ⟨a, h1, _⟩ := ht
        exact ⟨a, h1⟩
      obtain ⟨hl, xs, hm⟩ := hlen
      refine ⟨by rw [hl, hcell], fun i hi => ?_⟩
      refine tile_num (cs := cs) hn' ?_ i (Nat.zero_le _) hi
      intro f hf k hk j hj
      obtain ⟨y, hy⟩ := WideShapes.mapM_each hm f hf
      rw [flatT_cells hk] at hy
      exact (trod_flat d hk hy).2 j hj
    · cases h
theorem cells?_get {w : World} {base : Nat} {a : Addr} {n : Nat} {l : List Value} (h : w.cells? base a n = some l) : l.length = n ∧ ∀ i, i < n → w.cell? (a.add i) = l[i]? := by
  unfold World.cells? at h
  split at h
  · have key : ∀ (m k : Nat) (l : List Value), (List.range' k m).mapM (fun i => w.cell? (a.add i)) = some l → l.length = m ∧ ∀ i, i < m → w.cell? (a.add (k + i)) = l[i]? := by
      intro m
      induction m with
      | zero => intro k l e; simp at e; subst e; exact ⟨rfl, fun i hi => by omega⟩
      | succ m ih =>
        intro k l e
        rw [List.range'_succ, List.mapM_cons] at e
        cases h1 : w.cell? (a.add k) with
        | none => rw [h1] at e; cases e
        | some v =>
          rw [h1] at e
          cases h2 : (List.range' (k + 1) m).mapM (fun i => w.cell? (a.add i)) with
          | none => rw [h2] at e; cases e
          | some r =>
            rw [h2] at e
            cases e
            obtain ⟨i1, i2⟩ := ih (k + 1) r h2
            refine ⟨by simp [i1], fun i hi => ?_⟩
            cases i with
            | zero => simpa using h1
            | succ i =>
              have := i2 i (by omega)
              rw [show k + (i + 1) = k + 1 + i by omega]
              simpa using this
    rw [List.range_eq_range'] at h
    obtain ⟨h1, h2⟩ := key n 0 l h
    exact ⟨h1, fun i hi => by simpa using h2 i hi⟩
  · cases h
theorem mapM_len {α β : Type} {f : α → Option β} : ∀ {l : List α} {r : List β}, l.mapM f = some r → r.length = l.length
  | [], r, h => by simp at h; subst h; rfl
  | x :: l, r, h => by
    rw [List.mapM_cons] at h
    cases h1 : f x with
    | none => rw [h1] at h; cases h
    | some y =>
      rw [h1] at h
      cases h2 : l.mapM f with
      | none => rw [h2] at h; cases h
      | some q =>
        rw [h2] at h
        cases h
        simp [mapM_len h2]
theorem choose_list {α : Type} {R : Nat → α → Prop} : ∀ m : Nat, (∀ k, k < m → ∃ x, R k x) → ∃ xs : List α, xs.length = m ∧ ∀ k x, xs[k]? = some x → R k x
  | 0, _ => ⟨[], rfl, fun k x h => by simp at h⟩
  | m + 1, h => by
    obtain ⟨xs, h1, h2⟩ := choose_list m (fun k hk => h k (by omega))
    obtain ⟨x, hx⟩ := h m (by omega)
    refine ⟨xs ++ [x], by simp [h1], fun k y e => ?_⟩
    rcases Nat.lt_trichotomy k m with q | q | q
    · rw [List.getElem?_append_left (by omega)] at e; exact h2 k y e
    · subst q
      rw [List.getElem?_append_right (by omega), h1] at e
      simp at e; subst e; exact hx
    · rw [List.getElem?_eq_none (by simp; omega)] at e; cases e
theorem cell_block {w : World} {a : Addr} {v : Value} (h : w.cell? a = some v) : ∃ arr e fr, w.heap[a.block]? = some (.cells arr e fr) ∧ arr[a.off]? = some v := by
  unfold World.cell? at h
  split at h
  · rename_i arr e fr hb
    split at h
    · cases h
    · exact ⟨arr, e, fr, hb, h⟩
  · cases h
theorem slice_in {H : Type} {enc : TypeId × Value → H} {w : World} {d s fuel base : Nat} {t e : TypeId} {v : Value} {dd : DataW H} {ps : List MemPlace} {Hp0 : Hp}
    (hH : ∀ i, Hp0.get i = rowsOf w i) (hu : P.underlying t = some (.slice e)) (hf : flatT P d e = some s) (hs : 1 ≤ s) (hb : 1 ≤ P.bytesOf e)
    (ht : DataW.trod enc P w 0 (fun _ => true) true fuel t [v] = some (dd, ps)) (hw : ∀ n ∈ dd.weights P t, n ≤ reachBytes) (hok : Cell.okWide P w .any base t v) :
    ∃ len xs, SliceI Hp0 w.heap.size s v len xs ∧ VR (idPhi w) v v := by
  cases fuel with
  | zero => simp [DataW.trod] at ht
  | succ fuel =>
    unfold DataW.trod at ht
    cases v with
    | slice ao len cap =>
      cases ao with
      | none =>
        simp only [hu] at ht
        split at ht <;> simp_all
        exact ⟨⟨0, [], by simp, by simp, .inl ⟨rfl, rfl⟩⟩, by simp only [VR]⟩
      | some a =>
        simp only [hu] at ht
        simp only [Cell.okWide, hu, Cell.ok] at hok
        obtain ⟨_, _, _, hsp, row, cells, hshape, _⟩ := hok
        split at ht
        case isFalse => cases ht
        rename_i hcond
        obtain ⟨_, hlc, _⟩ := hcond
        have hcell := flatT_cells hf
        rw [hcell] at ht
        simp only [if_true, Option.bind_eq_some_iff, Option.map_eq_some_iff] at ht
        obtain ⟨elems, hel, rest, hrest, hdd⟩ := ht
        have l1 := mapM_len hel
        have l2 := mapM_len hrest
        simp only [List.length_range] at l1 l2
        simp only [Prod.mk.injEq] at hdd
        obtain ⟨rfl, rfl⟩ := hdd
        have hcap : cap < capV := by
          have := hw ((elems.length + rest.length) * P.bytesOf e) (by simp [DataW.weights, hu])
          have h1 : elems.length + rest.length = cap := by omega
          rw [h1] at this
          have h2 : cap ≤ cap * P.bytesOf e := Nat.le_mul_of_pos_right _ hb
          have h3 : reachBytes < capV := by decide
          omega
        have hblk : a.block < w.heap.size := by
          unfold World.shape? at hshape
          rcases Nat.lt_or_ge a.block w.heap.size with q | q
          · exact q
          · rw [Array.getElem?_eq_none q] at hshape; simp at hshape
        have ha : a = ⟨a.block, a.off, none⟩ := spot_none hsp
        have num : ∀ k, k < len * s → ∃ x, w.cell? ⟨a.block, a.off + k, none⟩ = some (.int .i64 x) ∧ I64 x := by
          intro k hk
          have hi : k / s < len := Nat.div_lt_of_lt_mul (by rw [Nat.mul_comm]; exact hk)
          obtain ⟨y, hy⟩ := WideShapes.mapM_each hel (k / s) (by simp [hi])
          simp only [Option.bind_eq_some_iff] at hy
          obtain ⟨cs, hc1, hc2⟩ := hy
          obtain ⟨n1, n2⟩ := trod_flat d hf hc2
          obtain ⟨m1, m2⟩ := cells?_get hc1
          have hj : k % s < s := Nat.mod_lt _ hs
          obtain ⟨x, hx, hx2⟩ := n2 (k % s) hj
          have := m2 (k % s) hj
          rw [hx, ha, addr_add, addr_add] at this
          refine ⟨x, ?_, hx2⟩
          rw [← this]
          congr 2
          have := Nat.div_add_mod' k s
          omega
        obtain ⟨xs, hx1, hx2⟩ := choose_list (len * s) num
        refine ⟨len, xs, ⟨hx1, fun x hx => ?_, .inr ⟨a.block, a.off, cap, by rw [← ha], hlc, hcap, hblk, ?_⟩⟩, ?_⟩
        · obtain ⟨k, hk⟩ := List.getElem?_of_mem hx
          exact (hx2 k x hk).2
        · rcases Nat.eq_zero_or_pos len with q | q
          · exact .inl q
          · refine .inr ?_
            have hpos : 0 < len * s := Nat.mul_pos q hs
            obtain ⟨x0, hx0, _⟩ := num 0 hpos
            obtain ⟨arr, el, fr, hbk, _⟩ := cell_block hx0
            simp only at hbk
            refine ⟨_, arr.toList.map (hole (idPhi w)), by rw [hH]; unfold rowsOf; rw [hbk], rfl, fun k v hv => ?_⟩
            simp only [ints, List.getElem?_map, Option.map_eq_some_iff] at hv
            obtain ⟨x, hx, rfl⟩ := hv
            obtain ⟨arr', el', fr', hbk', harr⟩ := cell_block (hx2 k x hx).1
            simp only at hbk' harr
            rw [hbk] at hbk'; cases hbk'
            rw [List.getElem?_map]
            have : arr.toList[a.off + k]? = some (.int .i64 x) := by simpa using harr
            rw [this]
            simp only [Option.map_some, Option.some.injEq]
            unfold hole
            rw [if_pos (by simp only [VR])]
        · simp only [VR]
          exact ⟨a, cap, rfl, ⟨⟨0, by unfold idPhi; rw [if_pos hblk]⟩, rfl, rfl⟩, .inl ⟨hcap, rfl⟩⟩
    | _ => simp_all
end Go.Ev
