import Derived.Test.YtakjjillnllocaaEv32
namespace Go.Ev
open Go
variable {P : Program} {t : TypeId} {x y : Operand} {a b : Int} {ρ : Type}
theorem semPure_guard {op : BinOp} {u v w : Value} (h1 : eqGuard op t x y u v = pure ()) (h2 : binOp op t u v = pure w) : semPure P (guardBin op t x y u v) = some w := by
  unfold guardBin
  rw [h1, h2]
  rfl
theorem eqGuard_ints {op : BinOp} {k k' : IntKind} : eqGuard op t x y (.int k a) (.int k' b) = pure () := by
  unfold eqGuard
  split <;> rfl
theorem slow_int {op : BinOp} {w : Value} (h : binOp op t (.int .i64 a) (.int .i64 b) = pure w) (hp : pureV w = true) : slowBin P op t x y (.int .i64 a) (.int .i64 b) = some w := by
  unfold slowBin
  have h0 : (pureV (.int .i64 a) && pureV (.int .i64 b)) = true := rfl
  have h1 : aggBin P op t (.int .i64 a) (.int .i64 b) = none := by unfold aggBin; cases op <;> rfl
  rw [h0]
  simp only [h1, semPure_guard eqGuard_ints h, hp]
theorem bin_int {op : BinOp} {w : Value} (h : binOp op t (.int .i64 a) (.int .i64 b) = pure w) (hp : pureV w = true)
    (hq : ∀ m n : Nat, a = m → b = n → natBin op m n = some w ∨ natBin op m n = none) : binV P op t x y (.int .i64 a) (.int .i64 b) = some w := by
  unfold binV
  cases a with
  | ofNat m =>
    cases b with
    | ofNat n =>
      show (match natBin op m n with | some v => some v | none => _) = _
      rcases hq m n rfl rfl with q | q
      · rw [q]
      · rw [q]; exact slow_int h hp
    | negSucc n => exact slow_int h hp
  | negSucc m => cases b <;> exact slow_int h hp
theorem bin_lss : binV P .lss t x y (.int .i64 a) (.int .i64 b) = some (.bool (decide (a < b))) := by
  refine bin_int (by simp [binOp, Op.intCmp]) rfl ?_
  rintro m n rfl rfl
  refine .inl ?_
  rw [show decide ((m : Int) < (n : Int)) = Nat.blt m n from (by rw [Bool.eq_iff_iff]; simp)]
  rfl
theorem bin_leq : binV P .leq t x y (.int .i64 a) (.int .i64 b) = some (.bool (decide (a ≤ b))) := by
  refine bin_int (by simp [binOp, Op.intCmp]) rfl ?_
  rintro m n rfl rfl
  refine .inl ?_
  rw [show decide ((m : Int) ≤ (n : Int)) = Nat.ble m n from (by rw [Bool.eq_iff_iff]; simp)]
  rfl
theorem bin_gtr : binV P .gtr t x y (.int .i64 a) (.int .i64 b) = some (.bool (decide (b < a))) := by
  refine bin_int (by simp [binOp, Op.intCmp]) rfl ?_
  rintro m n rfl rfl
  refine .inl ?_
  rw [show decide ((n : Int) < (m : Int)) = Nat.blt n m from (by rw [Bool.eq_iff_iff]; simp)]
  rfl
theorem bin_geq : binV P .geq t x y (.int .i64 a) (.int .i64 b) = some (.bool (decide (b ≤ a))) := by
  refine bin_int (by simp [binOp, Op.intCmp]) rfl ?_
  rintro m n rfl rfl
  refine .inl ?_
  rw [show decide ((n : Int) ≤ (m : Int)) = Nat.ble n m from (by rw [Bool.eq_iff_iff]; simp)]
  rfl
theorem bin_eql : binV P .eql t x y (.int .i64 a) (.int .i64 b) = some (.bool (decide (a = b))) := by
  refine bin_int (by simp [binOp, Op.intCmp]; rfl) rfl ?_
  rintro m n rfl rfl
  refine .inl ?_
  rw [show decide ((m : Int) = (n : Int)) = Nat.beq m n from (by rw [Bool.eq_iff_iff]; simp; omega)]
  rfl
theorem bin_neq : binV P .neq t x y (.int .i64 a) (.int .i64 b) = some (.bool (!decide (a = b))) := by
  refine bin_int (by simp [binOp, Op.intCmp]; rfl) rfl ?_
  rintro m n rfl rfl
  refine .inl ?_
  rw [show decide ((m : Int) = (n : Int)) = Nat.beq m n from (by rw [Bool.eq_iff_iff]; simp; omega)]
  rfl
theorem wrap_i64 {z : Int} (h : I64 z) : IntKind.i64.wrap z = z := by
  unfold I64 at h
  simp [IntKind.wrap, IntKind.bits, IntKind.signed]
  omega
theorem mk64_or (n : Nat) {w : Value} (h : w = .int .i64 (n : Int)) : mk64 n = some w ∨ mk64 n = none := by
  unfold mk64
  split
  · subst h; exact .inl rfl
  · exact .inr rfl
theorem bin_add (h : I64 (a + b)) : binV P .add t x y (.int .i64 a) (.int .i64 b) = some (.int .i64 (a + b)) := by
  refine bin_int (by simp [binOp, Op.intArith, wrap_i64 h]) rfl ?_
  rintro m n rfl rfl
  exact mk64_or _ (by simp)
theorem bin_sub (h : I64 (a - b)) : binV P .sub t x y (.int .i64 a) (.int .i64 b) = some (.int .i64 (a - b)) := by
  refine bin_int (by simp [binOp, Op.intArith, wrap_i64 h]) rfl ?_
  rintro m n rfl rfl
  unfold natBin
  simp only
  split
  · rename_i hle
    have := Nat.le_of_ble_eq_true hle
    exact mk64_or _ (by congr 1; omega)
  · exact .inr rfl
theorem bin_mul (h : I64 (a * b)) : binV P .mul t x y (.int .i64 a) (.int .i64 b) = some (.int .i64 (a * b)) := by
  refine bin_int (by simp [binOp, Op.intArith, wrap_i64 h]) rfl ?_
  rintro m n rfl rfl
  exact mk64_or _ (by simp)
theorem bindO_some {α : Type} {v : α} {k : α → Option ρ} : bindO (some v) k = k v := rfl
theorem binK_some {op : BinOp} {u v w : Value} {k : Value → Option ρ} (h : binV P op t x y u v = some w) : binK P op t x y u v k = k w := by
  unfold binK; rw [h]; rfl
theorem boxK_eq {e : TypeId} {v : Value} {H : Hp} {n : Nat} {k : Value → Hp → Nat → Option ρ} : boxK e v H n k = k (ptr n) (H.set n (some (.cells (cellsV v) e false none))) (n + 1) := rfl
theorem allocK_eq {e : TypeId} {z : Value} {H : Hp} {n : Nat} {k : Value → Hp → Nat → Option ρ} (h : zeroT P e = some z) : allocK P e H n k = k (ptr n) (H.set n (some (.cells (cellsV z) e false none))) (n + 1) := by
  unfold allocK; rw [h]; rfl
theorem ifK_t {p q : Option ρ} : ifK (.bool true) p q = p := rfl
theorem ifK_f {p q : Option ρ} : ifK (.bool false) p q = q := rfl
theorem ifK_d {c : Prop} [Decidable c] {p q : Option ρ} : ifK (.bool (decide c)) p q = if c then p else q := by
  by_cases h : c <;> simp [h, ifK]
theorem guardK_y {w : Bool} {op : (Value → Hp → Nat → Option ρ) → Option ρ} {H : Hp} {n : Nat} {k : Value → Hp → Nat → Option ρ} : guardK (.bool w) w op H n k = op k := by
  cases w <;> rfl
theorem guardK_n {w : Bool} {op : (Value → Hp → Nat → Option ρ) → Option ρ} {H : Hp} {n : Nat} {k : Value → Hp → Nat → Option ρ} : guardK (.bool (!w)) w op H n k = k undef H n := by
  cases w <;> rfl
theorem guardK_tt {op : (Value → Hp → Nat → Option ρ) → Option ρ} {H : Hp} {n : Nat} {k : Value → Hp → Nat → Option ρ} : guardK (.bool true) true op H n k = op k := rfl
theorem guardK_ff {op : (Value → Hp → Nat → Option ρ) → Option ρ} {H : Hp} {n : Nat} {k : Value → Hp → Nat → Option ρ} : guardK (.bool false) false op H n k = op k := rfl
theorem guardK_tf {op : (Value → Hp → Nat → Option ρ) → Option ρ} {H : Hp} {n : Nat} {k : Value → Hp → Nat → Option ρ} : guardK (.bool true) false op H n k = k undef H n := rfl
theorem guardK_ft {op : (Value → Hp → Nat → Option ρ) → Option ρ} {H : Hp} {n : Nat} {k : Value → Hp → Nat → Option ρ} : guardK (.bool false) true op H n k = k undef H n := rfl
theorem guardK_u {w : Bool} {op : (Value → Hp → Nat → Option ρ) → Option ρ} {H : Hp} {n : Nat} {k : Value → Hp → Nat → Option ρ} : guardK undef w op H n k = k undef H n := rfl
theorem pickV_t {u v : Value} : pickV (.bool true) u v = some u := rfl
theorem pickV_f {u v : Value} : pickV (.bool false) u v = some v := rfl
theorem addrV_eq {b o : Nat} : addrV (.pointer (some ⟨b, o, none⟩)) = some ⟨b, o, none⟩ := rfl
theorem fieldAddr_eq {b o f off s : Nat} {ft : TypeId} (hf : fieldOf P t f = some (off, ft)) (hs : szT P ft = some (s + 1)) :
    fieldAddrV P t (.pointer (some ⟨b, o, none⟩)) f = some (.pointer (some ⟨b, o + off, none⟩)) := by
  unfold fieldAddrV
  simp [hf, hs, addA]
theorem SliceI.up {H : Hp} {n m s len : Nat} {v : Value} {xs : List Int} (h : SliceI H n s v len xs) (hm : n ≤ m) : SliceI H m s v len xs := by
  obtain ⟨h1, h2, h3⟩ := h
  refine ⟨h1, h2, ?_⟩
  rcases h3 with h3 | ⟨b, o, cap, e, a1, a2, a3, a4⟩
  · exact .inl h3
  · exact .inr ⟨b, o, cap, e, a1, a2, by omega, a4⟩
def Ret (r : Res) (n : Nat) (H : Hp) (v : Value) : Prop := ∃ H' n', r = some (v, H', n') ∧ n ≤ n' ∧ Keep n H H'
theorem callFK_pure {cal : Cal} {f : FuncId} {args : List Value} {H H' : Hp} {n n' : Nat} {v : Value} {k : Value → Hp → Nat → Option ρ} (hf : flatF P f = true) (hp : pureL args = true)
    (e : cal.call f args .nil 0 = some (v, H', n')) (hv : pureV v = true) : callFK P cal f args H n k = k v H n := by
  unfold callFK
  rw [hf, hp, e]
  simp only [Bool.and_self, bindO_some, hv]
theorem callFK_spec {cal : Cal} {f : FuncId} {args : List Value} {H : Hp} {n : Nat} {Pre : Hp → Nat → Prop} {Q : Value → Prop}
    (hs : ∀ H n, Pre H n → ∃ r, Ret (cal.call f args H n) n H r ∧ Q r) (hq : ∀ r, Q r → flatF P f = true → pureV r = true) (h0 : Pre H n) (h1 : pureL args = true → Pre .nil 0) :
    ∃ r H' n', Q r ∧ (∀ k : Value → Hp → Nat → Option ρ, callFK P cal f args H n k = k r H' n') ∧ n ≤ n' ∧ Keep n H H' := by
  unfold callFK
  cases hb : flatF P f && pureL args with
  | false =>
    obtain ⟨r, ⟨H', n', e, e1, e2⟩, q⟩ := hs H n h0
    exact ⟨r, H', n', q, fun k => by rw [e]; rfl, e1, e2⟩
  | true =>
    rw [Bool.and_eq_true] at hb
    obtain ⟨r, ⟨H', n', e, e1, e2⟩, q⟩ := hs .nil 0 (h1 hb.2)
    refine ⟨r, H, n, q, fun k => ?_, Nat.le_refl _, Keep.refl _ _⟩
    rw [e]
    simp only [bindO_some, hq r q hb.1]
end Go.Ev
