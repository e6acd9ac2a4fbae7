import Derived.Test.YtakjjillnllocaaEv40
namespace Go.Ev
open Go
variable {P : Program} {ρ : Type}
theorem splice_one {a : Int} : ∀ {X : List Int} {o : Nat}, o < X.length → splice (ints X) o [.int .i64 a] = some (ints (X.set o a))
  | [], _, h => by simp at h
  | x :: X, 0, _ => by
    unfold splice
    cases X <;> simp [ints, splice.over]
  | x :: X, o + 1, h => by
    have ih := splice_one (a := a) (X := X) (o := o) (by simpa using h)
    unfold splice
    simp only [ints, List.map_cons, List.set_cons_succ] at ih ⊢
    rw [ih]
theorem store_one {a : Int} {X : List Int} {o g : Nat} {H : Hp} {e : TypeId} {vec : Option Nat} (h : H.get g = some (.cells (ints X) e false vec)) (ho : o < X.length) :
    storeN H ⟨g, o, none⟩ [.int .i64 a] = some (H.set g (some (.cells (ints (X.set o a)) e false vec))) := by
  unfold storeN
  simp only [h, splice_one ho]
  rfl
end Go.Ev
