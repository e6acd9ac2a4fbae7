import Derived.Test.YtakjjillnllocaaEv39
namespace Go.Ev
open Go
variable {P : Program} {t t2 e e2 : TypeId} {ρ : Type}
theorem loadN_all {H : Hp} {b o : Nat} {L : List Value} (h : CellsAt H b o L) (hn : L.all noHole = true) {m : Nat} (hm : L.length = m) : loadN H ⟨b, o, none⟩ m = some L := by
  have := loadN_at (s := m) (k := 0) h (by omega) hn
  rw [Nat.add_zero] at this
  rw [this, take_all _ _ hm]
end Go.Ev
