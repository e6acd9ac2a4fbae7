/- The closed run of PreyNames by the kernel: the texts of the functions say true. -/
import Derived.Test.YtakjjillnllocabP10
open Go Go.Ev
set_option maxRecDepth 1000000
namespace Go.Proofs.Ytakjjillnllocab.P
noncomputable def isB (c : Bool) (r : Res) : Bool := match r with
  | some (.bool b, _, _) => b == c
  | _ => false
theorem isB_eq {c : Bool} {r : Res} (h : isB c r = true) : ∃ H n, r = some (.bool c, H, n) := by
  unfold isB at h
  split at h
  · rename_i b H n
    have h := eq_of_beq h
    subst h
    exact ⟨H, n, rfl⟩
  · cases h
theorem run_names : isB true ((calE P A (KK + 1) tab.get 60).call 3 [] .nil 0) = true := by kernel_rfl
end Go.Proofs.Ytakjjillnllocab.P
