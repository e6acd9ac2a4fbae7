/-
  The law PreyNames returns true: a closed call, run by an evaluator over the model whose soundness is proved (Ev1 to Ev28), by the texts of all functions that it reaches (P1 to P10), in the kernel.
  No condition: the law has no argument.
-/
import Derived.Test.YtakjjillnllocabRows
import Derived.WalkKit
import Derived.ProofKit
import Derived.OpenShut
import Derived.Test.YtakjjillnllocabX1
namespace Go.Proofs.Ytakjjillnllocab.preyNames
open Go.ChangeShapes Go.WideShapes Go.ChangeAt Go.RowKit
set_option linter.unusedVariables false      -- a walk need not use every 'w<i>' (that an integer argument fits its kind)

theorem frozen_eq (w w' : World) (h : ∀ b : Nat, Go.Ev.frOb w'.heap[b]? = Go.Ev.frOb w.heap[b]?) (a : Addr) : w'.frozen? a = w.frozen? a := by
  have key : ∀ u : World, u.frozen? a = (decide ((Go.Ev.frOb u.heap[a.block]?).1 ≤ a.off) && decide (a.off < (Go.Ev.frOb u.heap[a.block]?).2)) := by
    intro u
    unfold World.frozen?
    cases u.heap[a.block]? with
    | none => simp [Go.Ev.frOb]
    | some o =>
      cases o with
      | cells c t fr =>
        rw [Bool.eq_iff_iff]
        simp only [Go.Ev.frOb, Bool.and_eq_true]
        exact ⟨fun ⟨a, b⟩ => ⟨decide_eq_true (of_decide_eq_true a), decide_eq_true (of_decide_eq_true b)⟩, fun ⟨a, b⟩ => ⟨decide_eq_true (of_decide_eq_true a), decide_eq_true (of_decide_eq_true b)⟩⟩
      | _ => simp [Go.Ev.frOb]
  rw [key, key, h]
theorem grown_of {w w' : World} (h1 : w'.os = w.os) (h2 : w'.output = w.output) (h3 : w.heap.size ≤ w'.heap.size) (h4 : ∀ b, b < w.heap.size → w'.heap[b]? = w.heap[b]?)
    (h5 : ∀ b : Nat, Go.Ev.frOb w'.heap[b]? = Go.Ev.frOb w.heap[b]?) : Grown w w' := by
  refine ⟨⟨h1, h2, fun i hi => ?_⟩, frozen_eq w w' h5, h3⟩
  rw [h4 i hi]
  cases w.heap[i]? with
  | none => rfl
  | some o => cases o with
    | cells c t fr => exact ⟨rfl, rfl, rfl, fun _ _ => rfl⟩
    | map es clock => exact .inr ⟨rfl, rfl⟩
    | _ => rfl

theorem own : ownKnob Try.prog.godebug = none := by kernel_rfl

/-! ### STEP 1: THE WALK: the Go text returns true. 'Grown w w'': the world has at most new blocks (Derived/RowKit3.lean). Part the cases AHEAD of 'go_enter' where a test parts the walk; take each callee by a contract of your own. -/
theorem walk  (w : World) :
    Calls Try.prog 3 #[] w fun e w' => e = .returned (.bool true) ∧ Grown w w' := by
  obtain ⟨H, n, e⟩ := P.isB_eq P.run_names
  refine (Go.Ev.calls_of_tower P.tab_ok e rfl w).mono ?_
  rintro en w' ⟨h1, h2, h3, h4, h5, h6, h7⟩
  exact ⟨h1, grown_of h2 h4 h5 h6 h7⟩

/-! ### THE ROW's STEP: WRITTEN OUT: LEAVE IT -/
set_option maxRecDepth 100000 in
theorem lifted (os : Os) (started : os.Started) (H : Type) (enc : TypeId × Value → H) :
    ReturnsInHanded {} Try.checked os 3 .any (Rows.preyNamesSpec.pre6 enc Try.prog Try.f3 Rows.preyNamesRow.domain false) (Rows.preyNamesSpec.post enc Try.prog Try.f3 false true false false) := by
  refine returnsInHanded_of_change (C := Try.checked) own started (by kernel_rfl) Try.func3
    (ChangeSpec.witness6 (enc := enc) (C := Try.checked) false ⟨#[], #[], []⟩ 8 (by kernel_rfl) (by kernel_rfl) (by kernel_rfl) (by kernel_rfl)) ?_
  intro W base args ds gs before hval0 hW hcnd _
  have hval : ∀ (j : Nat) t v, Try.f3.params[j]? = some t → args[j]? = some v → Value.okWide Try.prog W .any base t v := hval0
  have hW' := hW
  obtain ⟨p, q, hA0, hV, rfl, hfz, hnd⟩ := hW
  have hA : DataW.TrodAll enc Try.prog W 0 (fun _ => true) true Try.f3.params.toList args.toList ds p := hA0
  rw [Try.params3] at hA hval
  obtain ⟨rfl, rfl, rfl⟩ := trodAll_none hA
  obtain ⟨rfl, rfl⟩ := trodVars_none hV
  clear hA0 hval0
  simp only [List.append_nil] at hW'
  refine (walk  W).mono fun e W' ⟨he, hg⟩ => ?_
  subst he
  exact ⟨_, rfl, post_of_same (pa := []) (pv := []) hW' (fun _ _ _ => (trodAll_cons_mk (shut_bool Try.underlying4 _) trodAll_mk0)) (fun sp _ => rfl) (fun _ _ => rfl) rfl
    (hg.frame _) hg.2.1 (ok_one (by kernel_rfl) rfl (okWide_bool_mk Try.underlying4 _))⟩

theorem over : Rows.preyNamesRow.holds Try.pinned (OpenSpec.ofChange Rows.preyNamesSpec) :=
  OpenClaim.holds_of_wide 3 Try.f3 rfl rfl rfl rfl rfl rfl rfl ⟨rfl, rfl, rfl, rfl, rfl⟩ rfl rfl rfl rfl rfl (by kernel_rfl) Try.func3 (by kernel_rfl)
    (of_decide_eq_true (by kernel_rfl)) (by unfold Func.isWrapper; first | (rw [if_pos (by decide +kernel)]; kernel_rfl) | (rw [if_neg (by decide +kernel)]; exact ⟨rfl, rfl⟩))
    (fun os started H enc _ => lifted os started H enc)

/-- ████ THE STATEMENT ████ -/
theorem proved : Rows.PreyNamesSaid :=
  over
#print axioms proved
end Go.Proofs.Ytakjjillnllocab.preyNames
