import Derived.Test.YtakjjillnllocaaEv31
import Derived.ChangeSame
import Derived.ChangeOld
import Derived.ReadAgain
import Derived.RowKit3
namespace Go.Ev
open Go
variable {P : Program}
theorem frozen_same (w w' : World) (h : ∀ b : Nat, frOb w'.heap[b]? = frOb w.heap[b]?) (a : Addr) : w'.frozen? a = w.frozen? a := by
  have key : ∀ u : World, u.frozen? a = (decide ((frOb u.heap[a.block]?).1 ≤ a.off) && decide (a.off < (frOb u.heap[a.block]?).2)) := by
    intro u
    unfold World.frozen?
    cases u.heap[a.block]? with
    | none => simp [frOb]
    | some o =>
      cases o with
      | cells c t fr =>
        rw [Bool.eq_iff_iff]
        simp only [frOb, Bool.and_eq_true]
        exact ⟨fun ⟨a, b⟩ => ⟨decide_eq_true (of_decide_eq_true a), decide_eq_true (of_decide_eq_true b)⟩, fun ⟨a, b⟩ => ⟨decide_eq_true (of_decide_eq_true a), decide_eq_true (of_decide_eq_true b)⟩⟩
      | _ => simp [frOb]
  rw [key, key, h]
theorem grown_of {w w' : World} (h1 : w'.os = w.os) (h2 : w'.output = w.output) (h3 : w.heap.size ≤ w'.heap.size) (h4 : ∀ b, b < w.heap.size → w'.heap[b]? = w.heap[b]?)
    (h5 : ∀ b : Nat, frOb w'.heap[b]? = frOb w.heap[b]?) : RowKit.Grown w w' := by
  refine ⟨⟨h1, h2, fun i hi => ?_⟩, frozen_same w w' h5, h3⟩
  rw [h4 i hi]
  cases w.heap[i]? with
  | none => rfl
  | some o => cases o with
    | cells c t fr => exact ⟨rfl, rfl, rfl, fun _ _ => rfl⟩
    | map es clock => exact .inr ⟨rfl, rfl⟩
    | _ => rfl
theorem carryAll {H : Type} {enc : TypeId × Value → H} {w w' : World} {base : Nat} {sp : Nat → Bool} {held : Bool} (h4 : ∀ b, b < w.heap.size → w'.heap[b]? = w.heap[b]?) :
    ∀ {ts : List TypeId} {vs : List Value} {ds : List (DataW H)} {ps : List MemPlace}, DataW.TrodAll enc P w base sp held ts vs ds ps → DataW.TrodAll enc P w' base sp held ts vs ds ps
  | [], [], [], _, h => h
  | t :: ts, v :: vs, d :: ds, ps, h => by
    have hlt := DataW.TrodAll.lt h
    obtain ⟨p, q, ⟨n, hn⟩, h2, rfl⟩ := h
    refine ⟨p, q, ⟨n, DataW.trod_carry n t _ _ hn ?_⟩, carryAll h4 h2, rfl⟩
    intro x hx
    have := h4 x.block (hlt x (by simp [hx]))
    cases x with
    | cell b off => simp only [MemPlace.block] at this; simp [World.sameAt, World.cell?, this]
    | map b => simp only [MemPlace.block] at this; simp [World.sameAt, this]
end Go.Ev
