/-
  No cell of these rows narrows 'for every input' (looked for: loops, veiled, ifaces, maps, wideKeys, modest, calm, conditions, laid).
  DERIVED. THE GIVEN ROWS OF THIS SEAT. 12 by the template 'for every input the law returns true; each argument reads behind the call as it read before'; 0 by the template 'total and deterministic' (their statements: YtcjnaeimeilomaaGreatTotals.lean).
  GIVEN WITH THE SEED: the statements are not yours to turn. If you find one false, say at which input.
  Laid BY PROGRAM, IN A SANDBOX (cutbox-rows.mjs): the forced cells as the released guide's own fill.sh prints them over the translation 1b186353c9209c18… (all of the seat's roots in one cut). By AI agents, Wed Nov 11 2026. No macro, syntax, notation, axiom, sorry.
-/
import Derived.Test.YtcjnaeimeilomaaGreatChecked
import GoSem.Claim
import GoSem.ClaimJoined
import GoSem.ClaimMapViews
import Derived.JoinedTies
import Derived.KernelRfl
namespace Go.Proofs.YtcjnaeimeilomaaGreat
/- THE CELL 'sum', in the pinned program and in every row, IS THE sha256 OF THE DUMP (.gsa) THAT YtcjnaeimeilomaaGreatProg.lean LOADS. Nothing in Lean hashes anything: it is a label: what it is worth is what the hold of that sum in a sandbox is worth. -/
noncomputable def Tryz.pinned : Pinned := { name := "ytcjnaeimeilomaagreat", sum := "1b186353c9209c18c0994a415f98683f8b432bca32fd6ddad57247481e6962ba", checked := Tryz.checked }
namespace Rows
def none {H : Type} : Left H := { results := [], args := [] }

/-- 'nochezlaw03.PreyMays': WHATEVER THE INPUT: true; the input reads as it did. -/
def preyMaysSpec : ChangeSpec := { name := "preyMays", fn := fun _ => fun
  | [d1, d2] => { results := [.lit (.bool true)], args := [d1, d2] }
  | _ => none }
def preyMaysRow : OpenClaim := { program := "ytcjnaeimeilomaagreat", sum := "1b186353c9209c18c0994a415f98683f8b432bca32fd6ddad57247481e6962ba", func := "nochez/nochezlaw03.PreyMays", spec := "preyMays", unfollowed := true, recurses := true, plainKeys := false, apart := false }
def PreyMaysSaid : Prop := preyMaysRow.holds Tryz.pinned (OpenSpec.ofChange preyMaysSpec)

/-- ITS FALSE NEIGHBOUR: 'it returns false'. Refute it at one input. -/
def preyMaysWrong : ChangeSpec := { name := "preyMays", fn := fun _ => fun
  | [d1, d2] => { results := [.lit (.bool false)], args := [d1, d2] }
  | _ => none }
def PreyMaysWrongFalsely : Prop := preyMaysRow.holds Tryz.pinned (OpenSpec.ofChange preyMaysWrong)

/-- 'nochezlaw03.PreyLosses': WHATEVER THE INPUT: true; the input reads as it did. -/
def preyLossesSpec : ChangeSpec := { name := "preyLosses", fn := fun _ => fun
  | [d1, d2, d3, d4] => { results := [.lit (.bool true)], args := [d1, d2, d3, d4] }
  | _ => none }
def preyLossesRow : OpenClaim := { program := "ytcjnaeimeilomaagreat", sum := "1b186353c9209c18c0994a415f98683f8b432bca32fd6ddad57247481e6962ba", func := "nochez/nochezlaw03.PreyLosses", spec := "preyLosses", unfollowed := true, recurses := true, plainKeys := false, apart := false }
def PreyLossesSaid : Prop := preyLossesRow.holds Tryz.pinned (OpenSpec.ofChange preyLossesSpec)

/-- ITS FALSE NEIGHBOUR: 'it returns false'. Refute it at one input. -/
def preyLossesWrong : ChangeSpec := { name := "preyLosses", fn := fun _ => fun
  | [d1, d2, d3, d4] => { results := [.lit (.bool false)], args := [d1, d2, d3, d4] }
  | _ => none }
def PreyLossesWrongFalsely : Prop := preyLossesRow.holds Tryz.pinned (OpenSpec.ofChange preyLossesWrong)

/-- 'nochezlaw03.PreyHands': WHATEVER THE INPUT: true; the input reads as it did. -/
def preyHandsSpec : ChangeSpec := { name := "preyHands", fn := fun _ => fun
  | [d] => { results := [.lit (.bool true)], args := [d] }
  | _ => none }
def preyHandsRow : OpenClaim := { program := "ytcjnaeimeilomaagreat", sum := "1b186353c9209c18c0994a415f98683f8b432bca32fd6ddad57247481e6962ba", func := "nochez/nochezlaw03.PreyHands", spec := "preyHands", unfollowed := true, recurses := true, plainKeys := false, apart := false }
def PreyHandsSaid : Prop := preyHandsRow.holds Tryz.pinned (OpenSpec.ofChange preyHandsSpec)

/-- ITS FALSE NEIGHBOUR: 'it returns false'. Refute it at one input. -/
def preyHandsWrong : ChangeSpec := { name := "preyHands", fn := fun _ => fun
  | [d] => { results := [.lit (.bool false)], args := [d] }
  | _ => none }
def PreyHandsWrongFalsely : Prop := preyHandsRow.holds Tryz.pinned (OpenSpec.ofChange preyHandsWrong)

/-- 'nochezlaw03.PreyBests': WHATEVER THE INPUT: true; the input reads as it did. -/
def preyBestsSpec : ChangeSpec := { name := "preyBests", fn := fun _ => fun
  | [d1, d2, d3] => { results := [.lit (.bool true)], args := [d1, d2, d3] }
  | _ => none }
def preyBestsRow : OpenClaim := { program := "ytcjnaeimeilomaagreat", sum := "1b186353c9209c18c0994a415f98683f8b432bca32fd6ddad57247481e6962ba", func := "nochez/nochezlaw03.PreyBests", spec := "preyBests", unfollowed := true, recurses := true, plainKeys := false, apart := false }
def PreyBestsSaid : Prop := preyBestsRow.holds Tryz.pinned (OpenSpec.ofChange preyBestsSpec)

/-- ITS FALSE NEIGHBOUR: 'it returns false'. Refute it at one input. -/
def preyBestsWrong : ChangeSpec := { name := "preyBests", fn := fun _ => fun
  | [d1, d2, d3] => { results := [.lit (.bool false)], args := [d1, d2, d3] }
  | _ => none }
def PreyBestsWrongFalsely : Prop := preyBestsRow.holds Tryz.pinned (OpenSpec.ofChange preyBestsWrong)

/-- 'nochezlaw03.PreyEvery': WHATEVER THE INPUT: true; the input reads as it did. -/
def preyEverySpec : ChangeSpec := { name := "preyEvery", fn := fun _ => fun
  | [d1, d2, d3] => { results := [.lit (.bool true)], args := [d1, d2, d3] }
  | _ => none }
def preyEveryRow : OpenClaim := { program := "ytcjnaeimeilomaagreat", sum := "1b186353c9209c18c0994a415f98683f8b432bca32fd6ddad57247481e6962ba", func := "nochez/nochezlaw03.PreyEvery", spec := "preyEvery", unfollowed := true, recurses := true, plainKeys := false, apart := false }
def PreyEverySaid : Prop := preyEveryRow.holds Tryz.pinned (OpenSpec.ofChange preyEverySpec)

/-- ITS FALSE NEIGHBOUR: 'it returns false'. Refute it at one input. -/
def preyEveryWrong : ChangeSpec := { name := "preyEvery", fn := fun _ => fun
  | [d1, d2, d3] => { results := [.lit (.bool false)], args := [d1, d2, d3] }
  | _ => none }
def PreyEveryWrongFalsely : Prop := preyEveryRow.holds Tryz.pinned (OpenSpec.ofChange preyEveryWrong)

/-- 'nochezlaw03.PreyShorter': WHATEVER THE INPUT: true; the input reads as it did. -/
def preyShorterSpec : ChangeSpec := { name := "preyShorter", fn := fun _ => fun
  | [d1, d2, d3] => { results := [.lit (.bool true)], args := [d1, d2, d3] }
  | _ => none }
def preyShorterRow : OpenClaim := { program := "ytcjnaeimeilomaagreat", sum := "1b186353c9209c18c0994a415f98683f8b432bca32fd6ddad57247481e6962ba", func := "nochez/nochezlaw03.PreyShorter", spec := "preyShorter", unfollowed := true, recurses := true, plainKeys := false, apart := false }
def PreyShorterSaid : Prop := preyShorterRow.holds Tryz.pinned (OpenSpec.ofChange preyShorterSpec)

/-- ITS FALSE NEIGHBOUR: 'it returns false'. Refute it at one input. -/
def preyShorterWrong : ChangeSpec := { name := "preyShorter", fn := fun _ => fun
  | [d1, d2, d3] => { results := [.lit (.bool false)], args := [d1, d2, d3] }
  | _ => none }
def PreyShorterWrongFalsely : Prop := preyShorterRow.holds Tryz.pinned (OpenSpec.ofChange preyShorterWrong)

/-- 'nochezlaw03.PreyCheaper': WHATEVER THE INPUT: true; the input reads as it did. -/
def preyCheaperSpec : ChangeSpec := { name := "preyCheaper", fn := fun _ => fun
  | [d1, d2] => { results := [.lit (.bool true)], args := [d1, d2] }
  | _ => none }
def preyCheaperRow : OpenClaim := { program := "ytcjnaeimeilomaagreat", sum := "1b186353c9209c18c0994a415f98683f8b432bca32fd6ddad57247481e6962ba", func := "nochez/nochezlaw03.PreyCheaper", spec := "preyCheaper", unfollowed := true, recurses := true, plainKeys := false, apart := false }
def PreyCheaperSaid : Prop := preyCheaperRow.holds Tryz.pinned (OpenSpec.ofChange preyCheaperSpec)

/-- ITS FALSE NEIGHBOUR: 'it returns false'. Refute it at one input. -/
def preyCheaperWrong : ChangeSpec := { name := "preyCheaper", fn := fun _ => fun
  | [d1, d2] => { results := [.lit (.bool false)], args := [d1, d2] }
  | _ => none }
def PreyCheaperWrongFalsely : Prop := preyCheaperRow.holds Tryz.pinned (OpenSpec.ofChange preyCheaperWrong)

/-- 'nochezlaw03.PreyMore': WHATEVER THE INPUT: true; the input reads as it did. -/
def preyMoreSpec : ChangeSpec := { name := "preyMore", fn := fun _ => fun
  | [d1, d2, d3] => { results := [.lit (.bool true)], args := [d1, d2, d3] }
  | _ => none }
def preyMoreRow : OpenClaim := { program := "ytcjnaeimeilomaagreat", sum := "1b186353c9209c18c0994a415f98683f8b432bca32fd6ddad57247481e6962ba", func := "nochez/nochezlaw03.PreyMore", spec := "preyMore", unfollowed := true, recurses := true, plainKeys := false, apart := false }
def PreyMoreSaid : Prop := preyMoreRow.holds Tryz.pinned (OpenSpec.ofChange preyMoreSpec)

/-- ITS FALSE NEIGHBOUR: 'it returns false'. Refute it at one input. -/
def preyMoreWrong : ChangeSpec := { name := "preyMore", fn := fun _ => fun
  | [d1, d2, d3] => { results := [.lit (.bool false)], args := [d1, d2, d3] }
  | _ => none }
def PreyMoreWrongFalsely : Prop := preyMoreRow.holds Tryz.pinned (OpenSpec.ofChange preyMoreWrong)

/-- 'nochezlaw03.PreyMoths': WHATEVER THE INPUT: true; the input reads as it did. -/
def preyMothsSpec : ChangeSpec := { name := "preyMoths", fn := fun _ => fun
  | [d1, d2, d3] => { results := [.lit (.bool true)], args := [d1, d2, d3] }
  | _ => none }
def preyMothsRow : OpenClaim := { program := "ytcjnaeimeilomaagreat", sum := "1b186353c9209c18c0994a415f98683f8b432bca32fd6ddad57247481e6962ba", func := "nochez/nochezlaw03.PreyMoths", spec := "preyMoths", unfollowed := true, recurses := true, plainKeys := false, apart := false }
def PreyMothsSaid : Prop := preyMothsRow.holds Tryz.pinned (OpenSpec.ofChange preyMothsSpec)

/-- ITS FALSE NEIGHBOUR: 'it returns false'. Refute it at one input. -/
def preyMothsWrong : ChangeSpec := { name := "preyMoths", fn := fun _ => fun
  | [d1, d2, d3] => { results := [.lit (.bool false)], args := [d1, d2, d3] }
  | _ => none }
def PreyMothsWrongFalsely : Prop := preyMothsRow.holds Tryz.pinned (OpenSpec.ofChange preyMothsWrong)

/-- 'nochezlaw03.PreyPicked': WHATEVER THE INPUT: true; the input reads as it did. -/
def preyPickedSpec : ChangeSpec := { name := "preyPicked", fn := fun _ => fun
  | [d1, d2, d3, d4] => { results := [.lit (.bool true)], args := [d1, d2, d3, d4] }
  | _ => none }
def preyPickedRow : OpenClaim := { program := "ytcjnaeimeilomaagreat", sum := "1b186353c9209c18c0994a415f98683f8b432bca32fd6ddad57247481e6962ba", func := "nochez/nochezlaw03.PreyPicked", spec := "preyPicked", unfollowed := true, recurses := true, plainKeys := false, apart := false }
def PreyPickedSaid : Prop := preyPickedRow.holds Tryz.pinned (OpenSpec.ofChange preyPickedSpec)

/-- ITS FALSE NEIGHBOUR: 'it returns false'. Refute it at one input. -/
def preyPickedWrong : ChangeSpec := { name := "preyPicked", fn := fun _ => fun
  | [d1, d2, d3, d4] => { results := [.lit (.bool false)], args := [d1, d2, d3, d4] }
  | _ => none }
def PreyPickedWrongFalsely : Prop := preyPickedRow.holds Tryz.pinned (OpenSpec.ofChange preyPickedWrong)

/-- 'nochezlaw03.PreyJoined': WHATEVER THE INPUT: true; the input reads as it did. -/
def preyJoinedSpec : ChangeSpec := { name := "preyJoined", fn := fun _ => fun
  | [d1, d2, d3] => { results := [.lit (.bool true)], args := [d1, d2, d3] }
  | _ => none }
def preyJoinedRow : OpenClaim := { program := "ytcjnaeimeilomaagreat", sum := "1b186353c9209c18c0994a415f98683f8b432bca32fd6ddad57247481e6962ba", func := "nochez/nochezlaw03.PreyJoined", spec := "preyJoined", unfollowed := true, recurses := true, plainKeys := false, apart := false }
def PreyJoinedSaid : Prop := preyJoinedRow.holds Tryz.pinned (OpenSpec.ofChange preyJoinedSpec)

/-- ITS FALSE NEIGHBOUR: 'it returns false'. Refute it at one input. -/
def preyJoinedWrong : ChangeSpec := { name := "preyJoined", fn := fun _ => fun
  | [d1, d2, d3] => { results := [.lit (.bool false)], args := [d1, d2, d3] }
  | _ => none }
def PreyJoinedWrongFalsely : Prop := preyJoinedRow.holds Tryz.pinned (OpenSpec.ofChange preyJoinedWrong)

/-- 'nochezlaw03.PreyParts': WHATEVER THE INPUT: true; the input reads as it did. -/
def preyPartsSpec : ChangeSpec := { name := "preyParts", fn := fun _ => fun
  | [d1, d2, d3] => { results := [.lit (.bool true)], args := [d1, d2, d3] }
  | _ => none }
def preyPartsRow : OpenClaim := { program := "ytcjnaeimeilomaagreat", sum := "1b186353c9209c18c0994a415f98683f8b432bca32fd6ddad57247481e6962ba", func := "nochez/nochezlaw03.PreyParts", spec := "preyParts", unfollowed := true, recurses := true, plainKeys := false, apart := false }
def PreyPartsSaid : Prop := preyPartsRow.holds Tryz.pinned (OpenSpec.ofChange preyPartsSpec)

/-- ITS FALSE NEIGHBOUR: 'it returns false'. Refute it at one input. -/
def preyPartsWrong : ChangeSpec := { name := "preyParts", fn := fun _ => fun
  | [d1, d2, d3] => { results := [.lit (.bool false)], args := [d1, d2, d3] }
  | _ => none }
def PreyPartsWrongFalsely : Prop := preyPartsRow.holds Tryz.pinned (OpenSpec.ofChange preyPartsWrong)

/- THE SECOND FORM. 'bulk': how many values and letters a reading holds, each counted each time it is reached (what is shared counts as often as it is met; a slice's spare places count too). A statement '..UptoSaid' is the law's where the arguments, and the package variables that the reading takes, are together of bulk at most 1048576: NARROWER than '..Said'. Prove '..Said' where nothing that the law and all that it calls make is longer than what came in: it says more and counts as full. Else prove '..UptoSaid'. A law counts once. -/
mutual
def uptoBulk {H : Type} : DataW H → Nat
  | .lit (.string bytes) => bytes.length + 1
  | .lit _ => 1
  | .nil => 1
  | .ptr d => uptoBulk d + 1
  | .slice elems spare => uptoBulkAll elems + uptoBulkAll spare + 1
  | .agg parts => uptoBulkAll parts + 1
  | .iface _ d => uptoBulk d + 1
  | .map entries => uptoBulkEntries entries + 1
  | .held _ => 1
def uptoBulkAll {H : Type} : List (DataW H) → Nat
  | [] => 0
  | d :: r => uptoBulk d + uptoBulkAll r
def uptoBulkEntries {H : Type} : List (Lit × DataW H) → Nat
  | [] => 0
  | x :: r => uptoBulkEntry x + uptoBulkEntries r
def uptoBulkEntry {H : Type} : Lit × DataW H → Nat
  | (.string bytes, d) => bytes.length + uptoBulk d + 1
  | (_, d) => uptoBulk d + 1
 end
def uptoSmall : (H : Type) → List (DataW H) → Bool := fun _ ds => decide (uptoBulkAll ds ≤ 1048576)
def OpenSpec.upto (s : _root_.Go.ChangeSpec) : _root_.Go.OpenSpec := { _root_.Go.OpenSpec.ofChange s with cond := some uptoSmall }

/-- 'nochezlaw03.PreyMays', WHERE WHAT IT READS IS OF BULK AT MOST 1048576: true; the input reads as it did. -/
def preyMaysUptoRow : OpenClaim := { program := "ytcjnaeimeilomaagreat", sum := "1b186353c9209c18c0994a415f98683f8b432bca32fd6ddad57247481e6962ba", func := "nochez/nochezlaw03.PreyMays", spec := "preyMays", unfollowed := true, recurses := true, plainKeys := false, apart := false, narrowed := true }
def PreyMaysUptoSaid : Prop := preyMaysUptoRow.holds Tryz.pinned (OpenSpec.upto preyMaysSpec)

/-- 'nochezlaw03.PreyLosses', WHERE WHAT IT READS IS OF BULK AT MOST 1048576: true; the input reads as it did. -/
def preyLossesUptoRow : OpenClaim := { program := "ytcjnaeimeilomaagreat", sum := "1b186353c9209c18c0994a415f98683f8b432bca32fd6ddad57247481e6962ba", func := "nochez/nochezlaw03.PreyLosses", spec := "preyLosses", unfollowed := true, recurses := true, plainKeys := false, apart := false, narrowed := true }
def PreyLossesUptoSaid : Prop := preyLossesUptoRow.holds Tryz.pinned (OpenSpec.upto preyLossesSpec)

/-- 'nochezlaw03.PreyHands', WHERE WHAT IT READS IS OF BULK AT MOST 1048576: true; the input reads as it did. -/
def preyHandsUptoRow : OpenClaim := { program := "ytcjnaeimeilomaagreat", sum := "1b186353c9209c18c0994a415f98683f8b432bca32fd6ddad57247481e6962ba", func := "nochez/nochezlaw03.PreyHands", spec := "preyHands", unfollowed := true, recurses := true, plainKeys := false, apart := false, narrowed := true }
def PreyHandsUptoSaid : Prop := preyHandsUptoRow.holds Tryz.pinned (OpenSpec.upto preyHandsSpec)

/-- 'nochezlaw03.PreyBests', WHERE WHAT IT READS IS OF BULK AT MOST 1048576: true; the input reads as it did. -/
def preyBestsUptoRow : OpenClaim := { program := "ytcjnaeimeilomaagreat", sum := "1b186353c9209c18c0994a415f98683f8b432bca32fd6ddad57247481e6962ba", func := "nochez/nochezlaw03.PreyBests", spec := "preyBests", unfollowed := true, recurses := true, plainKeys := false, apart := false, narrowed := true }
def PreyBestsUptoSaid : Prop := preyBestsUptoRow.holds Tryz.pinned (OpenSpec.upto preyBestsSpec)

/-- 'nochezlaw03.PreyEvery', WHERE WHAT IT READS IS OF BULK AT MOST 1048576: true; the input reads as it did. -/
def preyEveryUptoRow : OpenClaim := { program := "ytcjnaeimeilomaagreat", sum := "1b186353c9209c18c0994a415f98683f8b432bca32fd6ddad57247481e6962ba", func := "nochez/nochezlaw03.PreyEvery", spec := "preyEvery", unfollowed := true, recurses := true, plainKeys := false, apart := false, narrowed := true }
def PreyEveryUptoSaid : Prop := preyEveryUptoRow.holds Tryz.pinned (OpenSpec.upto preyEverySpec)

/-- 'nochezlaw03.PreyShorter', WHERE WHAT IT READS IS OF BULK AT MOST 1048576: true; the input reads as it did. -/
def preyShorterUptoRow : OpenClaim := { program := "ytcjnaeimeilomaagreat", sum := "1b186353c9209c18c0994a415f98683f8b432bca32fd6ddad57247481e6962ba", func := "nochez/nochezlaw03.PreyShorter", spec := "preyShorter", unfollowed := true, recurses := true, plainKeys := false, apart := false, narrowed := true }
def PreyShorterUptoSaid : Prop := preyShorterUptoRow.holds Tryz.pinned (OpenSpec.upto preyShorterSpec)

/-- 'nochezlaw03.PreyCheaper', WHERE WHAT IT READS IS OF BULK AT MOST 1048576: true; the input reads as it did. -/
def preyCheaperUptoRow : OpenClaim := { program := "ytcjnaeimeilomaagreat", sum := "1b186353c9209c18c0994a415f98683f8b432bca32fd6ddad57247481e6962ba", func := "nochez/nochezlaw03.PreyCheaper", spec := "preyCheaper", unfollowed := true, recurses := true, plainKeys := false, apart := false, narrowed := true }
def PreyCheaperUptoSaid : Prop := preyCheaperUptoRow.holds Tryz.pinned (OpenSpec.upto preyCheaperSpec)

/-- 'nochezlaw03.PreyMore', WHERE WHAT IT READS IS OF BULK AT MOST 1048576: true; the input reads as it did. -/
def preyMoreUptoRow : OpenClaim := { program := "ytcjnaeimeilomaagreat", sum := "1b186353c9209c18c0994a415f98683f8b432bca32fd6ddad57247481e6962ba", func := "nochez/nochezlaw03.PreyMore", spec := "preyMore", unfollowed := true, recurses := true, plainKeys := false, apart := false, narrowed := true }
def PreyMoreUptoSaid : Prop := preyMoreUptoRow.holds Tryz.pinned (OpenSpec.upto preyMoreSpec)

/-- 'nochezlaw03.PreyMoths', WHERE WHAT IT READS IS OF BULK AT MOST 1048576: true; the input reads as it did. -/
def preyMothsUptoRow : OpenClaim := { program := "ytcjnaeimeilomaagreat", sum := "1b186353c9209c18c0994a415f98683f8b432bca32fd6ddad57247481e6962ba", func := "nochez/nochezlaw03.PreyMoths", spec := "preyMoths", unfollowed := true, recurses := true, plainKeys := false, apart := false, narrowed := true }
def PreyMothsUptoSaid : Prop := preyMothsUptoRow.holds Tryz.pinned (OpenSpec.upto preyMothsSpec)

/-- 'nochezlaw03.PreyPicked', WHERE WHAT IT READS IS OF BULK AT MOST 1048576: true; the input reads as it did. -/
def preyPickedUptoRow : OpenClaim := { program := "ytcjnaeimeilomaagreat", sum := "1b186353c9209c18c0994a415f98683f8b432bca32fd6ddad57247481e6962ba", func := "nochez/nochezlaw03.PreyPicked", spec := "preyPicked", unfollowed := true, recurses := true, plainKeys := false, apart := false, narrowed := true }
def PreyPickedUptoSaid : Prop := preyPickedUptoRow.holds Tryz.pinned (OpenSpec.upto preyPickedSpec)

/-- 'nochezlaw03.PreyJoined', WHERE WHAT IT READS IS OF BULK AT MOST 1048576: true; the input reads as it did. -/
def preyJoinedUptoRow : OpenClaim := { program := "ytcjnaeimeilomaagreat", sum := "1b186353c9209c18c0994a415f98683f8b432bca32fd6ddad57247481e6962ba", func := "nochez/nochezlaw03.PreyJoined", spec := "preyJoined", unfollowed := true, recurses := true, plainKeys := false, apart := false, narrowed := true }
def PreyJoinedUptoSaid : Prop := preyJoinedUptoRow.holds Tryz.pinned (OpenSpec.upto preyJoinedSpec)

/-- 'nochezlaw03.PreyParts', WHERE WHAT IT READS IS OF BULK AT MOST 1048576: true; the input reads as it did. -/
def preyPartsUptoRow : OpenClaim := { program := "ytcjnaeimeilomaagreat", sum := "1b186353c9209c18c0994a415f98683f8b432bca32fd6ddad57247481e6962ba", func := "nochez/nochezlaw03.PreyParts", spec := "preyParts", unfollowed := true, recurses := true, plainKeys := false, apart := false, narrowed := true }
def PreyPartsUptoSaid : Prop := preyPartsUptoRow.holds Tryz.pinned (OpenSpec.upto preyPartsSpec)

end Rows
end Go.Proofs.YtcjnaeimeilomaaGreat
