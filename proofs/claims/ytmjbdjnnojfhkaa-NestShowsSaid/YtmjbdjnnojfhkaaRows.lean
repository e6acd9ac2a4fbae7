/-
  No cell of these rows narrows 'for every input' (looked for: loops, veiled, ifaces, maps, wideKeys, modest, calm, conditions, laid).
  DERIVED. THE GIVEN ROWS OF THIS SEAT. 12 by the template 'for every input the law returns true; each argument reads behind the call as it read before'; 0 by the template 'total and deterministic' (their statements: YtmjbdjnnojfhkaaTotals.lean).
  GIVEN WITH THE SEED: the statements are not yours to turn. If you find one false, say at which input.
  Laid BY PROGRAM, IN A SANDBOX (cutbox-rows.mjs): the forced cells as the released guide's own fill.sh prints them over the translation 6e4979740ebe2e0c… (all of the seat's roots in one cut). By AI agents, Wed Nov 11 2026. No macro, syntax, notation, axiom, sorry.
-/
import Derived.Test.YtmjbdjnnojfhkaaChecked
import GoSem.Claim
import GoSem.ClaimJoined
import GoSem.ClaimMapViews
import Derived.JoinedTies
import Derived.KernelRfl
namespace Go.Proofs.Ytmjbdjnnojfhkaa
/- THE CELL 'sum', in the pinned program and in every row, IS THE sha256 OF THE DUMP (.gsa) THAT YtmjbdjnnojfhkaaProg.lean LOADS. Nothing in Lean hashes anything: it is a label: what it is worth is what the hold of that sum in a sandbox is worth. -/
noncomputable def Try.pinned : Pinned := { name := "ytmjbdjnnojfhkaa", sum := "6e4979740ebe2e0c5c6a6704b701ac91fc0d6f22ff4a8efd4ac29df5c0c3b725", checked := Try.checked }
namespace Rows
def none {H : Type} : Left H := { results := [], args := [] }

/-- 'nochezlaw01.NestFits': WHATEVER THE INPUT: true; the input reads as it did. -/
def nestFitsSpec : ChangeSpec := { name := "nestFits", fn := fun _ => fun
  | [d] => { results := [.lit (.bool true)], args := [d] }
  | _ => none }
def nestFitsRow : OpenClaim := { program := "ytmjbdjnnojfhkaa", sum := "6e4979740ebe2e0c5c6a6704b701ac91fc0d6f22ff4a8efd4ac29df5c0c3b725", func := "nochez/nochezlaw01.NestFits", spec := "nestFits", unfollowed := true, recurses := true, plainKeys := false, apart := false }
def NestFitsSaid : Prop := nestFitsRow.holds Try.pinned (OpenSpec.ofChange nestFitsSpec)

/-- ITS FALSE NEIGHBOUR: 'it returns false'. Refute it at one input. -/
def nestFitsWrong : ChangeSpec := { name := "nestFits", fn := fun _ => fun
  | [d] => { results := [.lit (.bool false)], args := [d] }
  | _ => none }
def NestFitsWrongFalsely : Prop := nestFitsRow.holds Try.pinned (OpenSpec.ofChange nestFitsWrong)

/-- 'nochezlaw01.NestBounds': WHATEVER THE INPUT: true; the input reads as it did. -/
def nestBoundsSpec : ChangeSpec := { name := "nestBounds", fn := fun _ => fun
  | [d1, d2] => { results := [.lit (.bool true)], args := [d1, d2] }
  | _ => none }
def nestBoundsRow : OpenClaim := { program := "ytmjbdjnnojfhkaa", sum := "6e4979740ebe2e0c5c6a6704b701ac91fc0d6f22ff4a8efd4ac29df5c0c3b725", func := "nochez/nochezlaw01.NestBounds", spec := "nestBounds", unfollowed := true, recurses := true, plainKeys := false, apart := false }
def NestBoundsSaid : Prop := nestBoundsRow.holds Try.pinned (OpenSpec.ofChange nestBoundsSpec)

/-- ITS FALSE NEIGHBOUR: 'it returns false'. Refute it at one input. -/
def nestBoundsWrong : ChangeSpec := { name := "nestBounds", fn := fun _ => fun
  | [d1, d2] => { results := [.lit (.bool false)], args := [d1, d2] }
  | _ => none }
def NestBoundsWrongFalsely : Prop := nestBoundsRow.holds Try.pinned (OpenSpec.ofChange nestBoundsWrong)

/-- 'nochezlaw01.NestWorsts': WHATEVER THE INPUT: true; the input reads as it did. -/
def nestWorstsSpec : ChangeSpec := { name := "nestWorsts", fn := fun _ => fun
  | [d1, d2, d3, d4] => { results := [.lit (.bool true)], args := [d1, d2, d3, d4] }
  | _ => none }
def nestWorstsRow : OpenClaim := { program := "ytmjbdjnnojfhkaa", sum := "6e4979740ebe2e0c5c6a6704b701ac91fc0d6f22ff4a8efd4ac29df5c0c3b725", func := "nochez/nochezlaw01.NestWorsts", spec := "nestWorsts", unfollowed := true, recurses := true, plainKeys := false, apart := false }
def NestWorstsSaid : Prop := nestWorstsRow.holds Try.pinned (OpenSpec.ofChange nestWorstsSpec)

/-- ITS FALSE NEIGHBOUR: 'it returns false'. Refute it at one input. -/
def nestWorstsWrong : ChangeSpec := { name := "nestWorsts", fn := fun _ => fun
  | [d1, d2, d3, d4] => { results := [.lit (.bool false)], args := [d1, d2, d3, d4] }
  | _ => none }
def NestWorstsWrongFalsely : Prop := nestWorstsRow.holds Try.pinned (OpenSpec.ofChange nestWorstsWrong)

/-- 'nochezlaw01.NestShows': WHATEVER THE INPUT: true; the input reads as it did. -/
def nestShowsSpec : ChangeSpec := { name := "nestShows", fn := fun _ => fun
  | [d1, d2, d3] => { results := [.lit (.bool true)], args := [d1, d2, d3] }
  | _ => none }
def nestShowsRow : OpenClaim := { program := "ytmjbdjnnojfhkaa", sum := "6e4979740ebe2e0c5c6a6704b701ac91fc0d6f22ff4a8efd4ac29df5c0c3b725", func := "nochez/nochezlaw01.NestShows", spec := "nestShows", unfollowed := true, recurses := true, plainKeys := false, apart := false }
def NestShowsSaid : Prop := nestShowsRow.holds Try.pinned (OpenSpec.ofChange nestShowsSpec)

/-- ITS FALSE NEIGHBOUR: 'it returns false'. Refute it at one input. -/
def nestShowsWrong : ChangeSpec := { name := "nestShows", fn := fun _ => fun
  | [d1, d2, d3] => { results := [.lit (.bool false)], args := [d1, d2, d3] }
  | _ => none }
def NestShowsWrongFalsely : Prop := nestShowsRow.holds Try.pinned (OpenSpec.ofChange nestShowsWrong)

/-- 'nochezlaw01.NestBests': WHATEVER THE INPUT: true; the input reads as it did. -/
def nestBestsSpec : ChangeSpec := { name := "nestBests", fn := fun _ => fun
  | [d1, d2, d3] => { results := [.lit (.bool true)], args := [d1, d2, d3] }
  | _ => none }
def nestBestsRow : OpenClaim := { program := "ytmjbdjnnojfhkaa", sum := "6e4979740ebe2e0c5c6a6704b701ac91fc0d6f22ff4a8efd4ac29df5c0c3b725", func := "nochez/nochezlaw01.NestBests", spec := "nestBests", unfollowed := true, recurses := true, plainKeys := false, apart := false }
def NestBestsSaid : Prop := nestBestsRow.holds Try.pinned (OpenSpec.ofChange nestBestsSpec)

/-- ITS FALSE NEIGHBOUR: 'it returns false'. Refute it at one input. -/
def nestBestsWrong : ChangeSpec := { name := "nestBests", fn := fun _ => fun
  | [d1, d2, d3] => { results := [.lit (.bool false)], args := [d1, d2, d3] }
  | _ => none }
def NestBestsWrongFalsely : Prop := nestBestsRow.holds Try.pinned (OpenSpec.ofChange nestBestsWrong)

/-- 'nochezlaw01.NestSpares': WHATEVER THE INPUT: true; the input reads as it did. -/
def nestSparesSpec : ChangeSpec := { name := "nestSpares", fn := fun _ => fun
  | [d1, d2] => { results := [.lit (.bool true)], args := [d1, d2] }
  | _ => none }
def nestSparesRow : OpenClaim := { program := "ytmjbdjnnojfhkaa", sum := "6e4979740ebe2e0c5c6a6704b701ac91fc0d6f22ff4a8efd4ac29df5c0c3b725", func := "nochez/nochezlaw01.NestSpares", spec := "nestSpares", unfollowed := true, recurses := true, plainKeys := false, apart := false }
def NestSparesSaid : Prop := nestSparesRow.holds Try.pinned (OpenSpec.ofChange nestSparesSpec)

/-- ITS FALSE NEIGHBOUR: 'it returns false'. Refute it at one input. -/
def nestSparesWrong : ChangeSpec := { name := "nestSpares", fn := fun _ => fun
  | [d1, d2] => { results := [.lit (.bool false)], args := [d1, d2] }
  | _ => none }
def NestSparesWrongFalsely : Prop := nestSparesRow.holds Try.pinned (OpenSpec.ofChange nestSparesWrong)

/-- 'nochezlaw01.NestParts': WHATEVER THE INPUT: true; the input reads as it did. -/
def nestPartsSpec : ChangeSpec := { name := "nestParts", fn := fun _ => fun
  | [d1, d2] => { results := [.lit (.bool true)], args := [d1, d2] }
  | _ => none }
def nestPartsRow : OpenClaim := { program := "ytmjbdjnnojfhkaa", sum := "6e4979740ebe2e0c5c6a6704b701ac91fc0d6f22ff4a8efd4ac29df5c0c3b725", func := "nochez/nochezlaw01.NestParts", spec := "nestParts", unfollowed := true, recurses := true, plainKeys := false, apart := false }
def NestPartsSaid : Prop := nestPartsRow.holds Try.pinned (OpenSpec.ofChange nestPartsSpec)

/-- ITS FALSE NEIGHBOUR: 'it returns false'. Refute it at one input. -/
def nestPartsWrong : ChangeSpec := { name := "nestParts", fn := fun _ => fun
  | [d1, d2] => { results := [.lit (.bool false)], args := [d1, d2] }
  | _ => none }
def NestPartsWrongFalsely : Prop := nestPartsRow.holds Try.pinned (OpenSpec.ofChange nestPartsWrong)

/-- 'nochezlaw01.NestNames': WHATEVER THE INPUT: true; the input reads as it did. -/
def nestNamesSpec : ChangeSpec := { name := "nestNames", fn := fun _ => fun
  | [] => { results := [.lit (.bool true)], args := [] }
  | _ => none }
def nestNamesRow : OpenClaim := { program := "ytmjbdjnnojfhkaa", sum := "6e4979740ebe2e0c5c6a6704b701ac91fc0d6f22ff4a8efd4ac29df5c0c3b725", func := "nochez/nochezlaw01.NestNames", spec := "nestNames", unfollowed := true, recurses := true, plainKeys := false, apart := false }
def NestNamesSaid : Prop := nestNamesRow.holds Try.pinned (OpenSpec.ofChange nestNamesSpec)

/-- ITS FALSE NEIGHBOUR: 'it returns false'. Refute it at one input. -/
def nestNamesWrong : ChangeSpec := { name := "nestNames", fn := fun _ => fun
  | [] => { results := [.lit (.bool false)], args := [] }
  | _ => none }
def NestNamesWrongFalsely : Prop := nestNamesRow.holds Try.pinned (OpenSpec.ofChange nestNamesWrong)

/-- 'nochezlaw01.NestEvery': WHATEVER THE INPUT: true; the input reads as it did. -/
def nestEverySpec : ChangeSpec := { name := "nestEvery", fn := fun _ => fun
  | [d1, d2, d3] => { results := [.lit (.bool true)], args := [d1, d2, d3] }
  | _ => none }
def nestEveryRow : OpenClaim := { program := "ytmjbdjnnojfhkaa", sum := "6e4979740ebe2e0c5c6a6704b701ac91fc0d6f22ff4a8efd4ac29df5c0c3b725", func := "nochez/nochezlaw01.NestEvery", spec := "nestEvery", unfollowed := true, recurses := true, plainKeys := false, apart := false }
def NestEverySaid : Prop := nestEveryRow.holds Try.pinned (OpenSpec.ofChange nestEverySpec)

/-- ITS FALSE NEIGHBOUR: 'it returns false'. Refute it at one input. -/
def nestEveryWrong : ChangeSpec := { name := "nestEvery", fn := fun _ => fun
  | [d1, d2, d3] => { results := [.lit (.bool false)], args := [d1, d2, d3] }
  | _ => none }
def NestEveryWrongFalsely : Prop := nestEveryRow.holds Try.pinned (OpenSpec.ofChange nestEveryWrong)

/-- 'nochezlaw01.NestFewer': WHATEVER THE INPUT: true; the input reads as it did. -/
def nestFewerSpec : ChangeSpec := { name := "nestFewer", fn := fun _ => fun
  | [d1, d2, d3] => { results := [.lit (.bool true)], args := [d1, d2, d3] }
  | _ => none }
def nestFewerRow : OpenClaim := { program := "ytmjbdjnnojfhkaa", sum := "6e4979740ebe2e0c5c6a6704b701ac91fc0d6f22ff4a8efd4ac29df5c0c3b725", func := "nochez/nochezlaw01.NestFewer", spec := "nestFewer", unfollowed := true, recurses := true, plainKeys := false, apart := false }
def NestFewerSaid : Prop := nestFewerRow.holds Try.pinned (OpenSpec.ofChange nestFewerSpec)

/-- ITS FALSE NEIGHBOUR: 'it returns false'. Refute it at one input. -/
def nestFewerWrong : ChangeSpec := { name := "nestFewer", fn := fun _ => fun
  | [d1, d2, d3] => { results := [.lit (.bool false)], args := [d1, d2, d3] }
  | _ => none }
def NestFewerWrongFalsely : Prop := nestFewerRow.holds Try.pinned (OpenSpec.ofChange nestFewerWrong)

/-- 'nochezlaw01.NestMore': WHATEVER THE INPUT: true; the input reads as it did. -/
def nestMoreSpec : ChangeSpec := { name := "nestMore", fn := fun _ => fun
  | [d1, d2, d3, d4] => { results := [.lit (.bool true)], args := [d1, d2, d3, d4] }
  | _ => none }
def nestMoreRow : OpenClaim := { program := "ytmjbdjnnojfhkaa", sum := "6e4979740ebe2e0c5c6a6704b701ac91fc0d6f22ff4a8efd4ac29df5c0c3b725", func := "nochez/nochezlaw01.NestMore", spec := "nestMore", unfollowed := true, recurses := true, plainKeys := false, apart := false }
def NestMoreSaid : Prop := nestMoreRow.holds Try.pinned (OpenSpec.ofChange nestMoreSpec)

/-- ITS FALSE NEIGHBOUR: 'it returns false'. Refute it at one input. -/
def nestMoreWrong : ChangeSpec := { name := "nestMore", fn := fun _ => fun
  | [d1, d2, d3, d4] => { results := [.lit (.bool false)], args := [d1, d2, d3, d4] }
  | _ => none }
def NestMoreWrongFalsely : Prop := nestMoreRow.holds Try.pinned (OpenSpec.ofChange nestMoreWrong)

/-- 'nochezlaw01.NestGood': WHATEVER THE INPUT: true; the input reads as it did. -/
def nestGoodSpec : ChangeSpec := { name := "nestGood", fn := fun _ => fun
  | [d1, d2] => { results := [.lit (.bool true)], args := [d1, d2] }
  | _ => none }
def nestGoodRow : OpenClaim := { program := "ytmjbdjnnojfhkaa", sum := "6e4979740ebe2e0c5c6a6704b701ac91fc0d6f22ff4a8efd4ac29df5c0c3b725", func := "nochez/nochezlaw01.NestGood", spec := "nestGood", unfollowed := true, recurses := true, plainKeys := false, apart := false }
def NestGoodSaid : Prop := nestGoodRow.holds Try.pinned (OpenSpec.ofChange nestGoodSpec)

/-- ITS FALSE NEIGHBOUR: 'it returns false'. Refute it at one input. -/
def nestGoodWrong : ChangeSpec := { name := "nestGood", fn := fun _ => fun
  | [d1, d2] => { results := [.lit (.bool false)], args := [d1, d2] }
  | _ => none }
def NestGoodWrongFalsely : Prop := nestGoodRow.holds Try.pinned (OpenSpec.ofChange nestGoodWrong)

/- THE SECOND FORM. 'bulk': how many values and letters a reading holds, each counted each time it is reached (what is shared counts as often as it is met; a slice's spare places count too). A statement '..UptoSaid' is the law's where the arguments, and the package variables that the reading takes, are together of bulk at most 1048576: NARROWER than '..Said'. Prove '..Said' where nothing that the law and all that it calls make is longer than what came in: it says more and counts as full. Else prove '..UptoSaid'. A law counts once. -/
mutual
def uptoBulk {H : Type} : DataW H → Nat
  | .lit (.string bytes) => bytes.length + 1
  | .lit _ => 1
  | .nil => 1
  | .ptr d => uptoBulk d + 1
  | .slice elems spare => uptoBulkAll elems + uptoBulkAll spare + 1
  | .agg parts => uptoBulkAll parts + 1
  | .iface _ d => uptoBulk d + 1
  | .map entries => uptoBulkEntries entries + 1
  | .held _ => 1
def uptoBulkAll {H : Type} : List (DataW H) → Nat
  | [] => 0
  | d :: r => uptoBulk d + uptoBulkAll r
def uptoBulkEntries {H : Type} : List (Lit × DataW H) → Nat
  | [] => 0
  | x :: r => uptoBulkEntry x + uptoBulkEntries r
def uptoBulkEntry {H : Type} : Lit × DataW H → Nat
  | (.string bytes, d) => bytes.length + uptoBulk d + 1
  | (_, d) => uptoBulk d + 1
 end
def uptoSmall : (H : Type) → List (DataW H) → Bool := fun _ ds => decide (uptoBulkAll ds ≤ 1048576)
def OpenSpec.upto (s : _root_.Go.ChangeSpec) : _root_.Go.OpenSpec := { _root_.Go.OpenSpec.ofChange s with cond := some uptoSmall }

/-- 'nochezlaw01.NestFits', WHERE WHAT IT READS IS OF BULK AT MOST 1048576: true; the input reads as it did. -/
def nestFitsUptoRow : OpenClaim := { program := "ytmjbdjnnojfhkaa", sum := "6e4979740ebe2e0c5c6a6704b701ac91fc0d6f22ff4a8efd4ac29df5c0c3b725", func := "nochez/nochezlaw01.NestFits", spec := "nestFits", unfollowed := true, recurses := true, plainKeys := false, apart := false, narrowed := true }
def NestFitsUptoSaid : Prop := nestFitsUptoRow.holds Try.pinned (OpenSpec.upto nestFitsSpec)

/-- 'nochezlaw01.NestBounds', WHERE WHAT IT READS IS OF BULK AT MOST 1048576: true; the input reads as it did. -/
def nestBoundsUptoRow : OpenClaim := { program := "ytmjbdjnnojfhkaa", sum := "6e4979740ebe2e0c5c6a6704b701ac91fc0d6f22ff4a8efd4ac29df5c0c3b725", func := "nochez/nochezlaw01.NestBounds", spec := "nestBounds", unfollowed := true, recurses := true, plainKeys := false, apart := false, narrowed := true }
def NestBoundsUptoSaid : Prop := nestBoundsUptoRow.holds Try.pinned (OpenSpec.upto nestBoundsSpec)

/-- 'nochezlaw01.NestWorsts', WHERE WHAT IT READS IS OF BULK AT MOST 1048576: true; the input reads as it did. -/
def nestWorstsUptoRow : OpenClaim := { program := "ytmjbdjnnojfhkaa", sum := "6e4979740ebe2e0c5c6a6704b701ac91fc0d6f22ff4a8efd4ac29df5c0c3b725", func := "nochez/nochezlaw01.NestWorsts", spec := "nestWorsts", unfollowed := true, recurses := true, plainKeys := false, apart := false, narrowed := true }
def NestWorstsUptoSaid : Prop := nestWorstsUptoRow.holds Try.pinned (OpenSpec.upto nestWorstsSpec)

/-- 'nochezlaw01.NestShows', WHERE WHAT IT READS IS OF BULK AT MOST 1048576: true; the input reads as it did. -/
def nestShowsUptoRow : OpenClaim := { program := "ytmjbdjnnojfhkaa", sum := "6e4979740ebe2e0c5c6a6704b701ac91fc0d6f22ff4a8efd4ac29df5c0c3b725", func := "nochez/nochezlaw01.NestShows", spec := "nestShows", unfollowed := true, recurses := true, plainKeys := false, apart := false, narrowed := true }
def NestShowsUptoSaid : Prop := nestShowsUptoRow.holds Try.pinned (OpenSpec.upto nestShowsSpec)

/-- 'nochezlaw01.NestBests', WHERE WHAT IT READS IS OF BULK AT MOST 1048576: true; the input reads as it did. -/
def nestBestsUptoRow : OpenClaim := { program := "ytmjbdjnnojfhkaa", sum := "6e4979740ebe2e0c5c6a6704b701ac91fc0d6f22ff4a8efd4ac29df5c0c3b725", func := "nochez/nochezlaw01.NestBests", spec := "nestBests", unfollowed := true, recurses := true, plainKeys := false, apart := false, narrowed := true }
def NestBestsUptoSaid : Prop := nestBestsUptoRow.holds Try.pinned (OpenSpec.upto nestBestsSpec)

/-- 'nochezlaw01.NestSpares', WHERE WHAT IT READS IS OF BULK AT MOST 1048576: true; the input reads as it did. -/
def nestSparesUptoRow : OpenClaim := { program := "ytmjbdjnnojfhkaa", sum := "6e4979740ebe2e0c5c6a6704b701ac91fc0d6f22ff4a8efd4ac29df5c0c3b725", func := "nochez/nochezlaw01.NestSpares", spec := "nestSpares", unfollowed := true, recurses := true, plainKeys := false, apart := false, narrowed := true }
def NestSparesUptoSaid : Prop := nestSparesUptoRow.holds Try.pinned (OpenSpec.upto nestSparesSpec)

/-- 'nochezlaw01.NestParts', WHERE WHAT IT READS IS OF BULK AT MOST 1048576: true; the input reads as it did. -/
def nestPartsUptoRow : OpenClaim := { program := "ytmjbdjnnojfhkaa", sum := "6e4979740ebe2e0c5c6a6704b701ac91fc0d6f22ff4a8efd4ac29df5c0c3b725", func := "nochez/nochezlaw01.NestParts", spec := "nestParts", unfollowed := true, recurses := true, plainKeys := false, apart := false, narrowed := true }
def NestPartsUptoSaid : Prop := nestPartsUptoRow.holds Try.pinned (OpenSpec.upto nestPartsSpec)

/-- 'nochezlaw01.NestNames', WHERE WHAT IT READS IS OF BULK AT MOST 1048576: true; the input reads as it did. -/
def nestNamesUptoRow : OpenClaim := { program := "ytmjbdjnnojfhkaa", sum := "6e4979740ebe2e0c5c6a6704b701ac91fc0d6f22ff4a8efd4ac29df5c0c3b725", func := "nochez/nochezlaw01.NestNames", spec := "nestNames", unfollowed := true, recurses := true, plainKeys := false, apart := false, narrowed := true }
def NestNamesUptoSaid : Prop := nestNamesUptoRow.holds Try.pinned (OpenSpec.upto nestNamesSpec)

/-- 'nochezlaw01.NestEvery', WHERE WHAT IT READS IS OF BULK AT MOST 1048576: true; the input reads as it did. -/
def nestEveryUptoRow : OpenClaim := { program := "ytmjbdjnnojfhkaa", sum := "6e4979740ebe2e0c5c6a6704b701ac91fc0d6f22ff4a8efd4ac29df5c0c3b725", func := "nochez/nochezlaw01.NestEvery", spec := "nestEvery", unfollowed := true, recurses := true, plainKeys := false, apart := false, narrowed := true }
def NestEveryUptoSaid : Prop := nestEveryUptoRow.holds Try.pinned (OpenSpec.upto nestEverySpec)

/-- 'nochezlaw01.NestFewer', WHERE WHAT IT READS IS OF BULK AT MOST 1048576: true; the input reads as it did. -/
def nestFewerUptoRow : OpenClaim := { program := "ytmjbdjnnojfhkaa", sum := "6e4979740ebe2e0c5c6a6704b701ac91fc0d6f22ff4a8efd4ac29df5c0c3b725", func := "nochez/nochezlaw01.NestFewer", spec := "nestFewer", unfollowed := true, recurses := true, plainKeys := false, apart := false, narrowed := true }
def NestFewerUptoSaid : Prop := nestFewerUptoRow.holds Try.pinned (OpenSpec.upto nestFewerSpec)

/-- 'nochezlaw01.NestMore', WHERE WHAT IT READS IS OF BULK AT MOST 1048576: true; the input reads as it did. -/
def nestMoreUptoRow : OpenClaim := { program := "ytmjbdjnnojfhkaa", sum := "6e4979740ebe2e0c5c6a6704b701ac91fc0d6f22ff4a8efd4ac29df5c0c3b725", func := "nochez/nochezlaw01.NestMore", spec := "nestMore", unfollowed := true, recurses := true, plainKeys := false, apart := false, narrowed := true }
def NestMoreUptoSaid : Prop := nestMoreUptoRow.holds Try.pinned (OpenSpec.upto nestMoreSpec)

/-- 'nochezlaw01.NestGood', WHERE WHAT IT READS IS OF BULK AT MOST 1048576: true; the input reads as it did. -/
def nestGoodUptoRow : OpenClaim := { program := "ytmjbdjnnojfhkaa", sum := "6e4979740ebe2e0c5c6a6704b701ac91fc0d6f22ff4a8efd4ac29df5c0c3b725", func := "nochez/nochezlaw01.NestGood", spec := "nestGood", unfollowed := true, recurses := true, plainKeys := false, apart := false, narrowed := true }
def NestGoodUptoSaid : Prop := nestGoodUptoRow.holds Try.pinned (OpenSpec.upto nestGoodSpec)

end Rows
end Go.Proofs.Ytmjbdjnnojfhkaa
