/-
  No cell of these rows narrows 'for every input' (looked for: loops, veiled, ifaces, maps, wideKeys, modest, calm, conditions, laid).
  DERIVED. THE GIVEN ROWS OF THIS SEAT. 11 by the template 'for every input the law returns true; each argument reads behind the call as it read before'; 0 by the template 'total and deterministic' (their statements: YtegipmpdpcjjoaaTotals.lean).
  GIVEN WITH THE SEED: the statements are not yours to turn. If you find one false, say at which input.
  Laid BY PROGRAM, IN A SANDBOX (cutbox-rows.mjs): the forced cells as the released guide's own fill.sh prints them over the translation 606260f2d3643e93… (all of the seat's roots in one cut). By AI agents, Wed Nov 11 2026. No macro, syntax, notation, axiom, sorry.
-/
import Derived.Test.YtegipmpdpcjjoaaChecked
import GoSem.Claim
import GoSem.ClaimJoined
import GoSem.ClaimMapViews
import Derived.JoinedTies
import Derived.KernelRfl
namespace Go.Proofs.Ytegipmpdpcjjoaa
/- THE CELL 'sum', in the pinned program and in every row, IS THE sha256 OF THE DUMP (.gsa) THAT YtegipmpdpcjjoaaProg.lean LOADS. Nothing in Lean hashes anything: it is a label: what it is worth is what the hold of that sum in a sandbox is worth. -/
noncomputable def Try.pinned : Pinned := { name := "ytegipmpdpcjjoaa", sum := "606260f2d3643e93e8a36e7d4e205c3c7bf0e88577380352977ed9e26f0c2e87", checked := Try.checked }
namespace Rows
def none {H : Type} : Left H := { results := [], args := [] }

/-- 'laws.FnMergeMost': WHATEVER THE INPUT: true; the input reads as it did. -/
def fnMergeMostSpec : ChangeSpec := { name := "fnMergeMost", fn := fun _ => fun
  | [d] => { results := [.lit (.bool true)], args := [d] }
  | _ => none }
def fnMergeMostRow : OpenClaim := { program := "ytegipmpdpcjjoaa", sum := "606260f2d3643e93e8a36e7d4e205c3c7bf0e88577380352977ed9e26f0c2e87", func := "loop.example/measuredsorts/laws.FnMergeMost", spec := "fnMergeMost", unfollowed := true, recurses := true, apart := false }
def FnMergeMostSaid : Prop := fnMergeMostRow.holds Try.pinned (OpenSpec.ofChange fnMergeMostSpec)

/-- ITS FALSE NEIGHBOUR: 'it returns false'. Refute it at one input. -/
def fnMergeMostWrong : ChangeSpec := { name := "fnMergeMost", fn := fun _ => fun
  | [d] => { results := [.lit (.bool false)], args := [d] }
  | _ => none }
def FnMergeMostWrongFalsely : Prop := fnMergeMostRow.holds Try.pinned (OpenSpec.ofChange fnMergeMostWrong)

/-- 'laws.FnValidFacts': WHATEVER THE INPUT: true; the input reads as it did. -/
def fnValidFactsSpec : ChangeSpec := { name := "fnValidFacts", fn := fun _ => fun
  | [d] => { results := [.lit (.bool true)], args := [d] }
  | _ => none }
def fnValidFactsRow : OpenClaim := { program := "ytegipmpdpcjjoaa", sum := "606260f2d3643e93e8a36e7d4e205c3c7bf0e88577380352977ed9e26f0c2e87", func := "loop.example/measuredsorts/laws.FnValidFacts", spec := "fnValidFacts", unfollowed := true, recurses := true, apart := false }
def FnValidFactsSaid : Prop := fnValidFactsRow.holds Try.pinned (OpenSpec.ofChange fnValidFactsSpec)

/-- ITS FALSE NEIGHBOUR: 'it returns false'. Refute it at one input. -/
def fnValidFactsWrong : ChangeSpec := { name := "fnValidFacts", fn := fun _ => fun
  | [d] => { results := [.lit (.bool false)], args := [d] }
  | _ => none }
def FnValidFactsWrongFalsely : Prop := fnValidFactsRow.holds Try.pinned (OpenSpec.ofChange fnValidFactsWrong)

/-- 'laws.FnKnownOf': WHATEVER THE INPUT: true; the input reads as it did. -/
def fnKnownOfSpec : ChangeSpec := { name := "fnKnownOf", fn := fun _ => fun
  | [d] => { results := [.lit (.bool true)], args := [d] }
  | _ => none }
def fnKnownOfRow : OpenClaim := { program := "ytegipmpdpcjjoaa", sum := "606260f2d3643e93e8a36e7d4e205c3c7bf0e88577380352977ed9e26f0c2e87", func := "loop.example/measuredsorts/laws.FnKnownOf", spec := "fnKnownOf", unfollowed := true, recurses := true, apart := false }
def FnKnownOfSaid : Prop := fnKnownOfRow.holds Try.pinned (OpenSpec.ofChange fnKnownOfSpec)

/-- ITS FALSE NEIGHBOUR: 'it returns false'. Refute it at one input. -/
def fnKnownOfWrong : ChangeSpec := { name := "fnKnownOf", fn := fun _ => fun
  | [d] => { results := [.lit (.bool false)], args := [d] }
  | _ => none }
def FnKnownOfWrongFalsely : Prop := fnKnownOfRow.holds Try.pinned (OpenSpec.ofChange fnKnownOfWrong)

/-- 'laws.FnOrdersLeft': WHATEVER THE INPUT: true; the input reads as it did. -/
def fnOrdersLeftSpec : ChangeSpec := { name := "fnOrdersLeft", fn := fun _ => fun
  | [d] => { results := [.lit (.bool true)], args := [d] }
  | _ => none }
def fnOrdersLeftRow : OpenClaim := { program := "ytegipmpdpcjjoaa", sum := "606260f2d3643e93e8a36e7d4e205c3c7bf0e88577380352977ed9e26f0c2e87", func := "loop.example/measuredsorts/laws.FnOrdersLeft", spec := "fnOrdersLeft", unfollowed := true, recurses := true, apart := false }
def FnOrdersLeftSaid : Prop := fnOrdersLeftRow.holds Try.pinned (OpenSpec.ofChange fnOrdersLeftSpec)

/-- ITS FALSE NEIGHBOUR: 'it returns false'. Refute it at one input. -/
def fnOrdersLeftWrong : ChangeSpec := { name := "fnOrdersLeft", fn := fun _ => fun
  | [d] => { results := [.lit (.bool false)], args := [d] }
  | _ => none }
def FnOrdersLeftWrongFalsely : Prop := fnOrdersLeftRow.holds Try.pinned (OpenSpec.ofChange fnOrdersLeftWrong)

/-- 'laws.FnSplitOf': WHATEVER THE INPUT: true; the input reads as it did. -/
def fnSplitOfSpec : ChangeSpec := { name := "fnSplitOf", fn := fun _ => fun
  | [d] => { results := [.lit (.bool true)], args := [d] }
  | _ => none }
def fnSplitOfRow : OpenClaim := { program := "ytegipmpdpcjjoaa", sum := "606260f2d3643e93e8a36e7d4e205c3c7bf0e88577380352977ed9e26f0c2e87", func := "loop.example/measuredsorts/laws.FnSplitOf", spec := "fnSplitOf", unfollowed := true, recurses := true, apart := false }
def FnSplitOfSaid : Prop := fnSplitOfRow.holds Try.pinned (OpenSpec.ofChange fnSplitOfSpec)

/-- ITS FALSE NEIGHBOUR: 'it returns false'. Refute it at one input. -/
def fnSplitOfWrong : ChangeSpec := { name := "fnSplitOf", fn := fun _ => fun
  | [d] => { results := [.lit (.bool false)], args := [d] }
  | _ => none }
def FnSplitOfWrongFalsely : Prop := fnSplitOfRow.holds Try.pinned (OpenSpec.ofChange fnSplitOfWrong)

/-- 'laws.FnBestQuestion': WHATEVER THE INPUT: true; the input reads as it did. -/
def fnBestQuestionSpec : ChangeSpec := { name := "fnBestQuestion", fn := fun _ => fun
  | [d] => { results := [.lit (.bool true)], args := [d] }
  | _ => none }
def fnBestQuestionRow : OpenClaim := { program := "ytegipmpdpcjjoaa", sum := "606260f2d3643e93e8a36e7d4e205c3c7bf0e88577380352977ed9e26f0c2e87", func := "loop.example/measuredsorts/laws.FnBestQuestion", spec := "fnBestQuestion", unfollowed := true, recurses := true, apart := false }
def FnBestQuestionSaid : Prop := fnBestQuestionRow.holds Try.pinned (OpenSpec.ofChange fnBestQuestionSpec)

/-- ITS FALSE NEIGHBOUR: 'it returns false'. Refute it at one input. -/
def fnBestQuestionWrong : ChangeSpec := { name := "fnBestQuestion", fn := fun _ => fun
  | [d] => { results := [.lit (.bool false)], args := [d] }
  | _ => none }
def FnBestQuestionWrongFalsely : Prop := fnBestQuestionRow.holds Try.pinned (OpenSpec.ofChange fnBestQuestionWrong)

/-- 'laws.FnLeastAsks': WHATEVER THE INPUT: true; the input reads as it did. -/
def fnLeastAsksSpec : ChangeSpec := { name := "fnLeastAsks", fn := fun _ => fun
  | [d] => { results := [.lit (.bool true)], args := [d] }
  | _ => none }
def fnLeastAsksRow : OpenClaim := { program := "ytegipmpdpcjjoaa", sum := "606260f2d3643e93e8a36e7d4e205c3c7bf0e88577380352977ed9e26f0c2e87", func := "loop.example/measuredsorts/laws.FnLeastAsks", spec := "fnLeastAsks", unfollowed := true, recurses := true, apart := false }
def FnLeastAsksSaid : Prop := fnLeastAsksRow.holds Try.pinned (OpenSpec.ofChange fnLeastAsksSpec)

/-- ITS FALSE NEIGHBOUR: 'it returns false'. Refute it at one input. -/
def fnLeastAsksWrong : ChangeSpec := { name := "fnLeastAsks", fn := fun _ => fun
  | [d] => { results := [.lit (.bool false)], args := [d] }
  | _ => none }
def FnLeastAsksWrongFalsely : Prop := fnLeastAsksRow.holds Try.pinned (OpenSpec.ofChange fnLeastAsksWrong)

/-- 'laws.FnPickAsks': WHATEVER THE INPUT: true; the input reads as it did. -/
def fnPickAsksSpec : ChangeSpec := { name := "fnPickAsks", fn := fun _ => fun
  | [d] => { results := [.lit (.bool true)], args := [d] }
  | _ => none }
def fnPickAsksRow : OpenClaim := { program := "ytegipmpdpcjjoaa", sum := "606260f2d3643e93e8a36e7d4e205c3c7bf0e88577380352977ed9e26f0c2e87", func := "loop.example/measuredsorts/laws.FnPickAsks", spec := "fnPickAsks", unfollowed := true, recurses := true, apart := false }
def FnPickAsksSaid : Prop := fnPickAsksRow.holds Try.pinned (OpenSpec.ofChange fnPickAsksSpec)

/-- ITS FALSE NEIGHBOUR: 'it returns false'. Refute it at one input. -/
def fnPickAsksWrong : ChangeSpec := { name := "fnPickAsks", fn := fun _ => fun
  | [d] => { results := [.lit (.bool false)], args := [d] }
  | _ => none }
def FnPickAsksWrongFalsely : Prop := fnPickAsksRow.holds Try.pinned (OpenSpec.ofChange fnPickAsksWrong)

/-- 'laws.FnDuel': WHATEVER THE INPUT: true; the input reads as it did. -/
def fnDuelSpec : ChangeSpec := { name := "fnDuel", fn := fun _ => fun
  | [d] => { results := [.lit (.bool true)], args := [d] }
  | _ => none }
def fnDuelRow : OpenClaim := { program := "ytegipmpdpcjjoaa", sum := "606260f2d3643e93e8a36e7d4e205c3c7bf0e88577380352977ed9e26f0c2e87", func := "loop.example/measuredsorts/laws.FnDuel", spec := "fnDuel", unfollowed := true, recurses := true, apart := false }
def FnDuelSaid : Prop := fnDuelRow.holds Try.pinned (OpenSpec.ofChange fnDuelSpec)

/-- ITS FALSE NEIGHBOUR: 'it returns false'. Refute it at one input. -/
def fnDuelWrong : ChangeSpec := { name := "fnDuel", fn := fun _ => fun
  | [d] => { results := [.lit (.bool false)], args := [d] }
  | _ => none }
def FnDuelWrongFalsely : Prop := fnDuelRow.holds Try.pinned (OpenSpec.ofChange fnDuelWrong)

/-- 'laws.FnBoundOf': WHATEVER THE INPUT: true; the input reads as it did. -/
def fnBoundOfSpec : ChangeSpec := { name := "fnBoundOf", fn := fun _ => fun
  | [d] => { results := [.lit (.bool true)], args := [d] }
  | _ => none }
def fnBoundOfRow : OpenClaim := { program := "ytegipmpdpcjjoaa", sum := "606260f2d3643e93e8a36e7d4e205c3c7bf0e88577380352977ed9e26f0c2e87", func := "loop.example/measuredsorts/laws.FnBoundOf", spec := "fnBoundOf", unfollowed := true, recurses := true, apart := false }
def FnBoundOfSaid : Prop := fnBoundOfRow.holds Try.pinned (OpenSpec.ofChange fnBoundOfSpec)

/-- ITS FALSE NEIGHBOUR: 'it returns false'. Refute it at one input. -/
def fnBoundOfWrong : ChangeSpec := { name := "fnBoundOf", fn := fun _ => fun
  | [d] => { results := [.lit (.bool false)], args := [d] }
  | _ => none }
def FnBoundOfWrongFalsely : Prop := fnBoundOfRow.holds Try.pinned (OpenSpec.ofChange fnBoundOfWrong)

/-- 'laws.FnFordMost': WHATEVER THE INPUT: true; the input reads as it did. -/
def fnFordMostSpec : ChangeSpec := { name := "fnFordMost", fn := fun _ => fun
  | [d] => { results := [.lit (.bool true)], args := [d] }
  | _ => none }
def fnFordMostRow : OpenClaim := { program := "ytegipmpdpcjjoaa", sum := "606260f2d3643e93e8a36e7d4e205c3c7bf0e88577380352977ed9e26f0c2e87", func := "loop.example/measuredsorts/laws.FnFordMost", spec := "fnFordMost", unfollowed := true, recurses := true, apart := false }
def FnFordMostSaid : Prop := fnFordMostRow.holds Try.pinned (OpenSpec.ofChange fnFordMostSpec)

/-- ITS FALSE NEIGHBOUR: 'it returns false'. Refute it at one input. -/
def fnFordMostWrong : ChangeSpec := { name := "fnFordMost", fn := fun _ => fun
  | [d] => { results := [.lit (.bool false)], args := [d] }
  | _ => none }
def FnFordMostWrongFalsely : Prop := fnFordMostRow.holds Try.pinned (OpenSpec.ofChange fnFordMostWrong)

/- THE SECOND FORM. 'bulk': how many values and letters a reading holds, each counted each time it is reached (what is shared counts as often as it is met; a slice's spare places count too). A statement '..UptoSaid' is the law's where the arguments, and the package variables that the reading takes, are together of bulk at most 1048576: NARROWER than '..Said'. Prove '..Said' where nothing that the law and all that it calls make is longer than what came in: it says more and counts as full. Else prove '..UptoSaid'. A law counts once. -/
mutual
def uptoBulk {H : Type} : DataW H → Nat
  | .lit (.string bytes) => bytes.length + 1
  | .lit _ => 1
  | .nil => 1
  | .ptr d => uptoBulk d + 1
  | .slice elems spare => uptoBulkAll elems + uptoBulkAll spare + 1
  | .agg parts => uptoBulkAll parts + 1
  | .iface _ d => uptoBulk d + 1
  | .map entries => uptoBulkEntries entries + 1
  | .held _ => 1
def uptoBulkAll {H : Type} : List (DataW H) → Nat
  | [] => 0
  | d :: r => uptoBulk d + uptoBulkAll r
def uptoBulkEntries {H : Type} : List (Lit × DataW H) → Nat
  | [] => 0
  | x :: r => uptoBulkEntry x + uptoBulkEntries r
def uptoBulkEntry {H : Type} : Lit × DataW H → Nat
  | (.string bytes, d) => bytes.length + uptoBulk d + 1
  | (_, d) => uptoBulk d + 1
 end
def uptoSmall : (H : Type) → List (DataW H) → Bool := fun _ ds => decide (uptoBulkAll ds ≤ 1048576)
def OpenSpec.upto (s : _root_.Go.ChangeSpec) : _root_.Go.OpenSpec := { _root_.Go.OpenSpec.ofChange s with cond := some uptoSmall }

/-- 'laws.FnMergeMost', WHERE WHAT IT READS IS OF BULK AT MOST 1048576: true; the input reads as it did. -/
def fnMergeMostUptoRow : OpenClaim := { program := "ytegipmpdpcjjoaa", sum := "606260f2d3643e93e8a36e7d4e205c3c7bf0e88577380352977ed9e26f0c2e87", func := "loop.example/measuredsorts/laws.FnMergeMost", spec := "fnMergeMost", unfollowed := true, recurses := true, apart := false, narrowed := true }
def FnMergeMostUptoSaid : Prop := fnMergeMostUptoRow.holds Try.pinned (OpenSpec.upto fnMergeMostSpec)

/-- 'laws.FnValidFacts', WHERE WHAT IT READS IS OF BULK AT MOST 1048576: true; the input reads as it did. -/
def fnValidFactsUptoRow : OpenClaim := { program := "ytegipmpdpcjjoaa", sum := "606260f2d3643e93e8a36e7d4e205c3c7bf0e88577380352977ed9e26f0c2e87", func := "loop.example/measuredsorts/laws.FnValidFacts", spec := "fnValidFacts", unfollowed := true, recurses := true, apart := false, narrowed := true }
def FnValidFactsUptoSaid : Prop := fnValidFactsUptoRow.holds Try.pinned (OpenSpec.upto fnValidFactsSpec)

/-- 'laws.FnKnownOf', WHERE WHAT IT READS IS OF BULK AT MOST 1048576: true; the input reads as it did. -/
def fnKnownOfUptoRow : OpenClaim := { program := "ytegipmpdpcjjoaa", sum := "606260f2d3643e93e8a36e7d4e205c3c7bf0e88577380352977ed9e26f0c2e87", func := "loop.example/measuredsorts/laws.FnKnownOf", spec := "fnKnownOf", unfollowed := true, recurses := true, apart := false, narrowed := true }
def FnKnownOfUptoSaid : Prop := fnKnownOfUptoRow.holds Try.pinned (OpenSpec.upto fnKnownOfSpec)

/-- 'laws.FnOrdersLeft', WHERE WHAT IT READS IS OF BULK AT MOST 1048576: true; the input reads as it did. -/
def fnOrdersLeftUptoRow : OpenClaim := { program := "ytegipmpdpcjjoaa", sum := "606260f2d3643e93e8a36e7d4e205c3c7bf0e88577380352977ed9e26f0c2e87", func := "loop.example/measuredsorts/laws.FnOrdersLeft", spec := "fnOrdersLeft", unfollowed := true, recurses := true, apart := false, narrowed := true }
def FnOrdersLeftUptoSaid : Prop := fnOrdersLeftUptoRow.holds Try.pinned (OpenSpec.upto fnOrdersLeftSpec)

/-- 'laws.FnSplitOf', WHERE WHAT IT READS IS OF BULK AT MOST 1048576: true; the input reads as it did. -/
def fnSplitOfUptoRow : OpenClaim := { program := "ytegipmpdpcjjoaa", sum := "606260f2d3643e93e8a36e7d4e205c3c7bf0e88577380352977ed9e26f0c2e87", func := "loop.example/measuredsorts/laws.FnSplitOf", spec := "fnSplitOf", unfollowed := true, recurses := true, apart := false, narrowed := true }
def FnSplitOfUptoSaid : Prop := fnSplitOfUptoRow.holds Try.pinned (OpenSpec.upto fnSplitOfSpec)

/-- 'laws.FnBestQuestion', WHERE WHAT IT READS IS OF BULK AT MOST 1048576: true; the input reads as it did. -/
def fnBestQuestionUptoRow : OpenClaim := { program := "ytegipmpdpcjjoaa", sum := "606260f2d3643e93e8a36e7d4e205c3c7bf0e88577380352977ed9e26f0c2e87", func := "loop.example/measuredsorts/laws.FnBestQuestion", spec := "fnBestQuestion", unfollowed := true, recurses := true, apart := false, narrowed := true }
def FnBestQuestionUptoSaid : Prop := fnBestQuestionUptoRow.holds Try.pinned (OpenSpec.upto fnBestQuestionSpec)

/-- 'laws.FnLeastAsks', WHERE WHAT IT READS IS OF BULK AT MOST 1048576: true; the input reads as it did. -/
def fnLeastAsksUptoRow : OpenClaim := { program := "ytegipmpdpcjjoaa", sum := "606260f2d3643e93e8a36e7d4e205c3c7bf0e88577380352977ed9e26f0c2e87", func := "loop.example/measuredsorts/laws.FnLeastAsks", spec := "fnLeastAsks", unfollowed := true, recurses := true, apart := false, narrowed := true }
def FnLeastAsksUptoSaid : Prop := fnLeastAsksUptoRow.holds Try.pinned (OpenSpec.upto fnLeastAsksSpec)

/-- 'laws.FnPickAsks', WHERE WHAT IT READS IS OF BULK AT MOST 1048576: true; the input reads as it did. -/
def fnPickAsksUptoRow : OpenClaim := { program := "ytegipmpdpcjjoaa", sum := "606260f2d3643e93e8a36e7d4e205c3c7bf0e88577380352977ed9e26f0c2e87", func := "loop.example/measuredsorts/laws.FnPickAsks", spec := "fnPickAsks", unfollowed := true, recurses := true, apart := false, narrowed := true }
def FnPickAsksUptoSaid : Prop := fnPickAsksUptoRow.holds Try.pinned (OpenSpec.upto fnPickAsksSpec)

/-- 'laws.FnDuel', WHERE WHAT IT READS IS OF BULK AT MOST 1048576: true; the input reads as it did. -/
def fnDuelUptoRow : OpenClaim := { program := "ytegipmpdpcjjoaa", sum := "606260f2d3643e93e8a36e7d4e205c3c7bf0e88577380352977ed9e26f0c2e87", func := "loop.example/measuredsorts/laws.FnDuel", spec := "fnDuel", unfollowed := true, recurses := true, apart := false, narrowed := true }
def FnDuelUptoSaid : Prop := fnDuelUptoRow.holds Try.pinned (OpenSpec.upto fnDuelSpec)

/-- 'laws.FnBoundOf', WHERE WHAT IT READS IS OF BULK AT MOST 1048576: true; the input reads as it did. -/
def fnBoundOfUptoRow : OpenClaim := { program := "ytegipmpdpcjjoaa", sum := "606260f2d3643e93e8a36e7d4e205c3c7bf0e88577380352977ed9e26f0c2e87", func := "loop.example/measuredsorts/laws.FnBoundOf", spec := "fnBoundOf", unfollowed := true, recurses := true, apart := false, narrowed := true }
def FnBoundOfUptoSaid : Prop := fnBoundOfUptoRow.holds Try.pinned (OpenSpec.upto fnBoundOfSpec)

/-- 'laws.FnFordMost', WHERE WHAT IT READS IS OF BULK AT MOST 1048576: true; the input reads as it did. -/
def fnFordMostUptoRow : OpenClaim := { program := "ytegipmpdpcjjoaa", sum := "606260f2d3643e93e8a36e7d4e205c3c7bf0e88577380352977ed9e26f0c2e87", func := "loop.example/measuredsorts/laws.FnFordMost", spec := "fnFordMost", unfollowed := true, recurses := true, apart := false, narrowed := true }
def FnFordMostUptoSaid : Prop := fnFordMostUptoRow.holds Try.pinned (OpenSpec.upto fnFordMostSpec)

end Rows
end Go.Proofs.Ytegipmpdpcjjoaa
