/-
  No cell of these rows narrows 'for every input' (looked for: loops, veiled, ifaces, maps, wideKeys, modest, calm, conditions, laid).
  DERIVED. THE GIVEN ROWS OF THIS SEAT. 12 by the template 'for every input the law returns true; each argument reads behind the call as it read before'; 0 by the template 'total and deterministic' (their statements: YtleoalmpbfddkaaTotals.lean).
  GIVEN WITH THE SEED: the statements are not yours to turn. If you find one false, say at which input.
  Laid BY PROGRAM, IN A SANDBOX (cutbox-rows.mjs): the forced cells as the released guide's own fill.sh prints them over the translation 5a8db194c1d1da97… (all of the seat's roots in one cut). By AI agents, Wed Nov 11 2026. No macro, syntax, notation, axiom, sorry.
-/
import Derived.Test.YtleoalmpbfddkaaChecked
import GoSem.Claim
import GoSem.ClaimJoined
import GoSem.ClaimMapViews
import Derived.JoinedTies
import Derived.KernelRfl
namespace Go.Proofs.Ytleoalmpbfddkaa
/- THE CELL 'sum', in the pinned program and in every row, IS THE sha256 OF THE DUMP (.gsa) THAT YtleoalmpbfddkaaProg.lean LOADS. Nothing in Lean hashes anything: it is a label: what it is worth is what the hold of that sum in a sandbox is worth. -/
noncomputable def Try.pinned : Pinned := { name := "ytleoalmpbfddkaa", sum := "5a8db194c1d1da9705113dd184ad1796f0d7bbe7aaa9f9fe046090613dfef80d", checked := Try.checked }
namespace Rows
def none {H : Type} : Left H := { results := [], args := [] }

/-- 'laws.FnExactBinaryMost': WHATEVER THE INPUT: true; the input reads as it did. -/
def fnExactBinaryMostSpec : ChangeSpec := { name := "fnExactBinaryMost", fn := fun _ => fun
  | [d] => { results := [.lit (.bool true)], args := [d] }
  | _ => none }
def fnExactBinaryMostRow : OpenClaim := { program := "ytleoalmpbfddkaa", sum := "5a8db194c1d1da9705113dd184ad1796f0d7bbe7aaa9f9fe046090613dfef80d", func := "loop.example/measuredsorts/laws.FnExactBinaryMost", spec := "fnExactBinaryMost", unfollowed := true, recurses := true, apart := false }
def FnExactBinaryMostSaid : Prop := fnExactBinaryMostRow.holds Try.pinned (OpenSpec.ofChange fnExactBinaryMostSpec)

/-- ITS FALSE NEIGHBOUR: 'it returns false'. Refute it at one input. -/
def fnExactBinaryMostWrong : ChangeSpec := { name := "fnExactBinaryMost", fn := fun _ => fun
  | [d] => { results := [.lit (.bool false)], args := [d] }
  | _ => none }
def FnExactBinaryMostWrongFalsely : Prop := fnExactBinaryMostRow.holds Try.pinned (OpenSpec.ofChange fnExactBinaryMostWrong)

/-- 'laws.FnExactValidFacts': WHATEVER THE INPUT: true; the input reads as it did. -/
def fnExactValidFactsSpec : ChangeSpec := { name := "fnExactValidFacts", fn := fun _ => fun
  | [d1, d2] => { results := [.lit (.bool true)], args := [d1, d2] }
  | _ => none }
def fnExactValidFactsRow : OpenClaim := { program := "ytleoalmpbfddkaa", sum := "5a8db194c1d1da9705113dd184ad1796f0d7bbe7aaa9f9fe046090613dfef80d", func := "loop.example/measuredsorts/laws.FnExactValidFacts", spec := "fnExactValidFacts", unfollowed := true, recurses := true, apart := false }
def FnExactValidFactsSaid : Prop := fnExactValidFactsRow.holds Try.pinned (OpenSpec.ofChange fnExactValidFactsSpec)

/-- ITS FALSE NEIGHBOUR: 'it returns false'. Refute it at one input. -/
def fnExactValidFactsWrong : ChangeSpec := { name := "fnExactValidFacts", fn := fun _ => fun
  | [d1, d2] => { results := [.lit (.bool false)], args := [d1, d2] }
  | _ => none }
def FnExactValidFactsWrongFalsely : Prop := fnExactValidFactsRow.holds Try.pinned (OpenSpec.ofChange fnExactValidFactsWrong)

/-- 'laws.FnExactKnownOf': WHATEVER THE INPUT: true; the input reads as it did. -/
def fnExactKnownOfSpec : ChangeSpec := { name := "fnExactKnownOf", fn := fun _ => fun
  | [d1, d2] => { results := [.lit (.bool true)], args := [d1, d2] }
  | _ => none }
def fnExactKnownOfRow : OpenClaim := { program := "ytleoalmpbfddkaa", sum := "5a8db194c1d1da9705113dd184ad1796f0d7bbe7aaa9f9fe046090613dfef80d", func := "loop.example/measuredsorts/laws.FnExactKnownOf", spec := "fnExactKnownOf", unfollowed := true, recurses := true, apart := false }
def FnExactKnownOfSaid : Prop := fnExactKnownOfRow.holds Try.pinned (OpenSpec.ofChange fnExactKnownOfSpec)

/-- ITS FALSE NEIGHBOUR: 'it returns false'. Refute it at one input. -/
def fnExactKnownOfWrong : ChangeSpec := { name := "fnExactKnownOf", fn := fun _ => fun
  | [d1, d2] => { results := [.lit (.bool false)], args := [d1, d2] }
  | _ => none }
def FnExactKnownOfWrongFalsely : Prop := fnExactKnownOfRow.holds Try.pinned (OpenSpec.ofChange fnExactKnownOfWrong)

/-- 'laws.FnExactOrdersLeft': WHATEVER THE INPUT: true; the input reads as it did. -/
def fnExactOrdersLeftSpec : ChangeSpec := { name := "fnExactOrdersLeft", fn := fun _ => fun
  | [d1, d2] => { results := [.lit (.bool true)], args := [d1, d2] }
  | _ => none }
def fnExactOrdersLeftRow : OpenClaim := { program := "ytleoalmpbfddkaa", sum := "5a8db194c1d1da9705113dd184ad1796f0d7bbe7aaa9f9fe046090613dfef80d", func := "loop.example/measuredsorts/laws.FnExactOrdersLeft", spec := "fnExactOrdersLeft", unfollowed := true, recurses := true, apart := false }
def FnExactOrdersLeftSaid : Prop := fnExactOrdersLeftRow.holds Try.pinned (OpenSpec.ofChange fnExactOrdersLeftSpec)

/-- ITS FALSE NEIGHBOUR: 'it returns false'. Refute it at one input. -/
def fnExactOrdersLeftWrong : ChangeSpec := { name := "fnExactOrdersLeft", fn := fun _ => fun
  | [d1, d2] => { results := [.lit (.bool false)], args := [d1, d2] }
  | _ => none }
def FnExactOrdersLeftWrongFalsely : Prop := fnExactOrdersLeftRow.holds Try.pinned (OpenSpec.ofChange fnExactOrdersLeftWrong)

/-- 'laws.FnExactSplitOf': WHATEVER THE INPUT: true; the input reads as it did. -/
def fnExactSplitOfSpec : ChangeSpec := { name := "fnExactSplitOf", fn := fun _ => fun
  | [d1, d2, d3, d4] => { results := [.lit (.bool true)], args := [d1, d2, d3, d4] }
  | _ => none }
def fnExactSplitOfRow : OpenClaim := { program := "ytleoalmpbfddkaa", sum := "5a8db194c1d1da9705113dd184ad1796f0d7bbe7aaa9f9fe046090613dfef80d", func := "loop.example/measuredsorts/laws.FnExactSplitOf", spec := "fnExactSplitOf", unfollowed := true, recurses := true, apart := false }
def FnExactSplitOfSaid : Prop := fnExactSplitOfRow.holds Try.pinned (OpenSpec.ofChange fnExactSplitOfSpec)

/-- ITS FALSE NEIGHBOUR: 'it returns false'. Refute it at one input. -/
def fnExactSplitOfWrong : ChangeSpec := { name := "fnExactSplitOf", fn := fun _ => fun
  | [d1, d2, d3, d4] => { results := [.lit (.bool false)], args := [d1, d2, d3, d4] }
  | _ => none }
def FnExactSplitOfWrongFalsely : Prop := fnExactSplitOfRow.holds Try.pinned (OpenSpec.ofChange fnExactSplitOfWrong)

/-- 'laws.FnExactBestQuestion': WHATEVER THE INPUT: true; the input reads as it did. -/
def fnExactBestQuestionSpec : ChangeSpec := { name := "fnExactBestQuestion", fn := fun _ => fun
  | [d1, d2] => { results := [.lit (.bool true)], args := [d1, d2] }
  | _ => none }
def fnExactBestQuestionRow : OpenClaim := { program := "ytleoalmpbfddkaa", sum := "5a8db194c1d1da9705113dd184ad1796f0d7bbe7aaa9f9fe046090613dfef80d", func := "loop.example/measuredsorts/laws.FnExactBestQuestion", spec := "fnExactBestQuestion", unfollowed := true, recurses := true, apart := false }
def FnExactBestQuestionSaid : Prop := fnExactBestQuestionRow.holds Try.pinned (OpenSpec.ofChange fnExactBestQuestionSpec)

/-- ITS FALSE NEIGHBOUR: 'it returns false'. Refute it at one input. -/
def fnExactBestQuestionWrong : ChangeSpec := { name := "fnExactBestQuestion", fn := fun _ => fun
  | [d1, d2] => { results := [.lit (.bool false)], args := [d1, d2] }
  | _ => none }
def FnExactBestQuestionWrongFalsely : Prop := fnExactBestQuestionRow.holds Try.pinned (OpenSpec.ofChange fnExactBestQuestionWrong)

/-- 'laws.FnExactLeastAsks': WHATEVER THE INPUT: true; the input reads as it did. -/
def fnExactLeastAsksSpec : ChangeSpec := { name := "fnExactLeastAsks", fn := fun _ => fun
  | [d1, d2] => { results := [.lit (.bool true)], args := [d1, d2] }
  | _ => none }
def fnExactLeastAsksRow : OpenClaim := { program := "ytleoalmpbfddkaa", sum := "5a8db194c1d1da9705113dd184ad1796f0d7bbe7aaa9f9fe046090613dfef80d", func := "loop.example/measuredsorts/laws.FnExactLeastAsks", spec := "fnExactLeastAsks", unfollowed := true, recurses := true, apart := false }
def FnExactLeastAsksSaid : Prop := fnExactLeastAsksRow.holds Try.pinned (OpenSpec.ofChange fnExactLeastAsksSpec)

/-- ITS FALSE NEIGHBOUR: 'it returns false'. Refute it at one input. -/
def fnExactLeastAsksWrong : ChangeSpec := { name := "fnExactLeastAsks", fn := fun _ => fun
  | [d1, d2] => { results := [.lit (.bool false)], args := [d1, d2] }
  | _ => none }
def FnExactLeastAsksWrongFalsely : Prop := fnExactLeastAsksRow.holds Try.pinned (OpenSpec.ofChange fnExactLeastAsksWrong)

/-- 'laws.FnExactPickAsks': WHATEVER THE INPUT: true; the input reads as it did. -/
def fnExactPickAsksSpec : ChangeSpec := { name := "fnExactPickAsks", fn := fun _ => fun
  | [d1, d2, d3] => { results := [.lit (.bool true)], args := [d1, d2, d3] }
  | _ => none }
def fnExactPickAsksRow : OpenClaim := { program := "ytleoalmpbfddkaa", sum := "5a8db194c1d1da9705113dd184ad1796f0d7bbe7aaa9f9fe046090613dfef80d", func := "loop.example/measuredsorts/laws.FnExactPickAsks", spec := "fnExactPickAsks", unfollowed := true, recurses := true, apart := false }
def FnExactPickAsksSaid : Prop := fnExactPickAsksRow.holds Try.pinned (OpenSpec.ofChange fnExactPickAsksSpec)

/-- ITS FALSE NEIGHBOUR: 'it returns false'. Refute it at one input. -/
def fnExactPickAsksWrong : ChangeSpec := { name := "fnExactPickAsks", fn := fun _ => fun
  | [d1, d2, d3] => { results := [.lit (.bool false)], args := [d1, d2, d3] }
  | _ => none }
def FnExactPickAsksWrongFalsely : Prop := fnExactPickAsksRow.holds Try.pinned (OpenSpec.ofChange fnExactPickAsksWrong)

/-- 'laws.FnExactDuel': WHATEVER THE INPUT: true; the input reads as it did. -/
def fnExactDuelSpec : ChangeSpec := { name := "fnExactDuel", fn := fun _ => fun
  | [d] => { results := [.lit (.bool true)], args := [d] }
  | _ => none }
def fnExactDuelRow : OpenClaim := { program := "ytleoalmpbfddkaa", sum := "5a8db194c1d1da9705113dd184ad1796f0d7bbe7aaa9f9fe046090613dfef80d", func := "loop.example/measuredsorts/laws.FnExactDuel", spec := "fnExactDuel", unfollowed := true, recurses := true, apart := false }
def FnExactDuelSaid : Prop := fnExactDuelRow.holds Try.pinned (OpenSpec.ofChange fnExactDuelSpec)

/-- ITS FALSE NEIGHBOUR: 'it returns false'. Refute it at one input. -/
def fnExactDuelWrong : ChangeSpec := { name := "fnExactDuel", fn := fun _ => fun
  | [d] => { results := [.lit (.bool false)], args := [d] }
  | _ => none }
def FnExactDuelWrongFalsely : Prop := fnExactDuelRow.holds Try.pinned (OpenSpec.ofChange fnExactDuelWrong)

/-- 'laws.FnExactBoundOf': WHATEVER THE INPUT: true; the input reads as it did. -/
def fnExactBoundOfSpec : ChangeSpec := { name := "fnExactBoundOf", fn := fun _ => fun
  | [d1, d2] => { results := [.lit (.bool true)], args := [d1, d2] }
  | _ => none }
def fnExactBoundOfRow : OpenClaim := { program := "ytleoalmpbfddkaa", sum := "5a8db194c1d1da9705113dd184ad1796f0d7bbe7aaa9f9fe046090613dfef80d", func := "loop.example/measuredsorts/laws.FnExactBoundOf", spec := "fnExactBoundOf", unfollowed := true, recurses := true, apart := false }
def FnExactBoundOfSaid : Prop := fnExactBoundOfRow.holds Try.pinned (OpenSpec.ofChange fnExactBoundOfSpec)

/-- ITS FALSE NEIGHBOUR: 'it returns false'. Refute it at one input. -/
def fnExactBoundOfWrong : ChangeSpec := { name := "fnExactBoundOf", fn := fun _ => fun
  | [d1, d2] => { results := [.lit (.bool false)], args := [d1, d2] }
  | _ => none }
def FnExactBoundOfWrongFalsely : Prop := fnExactBoundOfRow.holds Try.pinned (OpenSpec.ofChange fnExactBoundOfWrong)

/-- 'laws.FnExactChainFacts': WHATEVER THE INPUT: true; the input reads as it did. -/
def fnExactChainFactsSpec : ChangeSpec := { name := "fnExactChainFacts", fn := fun _ => fun
  | [d1, d2] => { results := [.lit (.bool true)], args := [d1, d2] }
  | _ => none }
def fnExactChainFactsRow : OpenClaim := { program := "ytleoalmpbfddkaa", sum := "5a8db194c1d1da9705113dd184ad1796f0d7bbe7aaa9f9fe046090613dfef80d", func := "loop.example/measuredsorts/laws.FnExactChainFacts", spec := "fnExactChainFacts", apart := false }
def FnExactChainFactsSaid : Prop := fnExactChainFactsRow.holds Try.pinned (OpenSpec.ofChange fnExactChainFactsSpec)

/-- ITS FALSE NEIGHBOUR: 'it returns false'. Refute it at one input. -/
def fnExactChainFactsWrong : ChangeSpec := { name := "fnExactChainFacts", fn := fun _ => fun
  | [d1, d2] => { results := [.lit (.bool false)], args := [d1, d2] }
  | _ => none }
def FnExactChainFactsWrongFalsely : Prop := fnExactChainFactsRow.holds Try.pinned (OpenSpec.ofChange fnExactChainFactsWrong)

/-- 'laws.FnExactFordMost': WHATEVER THE INPUT: true; the input reads as it did. -/
def fnExactFordMostSpec : ChangeSpec := { name := "fnExactFordMost", fn := fun _ => fun
  | [d] => { results := [.lit (.bool true)], args := [d] }
  | _ => none }
def fnExactFordMostRow : OpenClaim := { program := "ytleoalmpbfddkaa", sum := "5a8db194c1d1da9705113dd184ad1796f0d7bbe7aaa9f9fe046090613dfef80d", func := "loop.example/measuredsorts/laws.FnExactFordMost", spec := "fnExactFordMost", unfollowed := true, recurses := true, apart := false }
def FnExactFordMostSaid : Prop := fnExactFordMostRow.holds Try.pinned (OpenSpec.ofChange fnExactFordMostSpec)

/-- ITS FALSE NEIGHBOUR: 'it returns false'. Refute it at one input. -/
def fnExactFordMostWrong : ChangeSpec := { name := "fnExactFordMost", fn := fun _ => fun
  | [d] => { results := [.lit (.bool false)], args := [d] }
  | _ => none }
def FnExactFordMostWrongFalsely : Prop := fnExactFordMostRow.holds Try.pinned (OpenSpec.ofChange fnExactFordMostWrong)

/- THE SECOND FORM. 'bulk': how many values and letters a reading holds, each counted each time it is reached (what is shared counts as often as it is met; a slice's spare places count too). A statement '..UptoSaid' is the law's where the arguments, and the package variables that the reading takes, are together of bulk at most 1048576: NARROWER than '..Said'. Prove '..Said' where nothing that the law and all that it calls make is longer than what came in: it says more and counts as full. Else prove '..UptoSaid'. A law counts once. -/
mutual
def uptoBulk {H : Type} : DataW H → Nat
  | .lit (.string bytes) => bytes.length + 1
  | .lit _ => 1
  | .nil => 1
  | .ptr d => uptoBulk d + 1
  | .slice elems spare => uptoBulkAll elems + uptoBulkAll spare + 1
  | .agg parts => uptoBulkAll parts + 1
  | .iface _ d => uptoBulk d + 1
  | .map entries => uptoBulkEntries entries + 1
  | .held _ => 1
def uptoBulkAll {H : Type} : List (DataW H) → Nat
  | [] => 0
  | d :: r => uptoBulk d + uptoBulkAll r
def uptoBulkEntries {H : Type} : List (Lit × DataW H) → Nat
  | [] => 0
  | x :: r => uptoBulkEntry x + uptoBulkEntries r
def uptoBulkEntry {H : Type} : Lit × DataW H → Nat
  | (.string bytes, d) => bytes.length + uptoBulk d + 1
  | (_, d) => uptoBulk d + 1
 end
def uptoSmall : (H : Type) → List (DataW H) → Bool := fun _ ds => decide (uptoBulkAll ds ≤ 1048576)
def OpenSpec.upto (s : _root_.Go.ChangeSpec) : _root_.Go.OpenSpec := { _root_.Go.OpenSpec.ofChange s with cond := some uptoSmall }

/-- 'laws.FnExactBinaryMost', WHERE WHAT IT READS IS OF BULK AT MOST 1048576: true; the input reads as it did. -/
def fnExactBinaryMostUptoRow : OpenClaim := { program := "ytleoalmpbfddkaa", sum := "5a8db194c1d1da9705113dd184ad1796f0d7bbe7aaa9f9fe046090613dfef80d", func := "loop.example/measuredsorts/laws.FnExactBinaryMost", spec := "fnExactBinaryMost", unfollowed := true, recurses := true, apart := false, narrowed := true }
def FnExactBinaryMostUptoSaid : Prop := fnExactBinaryMostUptoRow.holds Try.pinned (OpenSpec.upto fnExactBinaryMostSpec)

/-- 'laws.FnExactValidFacts', WHERE WHAT IT READS IS OF BULK AT MOST 1048576: true; the input reads as it did. -/
def fnExactValidFactsUptoRow : OpenClaim := { program := "ytleoalmpbfddkaa", sum := "5a8db194c1d1da9705113dd184ad1796f0d7bbe7aaa9f9fe046090613dfef80d", func := "loop.example/measuredsorts/laws.FnExactValidFacts", spec := "fnExactValidFacts", unfollowed := true, recurses := true, apart := false, narrowed := true }
def FnExactValidFactsUptoSaid : Prop := fnExactValidFactsUptoRow.holds Try.pinned (OpenSpec.upto fnExactValidFactsSpec)

/-- 'laws.FnExactKnownOf', WHERE WHAT IT READS IS OF BULK AT MOST 1048576: true; the input reads as it did. -/
def fnExactKnownOfUptoRow : OpenClaim := { program := "ytleoalmpbfddkaa", sum := "5a8db194c1d1da9705113dd184ad1796f0d7bbe7aaa9f9fe046090613dfef80d", func := "loop.example/measuredsorts/laws.FnExactKnownOf", spec := "fnExactKnownOf", unfollowed := true, recurses := true, apart := false, narrowed := true }
def FnExactKnownOfUptoSaid : Prop := fnExactKnownOfUptoRow.holds Try.pinned (OpenSpec.upto fnExactKnownOfSpec)

/-- 'laws.FnExactOrdersLeft', WHERE WHAT IT READS IS OF BULK AT MOST 1048576: true; the input reads as it did. -/
def fnExactOrdersLeftUptoRow : OpenClaim := { program := "ytleoalmpbfddkaa", sum := "5a8db194c1d1da9705113dd184ad1796f0d7bbe7aaa9f9fe046090613dfef80d", func := "loop.example/measuredsorts/laws.FnExactOrdersLeft", spec := "fnExactOrdersLeft", unfollowed := true, recurses := true, apart := false, narrowed := true }
def FnExactOrdersLeftUptoSaid : Prop := fnExactOrdersLeftUptoRow.holds Try.pinned (OpenSpec.upto fnExactOrdersLeftSpec)

/-- 'laws.FnExactSplitOf', WHERE WHAT IT READS IS OF BULK AT MOST 1048576: true; the input reads as it did. -/
def fnExactSplitOfUptoRow : OpenClaim := { program := "ytleoalmpbfddkaa", sum := "5a8db194c1d1da9705113dd184ad1796f0d7bbe7aaa9f9fe046090613dfef80d", func := "loop.example/measuredsorts/laws.FnExactSplitOf", spec := "fnExactSplitOf", unfollowed := true, recurses := true, apart := false, narrowed := true }
def FnExactSplitOfUptoSaid : Prop := fnExactSplitOfUptoRow.holds Try.pinned (OpenSpec.upto fnExactSplitOfSpec)

/-- 'laws.FnExactBestQuestion', WHERE WHAT IT READS IS OF BULK AT MOST 1048576: true; the input reads as it did. -/
def fnExactBestQuestionUptoRow : OpenClaim := { program := "ytleoalmpbfddkaa", sum := "5a8db194c1d1da9705113dd184ad1796f0d7bbe7aaa9f9fe046090613dfef80d", func := "loop.example/measuredsorts/laws.FnExactBestQuestion", spec := "fnExactBestQuestion", unfollowed := true, recurses := true, apart := false, narrowed := true }
def FnExactBestQuestionUptoSaid : Prop := fnExactBestQuestionUptoRow.holds Try.pinned (OpenSpec.upto fnExactBestQuestionSpec)

/-- 'laws.FnExactLeastAsks', WHERE WHAT IT READS IS OF BULK AT MOST 1048576: true; the input reads as it did. -/
def fnExactLeastAsksUptoRow : OpenClaim := { program := "ytleoalmpbfddkaa", sum := "5a8db194c1d1da9705113dd184ad1796f0d7bbe7aaa9f9fe046090613dfef80d", func := "loop.example/measuredsorts/laws.FnExactLeastAsks", spec := "fnExactLeastAsks", unfollowed := true, recurses := true, apart := false, narrowed := true }
def FnExactLeastAsksUptoSaid : Prop := fnExactLeastAsksUptoRow.holds Try.pinned (OpenSpec.upto fnExactLeastAsksSpec)

/-- 'laws.FnExactPickAsks', WHERE WHAT IT READS IS OF BULK AT MOST 1048576: true; the input reads as it did. -/
def fnExactPickAsksUptoRow : OpenClaim := { program := "ytleoalmpbfddkaa", sum := "5a8db194c1d1da9705113dd184ad1796f0d7bbe7aaa9f9fe046090613dfef80d", func := "loop.example/measuredsorts/laws.FnExactPickAsks", spec := "fnExactPickAsks", unfollowed := true, recurses := true, apart := false, narrowed := true }
def FnExactPickAsksUptoSaid : Prop := fnExactPickAsksUptoRow.holds Try.pinned (OpenSpec.upto fnExactPickAsksSpec)

/-- 'laws.FnExactDuel', WHERE WHAT IT READS IS OF BULK AT MOST 1048576: true; the input reads as it did. -/
def fnExactDuelUptoRow : OpenClaim := { program := "ytleoalmpbfddkaa", sum := "5a8db194c1d1da9705113dd184ad1796f0d7bbe7aaa9f9fe046090613dfef80d", func := "loop.example/measuredsorts/laws.FnExactDuel", spec := "fnExactDuel", unfollowed := true, recurses := true, apart := false, narrowed := true }
def FnExactDuelUptoSaid : Prop := fnExactDuelUptoRow.holds Try.pinned (OpenSpec.upto fnExactDuelSpec)

/-- 'laws.FnExactBoundOf', WHERE WHAT IT READS IS OF BULK AT MOST 1048576: true; the input reads as it did. -/
def fnExactBoundOfUptoRow : OpenClaim := { program := "ytleoalmpbfddkaa", sum := "5a8db194c1d1da9705113dd184ad1796f0d7bbe7aaa9f9fe046090613dfef80d", func := "loop.example/measuredsorts/laws.FnExactBoundOf", spec := "fnExactBoundOf", unfollowed := true, recurses := true, apart := false, narrowed := true }
def FnExactBoundOfUptoSaid : Prop := fnExactBoundOfUptoRow.holds Try.pinned (OpenSpec.upto fnExactBoundOfSpec)

/-- 'laws.FnExactChainFacts', WHERE WHAT IT READS IS OF BULK AT MOST 1048576: true; the input reads as it did. -/
def fnExactChainFactsUptoRow : OpenClaim := { program := "ytleoalmpbfddkaa", sum := "5a8db194c1d1da9705113dd184ad1796f0d7bbe7aaa9f9fe046090613dfef80d", func := "loop.example/measuredsorts/laws.FnExactChainFacts", spec := "fnExactChainFacts", apart := false, narrowed := true }
def FnExactChainFactsUptoSaid : Prop := fnExactChainFactsUptoRow.holds Try.pinned (OpenSpec.upto fnExactChainFactsSpec)

/-- 'laws.FnExactFordMost', WHERE WHAT IT READS IS OF BULK AT MOST 1048576: true; the input reads as it did. -/
def fnExactFordMostUptoRow : OpenClaim := { program := "ytleoalmpbfddkaa", sum := "5a8db194c1d1da9705113dd184ad1796f0d7bbe7aaa9f9fe046090613dfef80d", func := "loop.example/measuredsorts/laws.FnExactFordMost", spec := "fnExactFordMost", unfollowed := true, recurses := true, apart := false, narrowed := true }
def FnExactFordMostUptoSaid : Prop := fnExactFordMostUptoRow.holds Try.pinned (OpenSpec.upto fnExactFordMostSpec)

end Rows
end Go.Proofs.Ytleoalmpbfddkaa
