/-
  No cell of these rows narrows 'for every input' (looked for: loops, veiled, ifaces, maps, wideKeys, modest, calm, conditions, laid).
  DERIVED. THE GIVEN ROWS OF THIS SEAT. 9 by the template 'for every input the law returns true; each argument reads behind the call as it read before'; 0 by the template 'total and deterministic' (their statements: YtacmgdaonacmeaaTotals.lean).
  GIVEN WITH THE SEED: the statements are not yours to turn. If you find one false, say at which input.
  Laid BY PROGRAM, IN A SANDBOX (cutbox-rows.mjs): the forced cells as the released guide's own fill.sh prints them over the translation a817cb201a1752ec… (all of the seat's roots in one cut). By AI agents, Wed Nov 11 2026. No macro, syntax, notation, axiom, sorry.
-/
import Derived.Test.YtacmgdaonacmeaaChecked
import GoSem.Claim
import GoSem.ClaimJoined
import GoSem.ClaimMapViews
import Derived.JoinedTies
import Derived.KernelRfl
namespace Go.Proofs.Ytacmgdaonacmeaa
/- THE CELL 'sum', in the pinned program and in every row, IS THE sha256 OF THE DUMP (.gsa) THAT YtacmgdaonacmeaaProg.lean LOADS. Nothing in Lean hashes anything: it is a label: what it is worth is what the hold of that sum in a sandbox is worth. -/
noncomputable def Try.pinned : Pinned := { name := "ytacmgdaonacmeaa", sum := "a817cb201a1752ec3d1a530d4f30de1c71c115725a027e4806fbd845932a5e69", checked := Try.checked }
namespace Rows
def none {H : Type} : Left H := { results := [], args := [] }

/-- 'laws.FnBestQuestion': WHATEVER THE INPUT: true; the input reads as it did. -/
def fnBestQuestionSpec : ChangeSpec := { name := "fnBestQuestion", fn := fun _ => fun
  | [d] => { results := [.lit (.bool true)], args := [d] }
  | _ => none }
def fnBestQuestionRow : OpenClaim := { program := "ytacmgdaonacmeaa", sum := "a817cb201a1752ec3d1a530d4f30de1c71c115725a027e4806fbd845932a5e69", func := "loop.example/measuredsorts/laws.FnBestQuestion", spec := "fnBestQuestion", unfollowed := true, recurses := true, apart := false }
def FnBestQuestionSaid : Prop := fnBestQuestionRow.holds Try.pinned (OpenSpec.ofChange fnBestQuestionSpec)

/-- ITS FALSE NEIGHBOUR: 'it returns false'. Refute it at one input. -/
def fnBestQuestionWrong : ChangeSpec := { name := "fnBestQuestion", fn := fun _ => fun
  | [d] => { results := [.lit (.bool false)], args := [d] }
  | _ => none }
def FnBestQuestionWrongFalsely : Prop := fnBestQuestionRow.holds Try.pinned (OpenSpec.ofChange fnBestQuestionWrong)

/-- 'laws.FnLeastAsks': WHATEVER THE INPUT: true; the input reads as it did. -/
def fnLeastAsksSpec : ChangeSpec := { name := "fnLeastAsks", fn := fun _ => fun
  | [d] => { results := [.lit (.bool true)], args := [d] }
  | _ => none }
def fnLeastAsksRow : OpenClaim := { program := "ytacmgdaonacmeaa", sum := "a817cb201a1752ec3d1a530d4f30de1c71c115725a027e4806fbd845932a5e69", func := "loop.example/measuredsorts/laws.FnLeastAsks", spec := "fnLeastAsks", unfollowed := true, recurses := true, apart := false }
def FnLeastAsksSaid : Prop := fnLeastAsksRow.holds Try.pinned (OpenSpec.ofChange fnLeastAsksSpec)

/-- ITS FALSE NEIGHBOUR: 'it returns false'. Refute it at one input. -/
def fnLeastAsksWrong : ChangeSpec := { name := "fnLeastAsks", fn := fun _ => fun
  | [d] => { results := [.lit (.bool false)], args := [d] }
  | _ => none }
def FnLeastAsksWrongFalsely : Prop := fnLeastAsksRow.holds Try.pinned (OpenSpec.ofChange fnLeastAsksWrong)

/-- 'laws.FnPickAsks': WHATEVER THE INPUT: true; the input reads as it did. -/
def fnPickAsksSpec : ChangeSpec := { name := "fnPickAsks", fn := fun _ => fun
  | [d] => { results := [.lit (.bool true)], args := [d] }
  | _ => none }
def fnPickAsksRow : OpenClaim := { program := "ytacmgdaonacmeaa", sum := "a817cb201a1752ec3d1a530d4f30de1c71c115725a027e4806fbd845932a5e69", func := "loop.example/measuredsorts/laws.FnPickAsks", spec := "fnPickAsks", unfollowed := true, recurses := true, apart := false }
def FnPickAsksSaid : Prop := fnPickAsksRow.holds Try.pinned (OpenSpec.ofChange fnPickAsksSpec)

/-- ITS FALSE NEIGHBOUR: 'it returns false'. Refute it at one input. -/
def fnPickAsksWrong : ChangeSpec := { name := "fnPickAsks", fn := fun _ => fun
  | [d] => { results := [.lit (.bool false)], args := [d] }
  | _ => none }
def FnPickAsksWrongFalsely : Prop := fnPickAsksRow.holds Try.pinned (OpenSpec.ofChange fnPickAsksWrong)

/-- 'laws.FnDuel': WHATEVER THE INPUT: true; the input reads as it did. -/
def fnDuelSpec : ChangeSpec := { name := "fnDuel", fn := fun _ => fun
  | [d] => { results := [.lit (.bool true)], args := [d] }
  | _ => none }
def fnDuelRow : OpenClaim := { program := "ytacmgdaonacmeaa", sum := "a817cb201a1752ec3d1a530d4f30de1c71c115725a027e4806fbd845932a5e69", func := "loop.example/measuredsorts/laws.FnDuel", spec := "fnDuel", unfollowed := true, recurses := true, apart := false }
def FnDuelSaid : Prop := fnDuelRow.holds Try.pinned (OpenSpec.ofChange fnDuelSpec)

/-- ITS FALSE NEIGHBOUR: 'it returns false'. Refute it at one input. -/
def fnDuelWrong : ChangeSpec := { name := "fnDuel", fn := fun _ => fun
  | [d] => { results := [.lit (.bool false)], args := [d] }
  | _ => none }
def FnDuelWrongFalsely : Prop := fnDuelRow.holds Try.pinned (OpenSpec.ofChange fnDuelWrong)

/-- 'laws.FnChainFacts': WHATEVER THE INPUT: true; the input reads as it did. -/
def fnChainFactsSpec : ChangeSpec := { name := "fnChainFacts", fn := fun _ => fun
  | [d] => { results := [.lit (.bool true)], args := [d] }
  | _ => none }
def fnChainFactsRow : OpenClaim := { program := "ytacmgdaonacmeaa", sum := "a817cb201a1752ec3d1a530d4f30de1c71c115725a027e4806fbd845932a5e69", func := "loop.example/measuredsorts/laws.FnChainFacts", spec := "fnChainFacts", unfollowed := true, recurses := true, apart := false }
def FnChainFactsSaid : Prop := fnChainFactsRow.holds Try.pinned (OpenSpec.ofChange fnChainFactsSpec)

/-- ITS FALSE NEIGHBOUR: 'it returns false'. Refute it at one input. -/
def fnChainFactsWrong : ChangeSpec := { name := "fnChainFacts", fn := fun _ => fun
  | [d] => { results := [.lit (.bool false)], args := [d] }
  | _ => none }
def FnChainFactsWrongFalsely : Prop := fnChainFactsRow.holds Try.pinned (OpenSpec.ofChange fnChainFactsWrong)

/-- 'laws.FnExactBestQuestion': WHATEVER THE INPUT: true; the input reads as it did. -/
def fnExactBestQuestionSpec : ChangeSpec := { name := "fnExactBestQuestion", fn := fun _ => fun
  | [d1, d2] => { results := [.lit (.bool true)], args := [d1, d2] }
  | _ => none }
def fnExactBestQuestionRow : OpenClaim := { program := "ytacmgdaonacmeaa", sum := "a817cb201a1752ec3d1a530d4f30de1c71c115725a027e4806fbd845932a5e69", func := "loop.example/measuredsorts/laws.FnExactBestQuestion", spec := "fnExactBestQuestion", unfollowed := true, recurses := true, apart := false }
def FnExactBestQuestionSaid : Prop := fnExactBestQuestionRow.holds Try.pinned (OpenSpec.ofChange fnExactBestQuestionSpec)

/-- ITS FALSE NEIGHBOUR: 'it returns false'. Refute it at one input. -/
def fnExactBestQuestionWrong : ChangeSpec := { name := "fnExactBestQuestion", fn := fun _ => fun
  | [d1, d2] => { results := [.lit (.bool false)], args := [d1, d2] }
  | _ => none }
def FnExactBestQuestionWrongFalsely : Prop := fnExactBestQuestionRow.holds Try.pinned (OpenSpec.ofChange fnExactBestQuestionWrong)

/-- 'laws.FnExactLeastAsks': WHATEVER THE INPUT: true; the input reads as it did. -/
def fnExactLeastAsksSpec : ChangeSpec := { name := "fnExactLeastAsks", fn := fun _ => fun
  | [d1, d2] => { results := [.lit (.bool true)], args := [d1, d2] }
  | _ => none }
def fnExactLeastAsksRow : OpenClaim := { program := "ytacmgdaonacmeaa", sum := "a817cb201a1752ec3d1a530d4f30de1c71c115725a027e4806fbd845932a5e69", func := "loop.example/measuredsorts/laws.FnExactLeastAsks", spec := "fnExactLeastAsks", unfollowed := true, recurses := true, apart := false }
def FnExactLeastAsksSaid : Prop := fnExactLeastAsksRow.holds Try.pinned (OpenSpec.ofChange fnExactLeastAsksSpec)

/-- ITS FALSE NEIGHBOUR: 'it returns false'. Refute it at one input. -/
def fnExactLeastAsksWrong : ChangeSpec := { name := "fnExactLeastAsks", fn := fun _ => fun
  | [d1, d2] => { results := [.lit (.bool false)], args := [d1, d2] }
  | _ => none }
def FnExactLeastAsksWrongFalsely : Prop := fnExactLeastAsksRow.holds Try.pinned (OpenSpec.ofChange fnExactLeastAsksWrong)

/-- 'laws.FnExactPickAsks': WHATEVER THE INPUT: true; the input reads as it did. -/
def fnExactPickAsksSpec : ChangeSpec := { name := "fnExactPickAsks", fn := fun _ => fun
  | [d1, d2, d3] => { results := [.lit (.bool true)], args := [d1, d2, d3] }
  | _ => none }
def fnExactPickAsksRow : OpenClaim := { program := "ytacmgdaonacmeaa", sum := "a817cb201a1752ec3d1a530d4f30de1c71c115725a027e4806fbd845932a5e69", func := "loop.example/measuredsorts/laws.FnExactPickAsks", spec := "fnExactPickAsks", unfollowed := true, recurses := true, apart := false }
def FnExactPickAsksSaid : Prop := fnExactPickAsksRow.holds Try.pinned (OpenSpec.ofChange fnExactPickAsksSpec)

/-- ITS FALSE NEIGHBOUR: 'it returns false'. Refute it at one input. -/
def fnExactPickAsksWrong : ChangeSpec := { name := "fnExactPickAsks", fn := fun _ => fun
  | [d1, d2, d3] => { results := [.lit (.bool false)], args := [d1, d2, d3] }
  | _ => none }
def FnExactPickAsksWrongFalsely : Prop := fnExactPickAsksRow.holds Try.pinned (OpenSpec.ofChange fnExactPickAsksWrong)

/-- 'laws.FnExactDuel': WHATEVER THE INPUT: true; the input reads as it did. -/
def fnExactDuelSpec : ChangeSpec := { name := "fnExactDuel", fn := fun _ => fun
  | [d] => { results := [.lit (.bool true)], args := [d] }
  | _ => none }
def fnExactDuelRow : OpenClaim := { program := "ytacmgdaonacmeaa", sum := "a817cb201a1752ec3d1a530d4f30de1c71c115725a027e4806fbd845932a5e69", func := "loop.example/measuredsorts/laws.FnExactDuel", spec := "fnExactDuel", unfollowed := true, recurses := true, apart := false }
def FnExactDuelSaid : Prop := fnExactDuelRow.holds Try.pinned (OpenSpec.ofChange fnExactDuelSpec)

/-- ITS FALSE NEIGHBOUR: 'it returns false'. Refute it at one input. -/
def fnExactDuelWrong : ChangeSpec := { name := "fnExactDuel", fn := fun _ => fun
  | [d] => { results := [.lit (.bool false)], args := [d] }
  | _ => none }
def FnExactDuelWrongFalsely : Prop := fnExactDuelRow.holds Try.pinned (OpenSpec.ofChange fnExactDuelWrong)

/- THE SECOND FORM. 'bulk': how many values and letters a reading holds, each counted each time it is reached (what is shared counts as often as it is met; a slice's spare places count too). A statement '..UptoSaid' is the law's where the arguments, and the package variables that the reading takes, are together of bulk at most 1048576: NARROWER than '..Said'. Prove '..Said' where nothing that the law and all that it calls make is longer than what came in: it says more and counts as full. Else prove '..UptoSaid'. A law counts once. -/
mutual
def uptoBulk {H : Type} : DataW H → Nat
  | .lit (.string bytes) => bytes.length + 1
  | .lit _ => 1
  | .nil => 1
  | .ptr d => uptoBulk d + 1
  | .slice elems spare => uptoBulkAll elems + uptoBulkAll spare + 1
  | .agg parts => uptoBulkAll parts + 1
  | .iface _ d => uptoBulk d + 1
  | .map entries => uptoBulkEntries entries + 1
  | .held _ => 1
def uptoBulkAll {H : Type} : List (DataW H) → Nat
  | [] => 0
  | d :: r => uptoBulk d + uptoBulkAll r
def uptoBulkEntries {H : Type} : List (Lit × DataW H) → Nat
  | [] => 0
  | x :: r => uptoBulkEntry x + uptoBulkEntries r
def uptoBulkEntry {H : Type} : Lit × DataW H → Nat
  | (.string bytes, d) => bytes.length + uptoBulk d + 1
  | (_, d) => uptoBulk d + 1
 end
def uptoSmall : (H : Type) → List (DataW H) → Bool := fun _ ds => decide (uptoBulkAll ds ≤ 1048576)
def OpenSpec.upto (s : _root_.Go.ChangeSpec) : _root_.Go.OpenSpec := { _root_.Go.OpenSpec.ofChange s with cond := some uptoSmall }

/-- 'laws.FnBestQuestion', WHERE WHAT IT READS IS OF BULK AT MOST 1048576: true; the input reads as it did. -/
def fnBestQuestionUptoRow : OpenClaim := { program := "ytacmgdaonacmeaa", sum := "a817cb201a1752ec3d1a530d4f30de1c71c115725a027e4806fbd845932a5e69", func := "loop.example/measuredsorts/laws.FnBestQuestion", spec := "fnBestQuestion", unfollowed := true, recurses := true, apart := false, narrowed := true }
def FnBestQuestionUptoSaid : Prop := fnBestQuestionUptoRow.holds Try.pinned (OpenSpec.upto fnBestQuestionSpec)

/-- 'laws.FnLeastAsks', WHERE WHAT IT READS IS OF BULK AT MOST 1048576: true; the input reads as it did. -/
def fnLeastAsksUptoRow : OpenClaim := { program := "ytacmgdaonacmeaa", sum := "a817cb201a1752ec3d1a530d4f30de1c71c115725a027e4806fbd845932a5e69", func := "loop.example/measuredsorts/laws.FnLeastAsks", spec := "fnLeastAsks", unfollowed := true, recurses := true, apart := false, narrowed := true }
def FnLeastAsksUptoSaid : Prop := fnLeastAsksUptoRow.holds Try.pinned (OpenSpec.upto fnLeastAsksSpec)

/-- 'laws.FnPickAsks', WHERE WHAT IT READS IS OF BULK AT MOST 1048576: true; the input reads as it did. -/
def fnPickAsksUptoRow : OpenClaim := { program := "ytacmgdaonacmeaa", sum := "a817cb201a1752ec3d1a530d4f30de1c71c115725a027e4806fbd845932a5e69", func := "loop.example/measuredsorts/laws.FnPickAsks", spec := "fnPickAsks", unfollowed := true, recurses := true, apart := false, narrowed := true }
def FnPickAsksUptoSaid : Prop := fnPickAsksUptoRow.holds Try.pinned (OpenSpec.upto fnPickAsksSpec)

/-- 'laws.FnDuel', WHERE WHAT IT READS IS OF BULK AT MOST 1048576: true; the input reads as it did. -/
def fnDuelUptoRow : OpenClaim := { program := "ytacmgdaonacmeaa", sum := "a817cb201a1752ec3d1a530d4f30de1c71c115725a027e4806fbd845932a5e69", func := "loop.example/measuredsorts/laws.FnDuel", spec := "fnDuel", unfollowed := true, recurses := true, apart := false, narrowed := true }
def FnDuelUptoSaid : Prop := fnDuelUptoRow.holds Try.pinned (OpenSpec.upto fnDuelSpec)

/-- 'laws.FnChainFacts', WHERE WHAT IT READS IS OF BULK AT MOST 1048576: true; the input reads as it did. -/
def fnChainFactsUptoRow : OpenClaim := { program := "ytacmgdaonacmeaa", sum := "a817cb201a1752ec3d1a530d4f30de1c71c115725a027e4806fbd845932a5e69", func := "loop.example/measuredsorts/laws.FnChainFacts", spec := "fnChainFacts", unfollowed := true, recurses := true, apart := false, narrowed := true }
def FnChainFactsUptoSaid : Prop := fnChainFactsUptoRow.holds Try.pinned (OpenSpec.upto fnChainFactsSpec)

/-- 'laws.FnExactBestQuestion', WHERE WHAT IT READS IS OF BULK AT MOST 1048576: true; the input reads as it did. -/
def fnExactBestQuestionUptoRow : OpenClaim := { program := "ytacmgdaonacmeaa", sum := "a817cb201a1752ec3d1a530d4f30de1c71c115725a027e4806fbd845932a5e69", func := "loop.example/measuredsorts/laws.FnExactBestQuestion", spec := "fnExactBestQuestion", unfollowed := true, recurses := true, apart := false, narrowed := true }
def FnExactBestQuestionUptoSaid : Prop := fnExactBestQuestionUptoRow.holds Try.pinned (OpenSpec.upto fnExactBestQuestionSpec)

/-- 'laws.FnExactLeastAsks', WHERE WHAT IT READS IS OF BULK AT MOST 1048576: true; the input reads as it did. -/
def fnExactLeastAsksUptoRow : OpenClaim := { program := "ytacmgdaonacmeaa", sum := "a817cb201a1752ec3d1a530d4f30de1c71c115725a027e4806fbd845932a5e69", func := "loop.example/measuredsorts/laws.FnExactLeastAsks", spec := "fnExactLeastAsks", unfollowed := true, recurses := true, apart := false, narrowed := true }
def FnExactLeastAsksUptoSaid : Prop := fnExactLeastAsksUptoRow.holds Try.pinned (OpenSpec.upto fnExactLeastAsksSpec)

/-- 'laws.FnExactPickAsks', WHERE WHAT IT READS IS OF BULK AT MOST 1048576: true; the input reads as it did. -/
def fnExactPickAsksUptoRow : OpenClaim := { program := "ytacmgdaonacmeaa", sum := "a817cb201a1752ec3d1a530d4f30de1c71c115725a027e4806fbd845932a5e69", func := "loop.example/measuredsorts/laws.FnExactPickAsks", spec := "fnExactPickAsks", unfollowed := true, recurses := true, apart := false, narrowed := true }
def FnExactPickAsksUptoSaid : Prop := fnExactPickAsksUptoRow.holds Try.pinned (OpenSpec.upto fnExactPickAsksSpec)

/-- 'laws.FnExactDuel', WHERE WHAT IT READS IS OF BULK AT MOST 1048576: true; the input reads as it did. -/
def fnExactDuelUptoRow : OpenClaim := { program := "ytacmgdaonacmeaa", sum := "a817cb201a1752ec3d1a530d4f30de1c71c115725a027e4806fbd845932a5e69", func := "loop.example/measuredsorts/laws.FnExactDuel", spec := "fnExactDuel", unfollowed := true, recurses := true, apart := false, narrowed := true }
def FnExactDuelUptoSaid : Prop := fnExactDuelUptoRow.holds Try.pinned (OpenSpec.upto fnExactDuelSpec)

end Rows
end Go.Proofs.Ytacmgdaonacmeaa
