/-
  No cell of these rows narrows 'for every input' (looked for: loops, veiled, ifaces, maps, wideKeys, modest, calm, conditions, laid).
  DERIVED. THE GIVEN ROWS OF THIS SEAT. 8 by the template 'for every input the law returns true; each argument reads behind the call as it read before'; 0 by the template 'total and deterministic' (their statements: YtoapfnojfcjeeaaTotals.lean).
  GIVEN WITH THE SEED: the statements are not yours to turn. If you find one false, say at which input.
  Laid BY PROGRAM, IN A SANDBOX (cutbox-rows.mjs): the forced cells as the released guide's own fill.sh prints them over the translation ffbd5b58fb7c6b6a… (all of the seat's roots in one cut). By AI agents, Wed Nov 11 2026. No macro, syntax, notation, axiom, sorry.
-/
import Derived.Test.YtoapfnojfcjeeaaChecked
import GoSem.Claim
import GoSem.ClaimJoined
import GoSem.ClaimMapViews
import Derived.JoinedTies
import Derived.KernelRfl
namespace Go.Proofs.Ytoapfnojfcjeeaa
/- THE CELL 'sum', in the pinned program and in every row, IS THE sha256 OF THE DUMP (.gsa) THAT YtoapfnojfcjeeaaProg.lean LOADS. Nothing in Lean hashes anything: it is a label: what it is worth is what the hold of that sum in a sandbox is worth. -/
noncomputable def Try.pinned : Pinned := { name := "ytoapfnojfcjeeaa", sum := "ffbd5b58fb7c6b6a62828838a43be1862de3d83a550d5a0d8576377b80ca86ad", checked := Try.checked }
namespace Rows
def none {H : Type} : Left H := { results := [], args := [] }

/-- 'laws.FnKnownOf': WHATEVER THE INPUT: true; the input reads as it did. -/
def fnKnownOfSpec : ChangeSpec := { name := "fnKnownOf", fn := fun _ => fun
  | [d] => { results := [.lit (.bool true)], args := [d] }
  | _ => none }
def fnKnownOfRow : OpenClaim := { program := "ytoapfnojfcjeeaa", sum := "ffbd5b58fb7c6b6a62828838a43be1862de3d83a550d5a0d8576377b80ca86ad", func := "loop.example/measuredsorts/laws.FnKnownOf", spec := "fnKnownOf", unfollowed := true, recurses := true, apart := false }
def FnKnownOfSaid : Prop := fnKnownOfRow.holds Try.pinned (OpenSpec.ofChange fnKnownOfSpec)

/-- ITS FALSE NEIGHBOUR: 'it returns false'. Refute it at one input. -/
def fnKnownOfWrong : ChangeSpec := { name := "fnKnownOf", fn := fun _ => fun
  | [d] => { results := [.lit (.bool false)], args := [d] }
  | _ => none }
def FnKnownOfWrongFalsely : Prop := fnKnownOfRow.holds Try.pinned (OpenSpec.ofChange fnKnownOfWrong)

/-- 'laws.FnOrdersLeft': WHATEVER THE INPUT: true; the input reads as it did. -/
def fnOrdersLeftSpec : ChangeSpec := { name := "fnOrdersLeft", fn := fun _ => fun
  | [d] => { results := [.lit (.bool true)], args := [d] }
  | _ => none }
def fnOrdersLeftRow : OpenClaim := { program := "ytoapfnojfcjeeaa", sum := "ffbd5b58fb7c6b6a62828838a43be1862de3d83a550d5a0d8576377b80ca86ad", func := "loop.example/measuredsorts/laws.FnOrdersLeft", spec := "fnOrdersLeft", unfollowed := true, recurses := true, apart := false }
def FnOrdersLeftSaid : Prop := fnOrdersLeftRow.holds Try.pinned (OpenSpec.ofChange fnOrdersLeftSpec)

/-- ITS FALSE NEIGHBOUR: 'it returns false'. Refute it at one input. -/
def fnOrdersLeftWrong : ChangeSpec := { name := "fnOrdersLeft", fn := fun _ => fun
  | [d] => { results := [.lit (.bool false)], args := [d] }
  | _ => none }
def FnOrdersLeftWrongFalsely : Prop := fnOrdersLeftRow.holds Try.pinned (OpenSpec.ofChange fnOrdersLeftWrong)

/-- 'laws.FnSplitOf': WHATEVER THE INPUT: true; the input reads as it did. -/
def fnSplitOfSpec : ChangeSpec := { name := "fnSplitOf", fn := fun _ => fun
  | [d] => { results := [.lit (.bool true)], args := [d] }
  | _ => none }
def fnSplitOfRow : OpenClaim := { program := "ytoapfnojfcjeeaa", sum := "ffbd5b58fb7c6b6a62828838a43be1862de3d83a550d5a0d8576377b80ca86ad", func := "loop.example/measuredsorts/laws.FnSplitOf", spec := "fnSplitOf", unfollowed := true, recurses := true, apart := false }
def FnSplitOfSaid : Prop := fnSplitOfRow.holds Try.pinned (OpenSpec.ofChange fnSplitOfSpec)

/-- ITS FALSE NEIGHBOUR: 'it returns false'. Refute it at one input. -/
def fnSplitOfWrong : ChangeSpec := { name := "fnSplitOf", fn := fun _ => fun
  | [d] => { results := [.lit (.bool false)], args := [d] }
  | _ => none }
def FnSplitOfWrongFalsely : Prop := fnSplitOfRow.holds Try.pinned (OpenSpec.ofChange fnSplitOfWrong)

/-- 'laws.FnBoundOf': WHATEVER THE INPUT: true; the input reads as it did. -/
def fnBoundOfSpec : ChangeSpec := { name := "fnBoundOf", fn := fun _ => fun
  | [d] => { results := [.lit (.bool true)], args := [d] }
  | _ => none }
def fnBoundOfRow : OpenClaim := { program := "ytoapfnojfcjeeaa", sum := "ffbd5b58fb7c6b6a62828838a43be1862de3d83a550d5a0d8576377b80ca86ad", func := "loop.example/measuredsorts/laws.FnBoundOf", spec := "fnBoundOf", unfollowed := true, recurses := true, apart := false }
def FnBoundOfSaid : Prop := fnBoundOfRow.holds Try.pinned (OpenSpec.ofChange fnBoundOfSpec)

/-- ITS FALSE NEIGHBOUR: 'it returns false'. Refute it at one input. -/
def fnBoundOfWrong : ChangeSpec := { name := "fnBoundOf", fn := fun _ => fun
  | [d] => { results := [.lit (.bool false)], args := [d] }
  | _ => none }
def FnBoundOfWrongFalsely : Prop := fnBoundOfRow.holds Try.pinned (OpenSpec.ofChange fnBoundOfWrong)

/-- 'laws.FnChainFacts': WHATEVER THE INPUT: true; the input reads as it did. -/
def fnChainFactsSpec : ChangeSpec := { name := "fnChainFacts", fn := fun _ => fun
  | [d] => { results := [.lit (.bool true)], args := [d] }
  | _ => none }
def fnChainFactsRow : OpenClaim := { program := "ytoapfnojfcjeeaa", sum := "ffbd5b58fb7c6b6a62828838a43be1862de3d83a550d5a0d8576377b80ca86ad", func := "loop.example/measuredsorts/laws.FnChainFacts", spec := "fnChainFacts", unfollowed := true, recurses := true, apart := false }
def FnChainFactsSaid : Prop := fnChainFactsRow.holds Try.pinned (OpenSpec.ofChange fnChainFactsSpec)

/-- ITS FALSE NEIGHBOUR: 'it returns false'. Refute it at one input. -/
def fnChainFactsWrong : ChangeSpec := { name := "fnChainFacts", fn := fun _ => fun
  | [d] => { results := [.lit (.bool false)], args := [d] }
  | _ => none }
def FnChainFactsWrongFalsely : Prop := fnChainFactsRow.holds Try.pinned (OpenSpec.ofChange fnChainFactsWrong)

/-- 'laws.FnExactOrdersLeft': WHATEVER THE INPUT: true; the input reads as it did. -/
def fnExactOrdersLeftSpec : ChangeSpec := { name := "fnExactOrdersLeft", fn := fun _ => fun
  | [d1, d2] => { results := [.lit (.bool true)], args := [d1, d2] }
  | _ => none }
def fnExactOrdersLeftRow : OpenClaim := { program := "ytoapfnojfcjeeaa", sum := "ffbd5b58fb7c6b6a62828838a43be1862de3d83a550d5a0d8576377b80ca86ad", func := "loop.example/measuredsorts/laws.FnExactOrdersLeft", spec := "fnExactOrdersLeft", unfollowed := true, recurses := true, apart := false }
def FnExactOrdersLeftSaid : Prop := fnExactOrdersLeftRow.holds Try.pinned (OpenSpec.ofChange fnExactOrdersLeftSpec)

/-- ITS FALSE NEIGHBOUR: 'it returns false'. Refute it at one input. -/
def fnExactOrdersLeftWrong : ChangeSpec := { name := "fnExactOrdersLeft", fn := fun _ => fun
  | [d1, d2] => { results := [.lit (.bool false)], args := [d1, d2] }
  | _ => none }
def FnExactOrdersLeftWrongFalsely : Prop := fnExactOrdersLeftRow.holds Try.pinned (OpenSpec.ofChange fnExactOrdersLeftWrong)

/-- 'laws.FnExactSplitOf': WHATEVER THE INPUT: true; the input reads as it did. -/
def fnExactSplitOfSpec : ChangeSpec := { name := "fnExactSplitOf", fn := fun _ => fun
  | [d1, d2, d3, d4] => { results := [.lit (.bool true)], args := [d1, d2, d3, d4] }
  | _ => none }
def fnExactSplitOfRow : OpenClaim := { program := "ytoapfnojfcjeeaa", sum := "ffbd5b58fb7c6b6a62828838a43be1862de3d83a550d5a0d8576377b80ca86ad", func := "loop.example/measuredsorts/laws.FnExactSplitOf", spec := "fnExactSplitOf", unfollowed := true, recurses := true, apart := false }
def FnExactSplitOfSaid : Prop := fnExactSplitOfRow.holds Try.pinned (OpenSpec.ofChange fnExactSplitOfSpec)

/-- ITS FALSE NEIGHBOUR: 'it returns false'. Refute it at one input. -/
def fnExactSplitOfWrong : ChangeSpec := { name := "fnExactSplitOf", fn := fun _ => fun
  | [d1, d2, d3, d4] => { results := [.lit (.bool false)], args := [d1, d2, d3, d4] }
  | _ => none }
def FnExactSplitOfWrongFalsely : Prop := fnExactSplitOfRow.holds Try.pinned (OpenSpec.ofChange fnExactSplitOfWrong)

/-- 'laws.FnExactBoundOf': WHATEVER THE INPUT: true; the input reads as it did. -/
def fnExactBoundOfSpec : ChangeSpec := { name := "fnExactBoundOf", fn := fun _ => fun
  | [d1, d2] => { results := [.lit (.bool true)], args := [d1, d2] }
  | _ => none }
def fnExactBoundOfRow : OpenClaim := { program := "ytoapfnojfcjeeaa", sum := "ffbd5b58fb7c6b6a62828838a43be1862de3d83a550d5a0d8576377b80ca86ad", func := "loop.example/measuredsorts/laws.FnExactBoundOf", spec := "fnExactBoundOf", unfollowed := true, recurses := true, apart := false }
def FnExactBoundOfSaid : Prop := fnExactBoundOfRow.holds Try.pinned (OpenSpec.ofChange fnExactBoundOfSpec)

/-- ITS FALSE NEIGHBOUR: 'it returns false'. Refute it at one input. -/
def fnExactBoundOfWrong : ChangeSpec := { name := "fnExactBoundOf", fn := fun _ => fun
  | [d1, d2] => { results := [.lit (.bool false)], args := [d1, d2] }
  | _ => none }
def FnExactBoundOfWrongFalsely : Prop := fnExactBoundOfRow.holds Try.pinned (OpenSpec.ofChange fnExactBoundOfWrong)

/- THE SECOND FORM. 'bulk': how many values and letters a reading holds, each counted each time it is reached (what is shared counts as often as it is met; a slice's spare places count too). A statement '..UptoSaid' is the law's where the arguments, and the package variables that the reading takes, are together of bulk at most 1048576: NARROWER than '..Said'. Prove '..Said' where nothing that the law and all that it calls make is longer than what came in: it says more and counts as full. Else prove '..UptoSaid'. A law counts once. -/
mutual
def uptoBulk {H : Type} : DataW H → Nat
  | .lit (.string bytes) => bytes.length + 1
  | .lit _ => 1
  | .nil => 1
  | .ptr d => uptoBulk d + 1
  | .slice elems spare => uptoBulkAll elems + uptoBulkAll spare + 1
  | .agg parts => uptoBulkAll parts + 1
  | .iface _ d => uptoBulk d + 1
  | .map entries => uptoBulkEntries entries + 1
  | .held _ => 1
def uptoBulkAll {H : Type} : List (DataW H) → Nat
  | [] => 0
  | d :: r => uptoBulk d + uptoBulkAll r
def uptoBulkEntries {H : Type} : List (Lit × DataW H) → Nat
  | [] => 0
  | x :: r => uptoBulkEntry x + uptoBulkEntries r
def uptoBulkEntry {H : Type} : Lit × DataW H → Nat
  | (.string bytes, d) => bytes.length + uptoBulk d + 1
  | (_, d) => uptoBulk d + 1
 end
def uptoSmall : (H : Type) → List (DataW H) → Bool := fun _ ds => decide (uptoBulkAll ds ≤ 1048576)
def OpenSpec.upto (s : _root_.Go.ChangeSpec) : _root_.Go.OpenSpec := { _root_.Go.OpenSpec.ofChange s with cond := some uptoSmall }

/-- 'laws.FnKnownOf', WHERE WHAT IT READS IS OF BULK AT MOST 1048576: true; the input reads as it did. -/
def fnKnownOfUptoRow : OpenClaim := { program := "ytoapfnojfcjeeaa", sum := "ffbd5b58fb7c6b6a62828838a43be1862de3d83a550d5a0d8576377b80ca86ad", func := "loop.example/measuredsorts/laws.FnKnownOf", spec := "fnKnownOf", unfollowed := true, recurses := true, apart := false, narrowed := true }
def FnKnownOfUptoSaid : Prop := fnKnownOfUptoRow.holds Try.pinned (OpenSpec.upto fnKnownOfSpec)

/-- 'laws.FnOrdersLeft', WHERE WHAT IT READS IS OF BULK AT MOST 1048576: true; the input reads as it did. -/
def fnOrdersLeftUptoRow : OpenClaim := { program := "ytoapfnojfcjeeaa", sum := "ffbd5b58fb7c6b6a62828838a43be1862de3d83a550d5a0d8576377b80ca86ad", func := "loop.example/measuredsorts/laws.FnOrdersLeft", spec := "fnOrdersLeft", unfollowed := true, recurses := true, apart := false, narrowed := true }
def FnOrdersLeftUptoSaid : Prop := fnOrdersLeftUptoRow.holds Try.pinned (OpenSpec.upto fnOrdersLeftSpec)

/-- 'laws.FnSplitOf', WHERE WHAT IT READS IS OF BULK AT MOST 1048576: true; the input reads as it did. -/
def fnSplitOfUptoRow : OpenClaim := { program := "ytoapfnojfcjeeaa", sum := "ffbd5b58fb7c6b6a62828838a43be1862de3d83a550d5a0d8576377b80ca86ad", func := "loop.example/measuredsorts/laws.FnSplitOf", spec := "fnSplitOf", unfollowed := true, recurses := true, apart := false, narrowed := true }
def FnSplitOfUptoSaid : Prop := fnSplitOfUptoRow.holds Try.pinned (OpenSpec.upto fnSplitOfSpec)

/-- 'laws.FnBoundOf', WHERE WHAT IT READS IS OF BULK AT MOST 1048576: true; the input reads as it did. -/
def fnBoundOfUptoRow : OpenClaim := { program := "ytoapfnojfcjeeaa", sum := "ffbd5b58fb7c6b6a62828838a43be1862de3d83a550d5a0d8576377b80ca86ad", func := "loop.example/measuredsorts/laws.FnBoundOf", spec := "fnBoundOf", unfollowed := true, recurses := true, apart := false, narrowed := true }
def FnBoundOfUptoSaid : Prop := fnBoundOfUptoRow.holds Try.pinned (OpenSpec.upto fnBoundOfSpec)

/-- 'laws.FnChainFacts', WHERE WHAT IT READS IS OF BULK AT MOST 1048576: true; the input reads as it did. -/
def fnChainFactsUptoRow : OpenClaim := { program := "ytoapfnojfcjeeaa", sum := "ffbd5b58fb7c6b6a62828838a43be1862de3d83a550d5a0d8576377b80ca86ad", func := "loop.example/measuredsorts/laws.FnChainFacts", spec := "fnChainFacts", unfollowed := true, recurses := true, apart := false, narrowed := true }
def FnChainFactsUptoSaid : Prop := fnChainFactsUptoRow.holds Try.pinned (OpenSpec.upto fnChainFactsSpec)

/-- 'laws.FnExactOrdersLeft', WHERE WHAT IT READS IS OF BULK AT MOST 1048576: true; the input reads as it did. -/
def fnExactOrdersLeftUptoRow : OpenClaim := { program := "ytoapfnojfcjeeaa", sum := "ffbd5b58fb7c6b6a62828838a43be1862de3d83a550d5a0d8576377b80ca86ad", func := "loop.example/measuredsorts/laws.FnExactOrdersLeft", spec := "fnExactOrdersLeft", unfollowed := true, recurses := true, apart := false, narrowed := true }
def FnExactOrdersLeftUptoSaid : Prop := fnExactOrdersLeftUptoRow.holds Try.pinned (OpenSpec.upto fnExactOrdersLeftSpec)

/-- 'laws.FnExactSplitOf', WHERE WHAT IT READS IS OF BULK AT MOST 1048576: true; the input reads as it did. -/
def fnExactSplitOfUptoRow : OpenClaim := { program := "ytoapfnojfcjeeaa", sum := "ffbd5b58fb7c6b6a62828838a43be1862de3d83a550d5a0d8576377b80ca86ad", func := "loop.example/measuredsorts/laws.FnExactSplitOf", spec := "fnExactSplitOf", unfollowed := true, recurses := true, apart := false, narrowed := true }
def FnExactSplitOfUptoSaid : Prop := fnExactSplitOfUptoRow.holds Try.pinned (OpenSpec.upto fnExactSplitOfSpec)

/-- 'laws.FnExactBoundOf', WHERE WHAT IT READS IS OF BULK AT MOST 1048576: true; the input reads as it did. -/
def fnExactBoundOfUptoRow : OpenClaim := { program := "ytoapfnojfcjeeaa", sum := "ffbd5b58fb7c6b6a62828838a43be1862de3d83a550d5a0d8576377b80ca86ad", func := "loop.example/measuredsorts/laws.FnExactBoundOf", spec := "fnExactBoundOf", unfollowed := true, recurses := true, apart := false, narrowed := true }
def FnExactBoundOfUptoSaid : Prop := fnExactBoundOfUptoRow.holds Try.pinned (OpenSpec.upto fnExactBoundOfSpec)

end Rows
end Go.Proofs.Ytoapfnojfcjeeaa
