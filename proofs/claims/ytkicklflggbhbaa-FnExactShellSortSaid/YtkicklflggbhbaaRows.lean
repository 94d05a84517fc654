/-
  No cell of these rows narrows 'for every input' (looked for: loops, veiled, ifaces, maps, wideKeys, modest, calm, conditions, laid).
  DERIVED. THE GIVEN ROWS OF THIS SEAT. 8 by the template 'for every input the law returns true; each argument reads behind the call as it read before'; 0 by the template 'total and deterministic' (their statements: YtkicklflggbhbaaTotals.lean).
  GIVEN WITH THE SEED: the statements are not yours to turn. If you find one false, say at which input.
  Laid BY PROGRAM, IN A SANDBOX (cutbox-rows.mjs): the forced cells as the released guide's own fill.sh prints them over the translation dc5d6f1a3e707cf7… (all of the seat's roots in one cut). By AI agents, Wed Nov 11 2026. No macro, syntax, notation, axiom, sorry.
-/
import Derived.Test.YtkicklflggbhbaaChecked
import GoSem.Claim
import GoSem.ClaimJoined
import GoSem.ClaimMapViews
import Derived.JoinedTies
import Derived.KernelRfl
namespace Go.Proofs.Ytkicklflggbhbaa
/- THE CELL 'sum', in the pinned program and in every row, IS THE sha256 OF THE DUMP (.gsa) THAT YtkicklflggbhbaaProg.lean LOADS. Nothing in Lean hashes anything: it is a label: what it is worth is what the hold of that sum in a sandbox is worth. -/
noncomputable def Try.pinned : Pinned := { name := "ytkicklflggbhbaa", sum := "dc5d6f1a3e707cf738e0e1b91cbb165ce4f6ad3eda14a894558ae028cc26532a", checked := Try.checked }
namespace Rows
def none {H : Type} : Left H := { results := [], args := [] }

/-- 'laws.FnExactInsertionSort': WHATEVER THE INPUT: true; the input reads as it did. -/
def fnExactInsertionSortSpec : ChangeSpec := { name := "fnExactInsertionSort", fn := fun _ => fun
  | [d] => { results := [.lit (.bool true)], args := [d] }
  | _ => none }
def fnExactInsertionSortRow : OpenClaim := { program := "ytkicklflggbhbaa", sum := "dc5d6f1a3e707cf738e0e1b91cbb165ce4f6ad3eda14a894558ae028cc26532a", func := "loop.example/measuredsorts/laws.FnExactInsertionSort", spec := "fnExactInsertionSort", apart := false }
def FnExactInsertionSortSaid : Prop := fnExactInsertionSortRow.holds Try.pinned (OpenSpec.ofChange fnExactInsertionSortSpec)

/-- ITS FALSE NEIGHBOUR: 'it returns false'. Refute it at one input. -/
def fnExactInsertionSortWrong : ChangeSpec := { name := "fnExactInsertionSort", fn := fun _ => fun
  | [d] => { results := [.lit (.bool false)], args := [d] }
  | _ => none }
def FnExactInsertionSortWrongFalsely : Prop := fnExactInsertionSortRow.holds Try.pinned (OpenSpec.ofChange fnExactInsertionSortWrong)

/-- 'laws.FnExactBinarySort': WHATEVER THE INPUT: true; the input reads as it did. -/
def fnExactBinarySortSpec : ChangeSpec := { name := "fnExactBinarySort", fn := fun _ => fun
  | [d] => { results := [.lit (.bool true)], args := [d] }
  | _ => none }
def fnExactBinarySortRow : OpenClaim := { program := "ytkicklflggbhbaa", sum := "dc5d6f1a3e707cf738e0e1b91cbb165ce4f6ad3eda14a894558ae028cc26532a", func := "loop.example/measuredsorts/laws.FnExactBinarySort", spec := "fnExactBinarySort", apart := false }
def FnExactBinarySortSaid : Prop := fnExactBinarySortRow.holds Try.pinned (OpenSpec.ofChange fnExactBinarySortSpec)

/-- ITS FALSE NEIGHBOUR: 'it returns false'. Refute it at one input. -/
def fnExactBinarySortWrong : ChangeSpec := { name := "fnExactBinarySort", fn := fun _ => fun
  | [d] => { results := [.lit (.bool false)], args := [d] }
  | _ => none }
def FnExactBinarySortWrongFalsely : Prop := fnExactBinarySortRow.holds Try.pinned (OpenSpec.ofChange fnExactBinarySortWrong)

/-- 'laws.FnExactBubbleSort': WHATEVER THE INPUT: true; the input reads as it did. -/
def fnExactBubbleSortSpec : ChangeSpec := { name := "fnExactBubbleSort", fn := fun _ => fun
  | [d] => { results := [.lit (.bool true)], args := [d] }
  | _ => none }
def fnExactBubbleSortRow : OpenClaim := { program := "ytkicklflggbhbaa", sum := "dc5d6f1a3e707cf738e0e1b91cbb165ce4f6ad3eda14a894558ae028cc26532a", func := "loop.example/measuredsorts/laws.FnExactBubbleSort", spec := "fnExactBubbleSort", apart := false }
def FnExactBubbleSortSaid : Prop := fnExactBubbleSortRow.holds Try.pinned (OpenSpec.ofChange fnExactBubbleSortSpec)

/-- ITS FALSE NEIGHBOUR: 'it returns false'. Refute it at one input. -/
def fnExactBubbleSortWrong : ChangeSpec := { name := "fnExactBubbleSort", fn := fun _ => fun
  | [d] => { results := [.lit (.bool false)], args := [d] }
  | _ => none }
def FnExactBubbleSortWrongFalsely : Prop := fnExactBubbleSortRow.holds Try.pinned (OpenSpec.ofChange fnExactBubbleSortWrong)

/-- 'laws.FnExactSelectionSort': WHATEVER THE INPUT: true; the input reads as it did. -/
def fnExactSelectionSortSpec : ChangeSpec := { name := "fnExactSelectionSort", fn := fun _ => fun
  | [d] => { results := [.lit (.bool true)], args := [d] }
  | _ => none }
def fnExactSelectionSortRow : OpenClaim := { program := "ytkicklflggbhbaa", sum := "dc5d6f1a3e707cf738e0e1b91cbb165ce4f6ad3eda14a894558ae028cc26532a", func := "loop.example/measuredsorts/laws.FnExactSelectionSort", spec := "fnExactSelectionSort", apart := false }
def FnExactSelectionSortSaid : Prop := fnExactSelectionSortRow.holds Try.pinned (OpenSpec.ofChange fnExactSelectionSortSpec)

/-- ITS FALSE NEIGHBOUR: 'it returns false'. Refute it at one input. -/
def fnExactSelectionSortWrong : ChangeSpec := { name := "fnExactSelectionSort", fn := fun _ => fun
  | [d] => { results := [.lit (.bool false)], args := [d] }
  | _ => none }
def FnExactSelectionSortWrongFalsely : Prop := fnExactSelectionSortRow.holds Try.pinned (OpenSpec.ofChange fnExactSelectionSortWrong)

/-- 'laws.FnExactShellSort': WHATEVER THE INPUT: true; the input reads as it did. -/
def fnExactShellSortSpec : ChangeSpec := { name := "fnExactShellSort", fn := fun _ => fun
  | [d1, d2] => { results := [.lit (.bool true)], args := [d1, d2] }
  | _ => none }
def fnExactShellSortRow : OpenClaim := { program := "ytkicklflggbhbaa", sum := "dc5d6f1a3e707cf738e0e1b91cbb165ce4f6ad3eda14a894558ae028cc26532a", func := "loop.example/measuredsorts/laws.FnExactShellSort", spec := "fnExactShellSort", apart := false }
def FnExactShellSortSaid : Prop := fnExactShellSortRow.holds Try.pinned (OpenSpec.ofChange fnExactShellSortSpec)

/-- ITS FALSE NEIGHBOUR: 'it returns false'. Refute it at one input. -/
def fnExactShellSortWrong : ChangeSpec := { name := "fnExactShellSort", fn := fun _ => fun
  | [d1, d2] => { results := [.lit (.bool false)], args := [d1, d2] }
  | _ => none }
def FnExactShellSortWrongFalsely : Prop := fnExactShellSortRow.holds Try.pinned (OpenSpec.ofChange fnExactShellSortWrong)

/-- 'laws.FnExactHeapSort': WHATEVER THE INPUT: true; the input reads as it did. -/
def fnExactHeapSortSpec : ChangeSpec := { name := "fnExactHeapSort", fn := fun _ => fun
  | [d] => { results := [.lit (.bool true)], args := [d] }
  | _ => none }
def fnExactHeapSortRow : OpenClaim := { program := "ytkicklflggbhbaa", sum := "dc5d6f1a3e707cf738e0e1b91cbb165ce4f6ad3eda14a894558ae028cc26532a", func := "loop.example/measuredsorts/laws.FnExactHeapSort", spec := "fnExactHeapSort", apart := false }
def FnExactHeapSortSaid : Prop := fnExactHeapSortRow.holds Try.pinned (OpenSpec.ofChange fnExactHeapSortSpec)

/-- ITS FALSE NEIGHBOUR: 'it returns false'. Refute it at one input. -/
def fnExactHeapSortWrong : ChangeSpec := { name := "fnExactHeapSort", fn := fun _ => fun
  | [d] => { results := [.lit (.bool false)], args := [d] }
  | _ => none }
def FnExactHeapSortWrongFalsely : Prop := fnExactHeapSortRow.holds Try.pinned (OpenSpec.ofChange fnExactHeapSortWrong)

/-- 'laws.FnExactFlipSort': WHATEVER THE INPUT: true; the input reads as it did. -/
def fnExactFlipSortSpec : ChangeSpec := { name := "fnExactFlipSort", fn := fun _ => fun
  | [d] => { results := [.lit (.bool true)], args := [d] }
  | _ => none }
def fnExactFlipSortRow : OpenClaim := { program := "ytkicklflggbhbaa", sum := "dc5d6f1a3e707cf738e0e1b91cbb165ce4f6ad3eda14a894558ae028cc26532a", func := "loop.example/measuredsorts/laws.FnExactFlipSort", spec := "fnExactFlipSort", apart := false }
def FnExactFlipSortSaid : Prop := fnExactFlipSortRow.holds Try.pinned (OpenSpec.ofChange fnExactFlipSortSpec)

/-- ITS FALSE NEIGHBOUR: 'it returns false'. Refute it at one input. -/
def fnExactFlipSortWrong : ChangeSpec := { name := "fnExactFlipSort", fn := fun _ => fun
  | [d] => { results := [.lit (.bool false)], args := [d] }
  | _ => none }
def FnExactFlipSortWrongFalsely : Prop := fnExactFlipSortRow.holds Try.pinned (OpenSpec.ofChange fnExactFlipSortWrong)

/-- 'laws.FnExactMergeMost': WHATEVER THE INPUT: true; the input reads as it did. -/
def fnExactMergeMostSpec : ChangeSpec := { name := "fnExactMergeMost", fn := fun _ => fun
  | [d] => { results := [.lit (.bool true)], args := [d] }
  | _ => none }
def fnExactMergeMostRow : OpenClaim := { program := "ytkicklflggbhbaa", sum := "dc5d6f1a3e707cf738e0e1b91cbb165ce4f6ad3eda14a894558ae028cc26532a", func := "loop.example/measuredsorts/laws.FnExactMergeMost", spec := "fnExactMergeMost", recurses := true, apart := false }
def FnExactMergeMostSaid : Prop := fnExactMergeMostRow.holds Try.pinned (OpenSpec.ofChange fnExactMergeMostSpec)

/-- ITS FALSE NEIGHBOUR: 'it returns false'. Refute it at one input. -/
def fnExactMergeMostWrong : ChangeSpec := { name := "fnExactMergeMost", fn := fun _ => fun
  | [d] => { results := [.lit (.bool false)], args := [d] }
  | _ => none }
def FnExactMergeMostWrongFalsely : Prop := fnExactMergeMostRow.holds Try.pinned (OpenSpec.ofChange fnExactMergeMostWrong)

/- THE SECOND FORM. 'bulk': how many values and letters a reading holds, each counted each time it is reached (what is shared counts as often as it is met; a slice's spare places count too). A statement '..UptoSaid' is the law's where the arguments, and the package variables that the reading takes, are together of bulk at most 1048576: NARROWER than '..Said'. Prove '..Said' where nothing that the law and all that it calls make is longer than what came in: it says more and counts as full. Else prove '..UptoSaid'. A law counts once. -/
mutual
def uptoBulk {H : Type} : DataW H → Nat
  | .lit (.string bytes) => bytes.length + 1
  | .lit _ => 1
  | .nil => 1
  | .ptr d => uptoBulk d + 1
  | .slice elems spare => uptoBulkAll elems + uptoBulkAll spare + 1
  | .agg parts => uptoBulkAll parts + 1
  | .iface _ d => uptoBulk d + 1
  | .map entries => uptoBulkEntries entries + 1
  | .held _ => 1
def uptoBulkAll {H : Type} : List (DataW H) → Nat
  | [] => 0
  | d :: r => uptoBulk d + uptoBulkAll r
def uptoBulkEntries {H : Type} : List (Lit × DataW H) → Nat
  | [] => 0
  | x :: r => uptoBulkEntry x + uptoBulkEntries r
def uptoBulkEntry {H : Type} : Lit × DataW H → Nat
  | (.string bytes, d) => bytes.length + uptoBulk d + 1
  | (_, d) => uptoBulk d + 1
 end
def uptoSmall : (H : Type) → List (DataW H) → Bool := fun _ ds => decide (uptoBulkAll ds ≤ 1048576)
def OpenSpec.upto (s : _root_.Go.ChangeSpec) : _root_.Go.OpenSpec := { _root_.Go.OpenSpec.ofChange s with cond := some uptoSmall }

/-- 'laws.FnExactInsertionSort', WHERE WHAT IT READS IS OF BULK AT MOST 1048576: true; the input reads as it did. -/
def fnExactInsertionSortUptoRow : OpenClaim := { program := "ytkicklflggbhbaa", sum := "dc5d6f1a3e707cf738e0e1b91cbb165ce4f6ad3eda14a894558ae028cc26532a", func := "loop.example/measuredsorts/laws.FnExactInsertionSort", spec := "fnExactInsertionSort", apart := false, narrowed := true }
def FnExactInsertionSortUptoSaid : Prop := fnExactInsertionSortUptoRow.holds Try.pinned (OpenSpec.upto fnExactInsertionSortSpec)

/-- 'laws.FnExactBinarySort', WHERE WHAT IT READS IS OF BULK AT MOST 1048576: true; the input reads as it did. -/
def fnExactBinarySortUptoRow : OpenClaim := { program := "ytkicklflggbhbaa", sum := "dc5d6f1a3e707cf738e0e1b91cbb165ce4f6ad3eda14a894558ae028cc26532a", func := "loop.example/measuredsorts/laws.FnExactBinarySort", spec := "fnExactBinarySort", apart := false, narrowed := true }
def FnExactBinarySortUptoSaid : Prop := fnExactBinarySortUptoRow.holds Try.pinned (OpenSpec.upto fnExactBinarySortSpec)

/-- 'laws.FnExactBubbleSort', WHERE WHAT IT READS IS OF BULK AT MOST 1048576: true; the input reads as it did. -/
def fnExactBubbleSortUptoRow : OpenClaim := { program := "ytkicklflggbhbaa", sum := "dc5d6f1a3e707cf738e0e1b91cbb165ce4f6ad3eda14a894558ae028cc26532a", func := "loop.example/measuredsorts/laws.FnExactBubbleSort", spec := "fnExactBubbleSort", apart := false, narrowed := true }
def FnExactBubbleSortUptoSaid : Prop := fnExactBubbleSortUptoRow.holds Try.pinned (OpenSpec.upto fnExactBubbleSortSpec)

/-- 'laws.FnExactSelectionSort', WHERE WHAT IT READS IS OF BULK AT MOST 1048576: true; the input reads as it did. -/
def fnExactSelectionSortUptoRow : OpenClaim := { program := "ytkicklflggbhbaa", sum := "dc5d6f1a3e707cf738e0e1b91cbb165ce4f6ad3eda14a894558ae028cc26532a", func := "loop.example/measuredsorts/laws.FnExactSelectionSort", spec := "fnExactSelectionSort", apart := false, narrowed := true }
def FnExactSelectionSortUptoSaid : Prop := fnExactSelectionSortUptoRow.holds Try.pinned (OpenSpec.upto fnExactSelectionSortSpec)

/-- 'laws.FnExactShellSort', WHERE WHAT IT READS IS OF BULK AT MOST 1048576: true; the input reads as it did. -/
def fnExactShellSortUptoRow : OpenClaim := { program := "ytkicklflggbhbaa", sum := "dc5d6f1a3e707cf738e0e1b91cbb165ce4f6ad3eda14a894558ae028cc26532a", func := "loop.example/measuredsorts/laws.FnExactShellSort", spec := "fnExactShellSort", apart := false, narrowed := true }
def FnExactShellSortUptoSaid : Prop := fnExactShellSortUptoRow.holds Try.pinned (OpenSpec.upto fnExactShellSortSpec)

/-- 'laws.FnExactHeapSort', WHERE WHAT IT READS IS OF BULK AT MOST 1048576: true; the input reads as it did. -/
def fnExactHeapSortUptoRow : OpenClaim := { program := "ytkicklflggbhbaa", sum := "dc5d6f1a3e707cf738e0e1b91cbb165ce4f6ad3eda14a894558ae028cc26532a", func := "loop.example/measuredsorts/laws.FnExactHeapSort", spec := "fnExactHeapSort", apart := false, narrowed := true }
def FnExactHeapSortUptoSaid : Prop := fnExactHeapSortUptoRow.holds Try.pinned (OpenSpec.upto fnExactHeapSortSpec)

/-- 'laws.FnExactFlipSort', WHERE WHAT IT READS IS OF BULK AT MOST 1048576: true; the input reads as it did. -/
def fnExactFlipSortUptoRow : OpenClaim := { program := "ytkicklflggbhbaa", sum := "dc5d6f1a3e707cf738e0e1b91cbb165ce4f6ad3eda14a894558ae028cc26532a", func := "loop.example/measuredsorts/laws.FnExactFlipSort", spec := "fnExactFlipSort", apart := false, narrowed := true }
def FnExactFlipSortUptoSaid : Prop := fnExactFlipSortUptoRow.holds Try.pinned (OpenSpec.upto fnExactFlipSortSpec)

/-- 'laws.FnExactMergeMost', WHERE WHAT IT READS IS OF BULK AT MOST 1048576: true; the input reads as it did. -/
def fnExactMergeMostUptoRow : OpenClaim := { program := "ytkicklflggbhbaa", sum := "dc5d6f1a3e707cf738e0e1b91cbb165ce4f6ad3eda14a894558ae028cc26532a", func := "loop.example/measuredsorts/laws.FnExactMergeMost", spec := "fnExactMergeMost", recurses := true, apart := false, narrowed := true }
def FnExactMergeMostUptoSaid : Prop := fnExactMergeMostUptoRow.holds Try.pinned (OpenSpec.upto fnExactMergeMostSpec)

end Rows
end Go.Proofs.Ytkicklflggbhbaa
