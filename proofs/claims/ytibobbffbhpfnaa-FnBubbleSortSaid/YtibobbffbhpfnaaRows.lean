/-
  No cell of these rows narrows 'for every input' (looked for: loops, veiled, ifaces, maps, wideKeys, modest, calm, conditions, laid).
  DERIVED. THE GIVEN ROWS OF THIS SEAT. 12 by the template 'for every input the law returns true; each argument reads behind the call as it read before'; 0 by the template 'total and deterministic' (their statements: YtibobbffbhpfnaaTotals.lean).
  GIVEN WITH THE SEED: the statements are not yours to turn. If you find one false, say at which input.
  Laid BY PROGRAM, IN A SANDBOX (cutbox-rows.mjs): the forced cells as the released guide's own fill.sh prints them over the translation 66b1f5dd6cb10167… (all of the seat's roots in one cut). By AI agents, Wed Nov 11 2026. No macro, syntax, notation, axiom, sorry.
-/
import Derived.Test.YtibobbffbhpfnaaChecked
import GoSem.Claim
import GoSem.ClaimJoined
import GoSem.ClaimMapViews
import Derived.JoinedTies
import Derived.KernelRfl
namespace Go.Proofs.Ytibobbffbhpfnaa
/- THE CELL 'sum', in the pinned program and in every row, IS THE sha256 OF THE DUMP (.gsa) THAT YtibobbffbhpfnaaProg.lean LOADS. Nothing in Lean hashes anything: it is a label: what it is worth is what the hold of that sum in a sandbox is worth. -/
noncomputable def Try.pinned : Pinned := { name := "ytibobbffbhpfnaa", sum := "66b1f5dd6cb101679941f9faeaade1484939854e075449a11c942456ae01d44c", checked := Try.checked }
namespace Rows
def none {H : Type} : Left H := { results := [], args := [] }

/-- 'laws.FnValidKeys': WHATEVER THE INPUT: true; the input reads as it did. -/
def fnValidKeysSpec : ChangeSpec := { name := "fnValidKeys", fn := fun _ => fun
  | [d] => { results := [.lit (.bool true)], args := [d] }
  | _ => none }
def fnValidKeysRow : OpenClaim := { program := "ytibobbffbhpfnaa", sum := "66b1f5dd6cb101679941f9faeaade1484939854e075449a11c942456ae01d44c", func := "loop.example/measuredsorts/laws.FnValidKeys", spec := "fnValidKeys", apart := false }
def FnValidKeysSaid : Prop := fnValidKeysRow.holds Try.pinned (OpenSpec.ofChange fnValidKeysSpec)

/-- ITS FALSE NEIGHBOUR: 'it returns false'. Refute it at one input. -/
def fnValidKeysWrong : ChangeSpec := { name := "fnValidKeys", fn := fun _ => fun
  | [d] => { results := [.lit (.bool false)], args := [d] }
  | _ => none }
def FnValidKeysWrongFalsely : Prop := fnValidKeysRow.holds Try.pinned (OpenSpec.ofChange fnValidKeysWrong)

/-- 'laws.FnIsSorted': WHATEVER THE INPUT: true; the input reads as it did. -/
def fnIsSortedSpec : ChangeSpec := { name := "fnIsSorted", fn := fun _ => fun
  | [d] => { results := [.lit (.bool true)], args := [d] }
  | _ => none }
def fnIsSortedRow : OpenClaim := { program := "ytibobbffbhpfnaa", sum := "66b1f5dd6cb101679941f9faeaade1484939854e075449a11c942456ae01d44c", func := "loop.example/measuredsorts/laws.FnIsSorted", spec := "fnIsSorted", apart := false }
def FnIsSortedSaid : Prop := fnIsSortedRow.holds Try.pinned (OpenSpec.ofChange fnIsSortedSpec)

/-- ITS FALSE NEIGHBOUR: 'it returns false'. Refute it at one input. -/
def fnIsSortedWrong : ChangeSpec := { name := "fnIsSorted", fn := fun _ => fun
  | [d] => { results := [.lit (.bool false)], args := [d] }
  | _ => none }
def FnIsSortedWrongFalsely : Prop := fnIsSortedRow.holds Try.pinned (OpenSpec.ofChange fnIsSortedWrong)

/-- 'laws.FnPlacesOf': WHATEVER THE INPUT: true; the input reads as it did. -/
def fnPlacesOfSpec : ChangeSpec := { name := "fnPlacesOf", fn := fun _ => fun
  | [d] => { results := [.lit (.bool true)], args := [d] }
  | _ => none }
def fnPlacesOfRow : OpenClaim := { program := "ytibobbffbhpfnaa", sum := "66b1f5dd6cb101679941f9faeaade1484939854e075449a11c942456ae01d44c", func := "loop.example/measuredsorts/laws.FnPlacesOf", spec := "fnPlacesOf", apart := false }
def FnPlacesOfSaid : Prop := fnPlacesOfRow.holds Try.pinned (OpenSpec.ofChange fnPlacesOfSpec)

/-- ITS FALSE NEIGHBOUR: 'it returns false'. Refute it at one input. -/
def fnPlacesOfWrong : ChangeSpec := { name := "fnPlacesOf", fn := fun _ => fun
  | [d] => { results := [.lit (.bool false)], args := [d] }
  | _ => none }
def FnPlacesOfWrongFalsely : Prop := fnPlacesOfRow.holds Try.pinned (OpenSpec.ofChange fnPlacesOfWrong)

/-- 'laws.FnSortedKeys': WHATEVER THE INPUT: true; the input reads as it did. -/
def fnSortedKeysSpec : ChangeSpec := { name := "fnSortedKeys", fn := fun _ => fun
  | [d] => { results := [.lit (.bool true)], args := [d] }
  | _ => none }
def fnSortedKeysRow : OpenClaim := { program := "ytibobbffbhpfnaa", sum := "66b1f5dd6cb101679941f9faeaade1484939854e075449a11c942456ae01d44c", func := "loop.example/measuredsorts/laws.FnSortedKeys", spec := "fnSortedKeys", apart := false }
def FnSortedKeysSaid : Prop := fnSortedKeysRow.holds Try.pinned (OpenSpec.ofChange fnSortedKeysSpec)

/-- ITS FALSE NEIGHBOUR: 'it returns false'. Refute it at one input. -/
def fnSortedKeysWrong : ChangeSpec := { name := "fnSortedKeys", fn := fun _ => fun
  | [d] => { results := [.lit (.bool false)], args := [d] }
  | _ => none }
def FnSortedKeysWrongFalsely : Prop := fnSortedKeysRow.holds Try.pinned (OpenSpec.ofChange fnSortedKeysWrong)

/-- 'laws.FnInversionsOf': WHATEVER THE INPUT: true; the input reads as it did. -/
def fnInversionsOfSpec : ChangeSpec := { name := "fnInversionsOf", fn := fun _ => fun
  | [d] => { results := [.lit (.bool true)], args := [d] }
  | _ => none }
def fnInversionsOfRow : OpenClaim := { program := "ytibobbffbhpfnaa", sum := "66b1f5dd6cb101679941f9faeaade1484939854e075449a11c942456ae01d44c", func := "loop.example/measuredsorts/laws.FnInversionsOf", spec := "fnInversionsOf", apart := false }
def FnInversionsOfSaid : Prop := fnInversionsOfRow.holds Try.pinned (OpenSpec.ofChange fnInversionsOfSpec)

/-- ITS FALSE NEIGHBOUR: 'it returns false'. Refute it at one input. -/
def fnInversionsOfWrong : ChangeSpec := { name := "fnInversionsOf", fn := fun _ => fun
  | [d] => { results := [.lit (.bool false)], args := [d] }
  | _ => none }
def FnInversionsOfWrongFalsely : Prop := fnInversionsOfRow.holds Try.pinned (OpenSpec.ofChange fnInversionsOfWrong)

/-- 'laws.FnRunsOf': WHATEVER THE INPUT: true; the input reads as it did. -/
def fnRunsOfSpec : ChangeSpec := { name := "fnRunsOf", fn := fun _ => fun
  | [d] => { results := [.lit (.bool true)], args := [d] }
  | _ => none }
def fnRunsOfRow : OpenClaim := { program := "ytibobbffbhpfnaa", sum := "66b1f5dd6cb101679941f9faeaade1484939854e075449a11c942456ae01d44c", func := "loop.example/measuredsorts/laws.FnRunsOf", spec := "fnRunsOf", apart := false }
def FnRunsOfSaid : Prop := fnRunsOfRow.holds Try.pinned (OpenSpec.ofChange fnRunsOfSpec)

/-- ITS FALSE NEIGHBOUR: 'it returns false'. Refute it at one input. -/
def fnRunsOfWrong : ChangeSpec := { name := "fnRunsOf", fn := fun _ => fun
  | [d] => { results := [.lit (.bool false)], args := [d] }
  | _ => none }
def FnRunsOfWrongFalsely : Prop := fnRunsOfRow.holds Try.pinned (OpenSpec.ofChange fnRunsOfWrong)

/-- 'laws.FnMisplacedOf': WHATEVER THE INPUT: true; the input reads as it did. -/
def fnMisplacedOfSpec : ChangeSpec := { name := "fnMisplacedOf", fn := fun _ => fun
  | [d] => { results := [.lit (.bool true)], args := [d] }
  | _ => none }
def fnMisplacedOfRow : OpenClaim := { program := "ytibobbffbhpfnaa", sum := "66b1f5dd6cb101679941f9faeaade1484939854e075449a11c942456ae01d44c", func := "loop.example/measuredsorts/laws.FnMisplacedOf", spec := "fnMisplacedOf", apart := false }
def FnMisplacedOfSaid : Prop := fnMisplacedOfRow.holds Try.pinned (OpenSpec.ofChange fnMisplacedOfSpec)

/-- ITS FALSE NEIGHBOUR: 'it returns false'. Refute it at one input. -/
def fnMisplacedOfWrong : ChangeSpec := { name := "fnMisplacedOf", fn := fun _ => fun
  | [d] => { results := [.lit (.bool false)], args := [d] }
  | _ => none }
def FnMisplacedOfWrongFalsely : Prop := fnMisplacedOfRow.holds Try.pinned (OpenSpec.ofChange fnMisplacedOfWrong)

/-- 'laws.FnInsertionSort': WHATEVER THE INPUT: true; the input reads as it did. -/
def fnInsertionSortSpec : ChangeSpec := { name := "fnInsertionSort", fn := fun _ => fun
  | [d] => { results := [.lit (.bool true)], args := [d] }
  | _ => none }
def fnInsertionSortRow : OpenClaim := { program := "ytibobbffbhpfnaa", sum := "66b1f5dd6cb101679941f9faeaade1484939854e075449a11c942456ae01d44c", func := "loop.example/measuredsorts/laws.FnInsertionSort", spec := "fnInsertionSort", apart := false }
def FnInsertionSortSaid : Prop := fnInsertionSortRow.holds Try.pinned (OpenSpec.ofChange fnInsertionSortSpec)

/-- ITS FALSE NEIGHBOUR: 'it returns false'. Refute it at one input. -/
def fnInsertionSortWrong : ChangeSpec := { name := "fnInsertionSort", fn := fun _ => fun
  | [d] => { results := [.lit (.bool false)], args := [d] }
  | _ => none }
def FnInsertionSortWrongFalsely : Prop := fnInsertionSortRow.holds Try.pinned (OpenSpec.ofChange fnInsertionSortWrong)

/-- 'laws.FnBinarySort': WHATEVER THE INPUT: true; the input reads as it did. -/
def fnBinarySortSpec : ChangeSpec := { name := "fnBinarySort", fn := fun _ => fun
  | [d] => { results := [.lit (.bool true)], args := [d] }
  | _ => none }
def fnBinarySortRow : OpenClaim := { program := "ytibobbffbhpfnaa", sum := "66b1f5dd6cb101679941f9faeaade1484939854e075449a11c942456ae01d44c", func := "loop.example/measuredsorts/laws.FnBinarySort", spec := "fnBinarySort", unfollowed := true, recurses := true, apart := false }
def FnBinarySortSaid : Prop := fnBinarySortRow.holds Try.pinned (OpenSpec.ofChange fnBinarySortSpec)

/-- ITS FALSE NEIGHBOUR: 'it returns false'. Refute it at one input. -/
def fnBinarySortWrong : ChangeSpec := { name := "fnBinarySort", fn := fun _ => fun
  | [d] => { results := [.lit (.bool false)], args := [d] }
  | _ => none }
def FnBinarySortWrongFalsely : Prop := fnBinarySortRow.holds Try.pinned (OpenSpec.ofChange fnBinarySortWrong)

/-- 'laws.FnBubbleSort': WHATEVER THE INPUT: true; the input reads as it did. -/
def fnBubbleSortSpec : ChangeSpec := { name := "fnBubbleSort", fn := fun _ => fun
  | [d] => { results := [.lit (.bool true)], args := [d] }
  | _ => none }
def fnBubbleSortRow : OpenClaim := { program := "ytibobbffbhpfnaa", sum := "66b1f5dd6cb101679941f9faeaade1484939854e075449a11c942456ae01d44c", func := "loop.example/measuredsorts/laws.FnBubbleSort", spec := "fnBubbleSort", apart := false }
def FnBubbleSortSaid : Prop := fnBubbleSortRow.holds Try.pinned (OpenSpec.ofChange fnBubbleSortSpec)

/-- ITS FALSE NEIGHBOUR: 'it returns false'. Refute it at one input. -/
def fnBubbleSortWrong : ChangeSpec := { name := "fnBubbleSort", fn := fun _ => fun
  | [d] => { results := [.lit (.bool false)], args := [d] }
  | _ => none }
def FnBubbleSortWrongFalsely : Prop := fnBubbleSortRow.holds Try.pinned (OpenSpec.ofChange fnBubbleSortWrong)

/-- 'laws.FnFlipSort': WHATEVER THE INPUT: true; the input reads as it did. -/
def fnFlipSortSpec : ChangeSpec := { name := "fnFlipSort", fn := fun _ => fun
  | [d] => { results := [.lit (.bool true)], args := [d] }
  | _ => none }
def fnFlipSortRow : OpenClaim := { program := "ytibobbffbhpfnaa", sum := "66b1f5dd6cb101679941f9faeaade1484939854e075449a11c942456ae01d44c", func := "loop.example/measuredsorts/laws.FnFlipSort", spec := "fnFlipSort", apart := false }
def FnFlipSortSaid : Prop := fnFlipSortRow.holds Try.pinned (OpenSpec.ofChange fnFlipSortSpec)

/-- ITS FALSE NEIGHBOUR: 'it returns false'. Refute it at one input. -/
def fnFlipSortWrong : ChangeSpec := { name := "fnFlipSort", fn := fun _ => fun
  | [d] => { results := [.lit (.bool false)], args := [d] }
  | _ => none }
def FnFlipSortWrongFalsely : Prop := fnFlipSortRow.holds Try.pinned (OpenSpec.ofChange fnFlipSortWrong)

/-- 'laws.FnBinaryMost': WHATEVER THE INPUT: true; the input reads as it did. -/
def fnBinaryMostSpec : ChangeSpec := { name := "fnBinaryMost", fn := fun _ => fun
  | [d] => { results := [.lit (.bool true)], args := [d] }
  | _ => none }
def fnBinaryMostRow : OpenClaim := { program := "ytibobbffbhpfnaa", sum := "66b1f5dd6cb101679941f9faeaade1484939854e075449a11c942456ae01d44c", func := "loop.example/measuredsorts/laws.FnBinaryMost", spec := "fnBinaryMost", unfollowed := true, recurses := true, apart := false }
def FnBinaryMostSaid : Prop := fnBinaryMostRow.holds Try.pinned (OpenSpec.ofChange fnBinaryMostSpec)

/-- ITS FALSE NEIGHBOUR: 'it returns false'. Refute it at one input. -/
def fnBinaryMostWrong : ChangeSpec := { name := "fnBinaryMost", fn := fun _ => fun
  | [d] => { results := [.lit (.bool false)], args := [d] }
  | _ => none }
def FnBinaryMostWrongFalsely : Prop := fnBinaryMostRow.holds Try.pinned (OpenSpec.ofChange fnBinaryMostWrong)

/- THE SECOND FORM. 'bulk': how many values and letters a reading holds, each counted each time it is reached (what is shared counts as often as it is met; a slice's spare places count too). A statement '..UptoSaid' is the law's where the arguments, and the package variables that the reading takes, are together of bulk at most 1048576: NARROWER than '..Said'. Prove '..Said' where nothing that the law and all that it calls make is longer than what came in: it says more and counts as full. Else prove '..UptoSaid'. A law counts once. -/
mutual
def uptoBulk {H : Type} : DataW H → Nat
  | .lit (.string bytes) => bytes.length + 1
  | .lit _ => 1
  | .nil => 1
  | .ptr d => uptoBulk d + 1
  | .slice elems spare => uptoBulkAll elems + uptoBulkAll spare + 1
  | .agg parts => uptoBulkAll parts + 1
  | .iface _ d => uptoBulk d + 1
  | .map entries => uptoBulkEntries entries + 1
  | .held _ => 1
def uptoBulkAll {H : Type} : List (DataW H) → Nat
  | [] => 0
  | d :: r => uptoBulk d + uptoBulkAll r
def uptoBulkEntries {H : Type} : List (Lit × DataW H) → Nat
  | [] => 0
  | x :: r => uptoBulkEntry x + uptoBulkEntries r
def uptoBulkEntry {H : Type} : Lit × DataW H → Nat
  | (.string bytes, d) => bytes.length + uptoBulk d + 1
  | (_, d) => uptoBulk d + 1
 end
def uptoSmall : (H : Type) → List (DataW H) → Bool := fun _ ds => decide (uptoBulkAll ds ≤ 1048576)
def OpenSpec.upto (s : _root_.Go.ChangeSpec) : _root_.Go.OpenSpec := { _root_.Go.OpenSpec.ofChange s with cond := some uptoSmall }

/-- 'laws.FnValidKeys', WHERE WHAT IT READS IS OF BULK AT MOST 1048576: true; the input reads as it did. -/
def fnValidKeysUptoRow : OpenClaim := { program := "ytibobbffbhpfnaa", sum := "66b1f5dd6cb101679941f9faeaade1484939854e075449a11c942456ae01d44c", func := "loop.example/measuredsorts/laws.FnValidKeys", spec := "fnValidKeys", apart := false, narrowed := true }
def FnValidKeysUptoSaid : Prop := fnValidKeysUptoRow.holds Try.pinned (OpenSpec.upto fnValidKeysSpec)

/-- 'laws.FnIsSorted', WHERE WHAT IT READS IS OF BULK AT MOST 1048576: true; the input reads as it did. -/
def fnIsSortedUptoRow : OpenClaim := { program := "ytibobbffbhpfnaa", sum := "66b1f5dd6cb101679941f9faeaade1484939854e075449a11c942456ae01d44c", func := "loop.example/measuredsorts/laws.FnIsSorted", spec := "fnIsSorted", apart := false, narrowed := true }
def FnIsSortedUptoSaid : Prop := fnIsSortedUptoRow.holds Try.pinned (OpenSpec.upto fnIsSortedSpec)

/-- 'laws.FnPlacesOf', WHERE WHAT IT READS IS OF BULK AT MOST 1048576: true; the input reads as it did. -/
def fnPlacesOfUptoRow : OpenClaim := { program := "ytibobbffbhpfnaa", sum := "66b1f5dd6cb101679941f9faeaade1484939854e075449a11c942456ae01d44c", func := "loop.example/measuredsorts/laws.FnPlacesOf", spec := "fnPlacesOf", apart := false, narrowed := true }
def FnPlacesOfUptoSaid : Prop := fnPlacesOfUptoRow.holds Try.pinned (OpenSpec.upto fnPlacesOfSpec)

/-- 'laws.FnSortedKeys', WHERE WHAT IT READS IS OF BULK AT MOST 1048576: true; the input reads as it did. -/
def fnSortedKeysUptoRow : OpenClaim := { program := "ytibobbffbhpfnaa", sum := "66b1f5dd6cb101679941f9faeaade1484939854e075449a11c942456ae01d44c", func := "loop.example/measuredsorts/laws.FnSortedKeys", spec := "fnSortedKeys", apart := false, narrowed := true }
def FnSortedKeysUptoSaid : Prop := fnSortedKeysUptoRow.holds Try.pinned (OpenSpec.upto fnSortedKeysSpec)

/-- 'laws.FnInversionsOf', WHERE WHAT IT READS IS OF BULK AT MOST 1048576: true; the input reads as it did. -/
def fnInversionsOfUptoRow : OpenClaim := { program := "ytibobbffbhpfnaa", sum := "66b1f5dd6cb101679941f9faeaade1484939854e075449a11c942456ae01d44c", func := "loop.example/measuredsorts/laws.FnInversionsOf", spec := "fnInversionsOf", apart := false, narrowed := true }
def FnInversionsOfUptoSaid : Prop := fnInversionsOfUptoRow.holds Try.pinned (OpenSpec.upto fnInversionsOfSpec)

/-- 'laws.FnRunsOf', WHERE WHAT IT READS IS OF BULK AT MOST 1048576: true; the input reads as it did. -/
def fnRunsOfUptoRow : OpenClaim := { program := "ytibobbffbhpfnaa", sum := "66b1f5dd6cb101679941f9faeaade1484939854e075449a11c942456ae01d44c", func := "loop.example/measuredsorts/laws.FnRunsOf", spec := "fnRunsOf", apart := false, narrowed := true }
def FnRunsOfUptoSaid : Prop := fnRunsOfUptoRow.holds Try.pinned (OpenSpec.upto fnRunsOfSpec)

/-- 'laws.FnMisplacedOf', WHERE WHAT IT READS IS OF BULK AT MOST 1048576: true; the input reads as it did. -/
def fnMisplacedOfUptoRow : OpenClaim := { program := "ytibobbffbhpfnaa", sum := "66b1f5dd6cb101679941f9faeaade1484939854e075449a11c942456ae01d44c", func := "loop.example/measuredsorts/laws.FnMisplacedOf", spec := "fnMisplacedOf", apart := false, narrowed := true }
def FnMisplacedOfUptoSaid : Prop := fnMisplacedOfUptoRow.holds Try.pinned (OpenSpec.upto fnMisplacedOfSpec)

/-- 'laws.FnInsertionSort', WHERE WHAT IT READS IS OF BULK AT MOST 1048576: true; the input reads as it did. -/
def fnInsertionSortUptoRow : OpenClaim := { program := "ytibobbffbhpfnaa", sum := "66b1f5dd6cb101679941f9faeaade1484939854e075449a11c942456ae01d44c", func := "loop.example/measuredsorts/laws.FnInsertionSort", spec := "fnInsertionSort", apart := false, narrowed := true }
def FnInsertionSortUptoSaid : Prop := fnInsertionSortUptoRow.holds Try.pinned (OpenSpec.upto fnInsertionSortSpec)

/-- 'laws.FnBinarySort', WHERE WHAT IT READS IS OF BULK AT MOST 1048576: true; the input reads as it did. -/
def fnBinarySortUptoRow : OpenClaim := { program := "ytibobbffbhpfnaa", sum := "66b1f5dd6cb101679941f9faeaade1484939854e075449a11c942456ae01d44c", func := "loop.example/measuredsorts/laws.FnBinarySort", spec := "fnBinarySort", unfollowed := true, recurses := true, apart := false, narrowed := true }
def FnBinarySortUptoSaid : Prop := fnBinarySortUptoRow.holds Try.pinned (OpenSpec.upto fnBinarySortSpec)

/-- 'laws.FnBubbleSort', WHERE WHAT IT READS IS OF BULK AT MOST 1048576: true; the input reads as it did. -/
def fnBubbleSortUptoRow : OpenClaim := { program := "ytibobbffbhpfnaa", sum := "66b1f5dd6cb101679941f9faeaade1484939854e075449a11c942456ae01d44c", func := "loop.example/measuredsorts/laws.FnBubbleSort", spec := "fnBubbleSort", apart := false, narrowed := true }
def FnBubbleSortUptoSaid : Prop := fnBubbleSortUptoRow.holds Try.pinned (OpenSpec.upto fnBubbleSortSpec)

/-- 'laws.FnFlipSort', WHERE WHAT IT READS IS OF BULK AT MOST 1048576: true; the input reads as it did. -/
def fnFlipSortUptoRow : OpenClaim := { program := "ytibobbffbhpfnaa", sum := "66b1f5dd6cb101679941f9faeaade1484939854e075449a11c942456ae01d44c", func := "loop.example/measuredsorts/laws.FnFlipSort", spec := "fnFlipSort", apart := false, narrowed := true }
def FnFlipSortUptoSaid : Prop := fnFlipSortUptoRow.holds Try.pinned (OpenSpec.upto fnFlipSortSpec)

/-- 'laws.FnBinaryMost', WHERE WHAT IT READS IS OF BULK AT MOST 1048576: true; the input reads as it did. -/
def fnBinaryMostUptoRow : OpenClaim := { program := "ytibobbffbhpfnaa", sum := "66b1f5dd6cb101679941f9faeaade1484939854e075449a11c942456ae01d44c", func := "loop.example/measuredsorts/laws.FnBinaryMost", spec := "fnBinaryMost", unfollowed := true, recurses := true, apart := false, narrowed := true }
def FnBinaryMostUptoSaid : Prop := fnBinaryMostUptoRow.holds Try.pinned (OpenSpec.upto fnBinaryMostSpec)

end Rows
end Go.Proofs.Ytibobbffbhpfnaa
