/-
  No cell of these rows narrows 'for every input' (looked for: loops, veiled, ifaces, maps, wideKeys, modest, calm, conditions, laid).
  DERIVED. THE GIVEN ROWS OF THIS SEAT. 11 by the template 'for every input the law returns true; each argument reads behind the call as it read before'; 0 by the template 'total and deterministic' (their statements: YtcmilejbmejdjaaTotals.lean).
  GIVEN WITH THE SEED: the statements are not yours to turn. If you find one false, say at which input.
  Laid BY PROGRAM, IN A SANDBOX (cutbox-rows.mjs): the forced cells as the released guide's own fill.sh prints them over the translation 8937ebf1860b47ae… (all of the seat's roots in one cut). By AI agents, Wed Nov 11 2026. No macro, syntax, notation, axiom, sorry.
-/
import Derived.Test.YtcmilejbmejdjaaChecked
import GoSem.Claim
import GoSem.ClaimJoined
import GoSem.ClaimMapViews
import Derived.JoinedTies
import Derived.KernelRfl
namespace Go.Proofs.Ytcmilejbmejdjaa
/- THE CELL 'sum', in the pinned program and in every row, IS THE sha256 OF THE DUMP (.gsa) THAT YtcmilejbmejdjaaProg.lean LOADS. Nothing in Lean hashes anything: it is a label: what it is worth is what the hold of that sum in a sandbox is worth. -/
noncomputable def Try.pinned : Pinned := { name := "ytcmilejbmejdjaa", sum := "8937ebf1860b47ae1adc7572687d01c58a7619cc3996be5265eb123a680d20f9", checked := Try.checked }
namespace Rows
def none {H : Type} : Left H := { results := [], args := [] }

/-- 'laws.FnMergeSort': WHATEVER THE INPUT: true; the input reads as it did. -/
def fnMergeSortSpec : ChangeSpec := { name := "fnMergeSort", fn := fun _ => fun
  | [d] => { results := [.lit (.bool true)], args := [d] }
  | _ => none }
def fnMergeSortRow : OpenClaim := { program := "ytcmilejbmejdjaa", sum := "8937ebf1860b47ae1adc7572687d01c58a7619cc3996be5265eb123a680d20f9", func := "loop.example/measuredsorts/laws.FnMergeSort", spec := "fnMergeSort", recurses := true, apart := false }
def FnMergeSortSaid : Prop := fnMergeSortRow.holds Try.pinned (OpenSpec.ofChange fnMergeSortSpec)

/-- ITS FALSE NEIGHBOUR: 'it returns false'. Refute it at one input. -/
def fnMergeSortWrong : ChangeSpec := { name := "fnMergeSort", fn := fun _ => fun
  | [d] => { results := [.lit (.bool false)], args := [d] }
  | _ => none }
def FnMergeSortWrongFalsely : Prop := fnMergeSortRow.holds Try.pinned (OpenSpec.ofChange fnMergeSortWrong)

/-- 'laws.FnQuickSort': WHATEVER THE INPUT: true; the input reads as it did. -/
def fnQuickSortSpec : ChangeSpec := { name := "fnQuickSort", fn := fun _ => fun
  | [d] => { results := [.lit (.bool true)], args := [d] }
  | _ => none }
def fnQuickSortRow : OpenClaim := { program := "ytcmilejbmejdjaa", sum := "8937ebf1860b47ae1adc7572687d01c58a7619cc3996be5265eb123a680d20f9", func := "loop.example/measuredsorts/laws.FnQuickSort", spec := "fnQuickSort", recurses := true, apart := false }
def FnQuickSortSaid : Prop := fnQuickSortRow.holds Try.pinned (OpenSpec.ofChange fnQuickSortSpec)

/-- ITS FALSE NEIGHBOUR: 'it returns false'. Refute it at one input. -/
def fnQuickSortWrong : ChangeSpec := { name := "fnQuickSort", fn := fun _ => fun
  | [d] => { results := [.lit (.bool false)], args := [d] }
  | _ => none }
def FnQuickSortWrongFalsely : Prop := fnQuickSortRow.holds Try.pinned (OpenSpec.ofChange fnQuickSortWrong)

/-- 'laws.FnTreeDepths': WHATEVER THE INPUT: true; the input reads as it did. -/
def fnTreeDepthsSpec : ChangeSpec := { name := "fnTreeDepths", fn := fun _ => fun
  | [d] => { results := [.lit (.bool true)], args := [d] }
  | _ => none }
def fnTreeDepthsRow : OpenClaim := { program := "ytcmilejbmejdjaa", sum := "8937ebf1860b47ae1adc7572687d01c58a7619cc3996be5265eb123a680d20f9", func := "loop.example/measuredsorts/laws.FnTreeDepths", spec := "fnTreeDepths", apart := false }
def FnTreeDepthsSaid : Prop := fnTreeDepthsRow.holds Try.pinned (OpenSpec.ofChange fnTreeDepthsSpec)

/-- ITS FALSE NEIGHBOUR: 'it returns false'. Refute it at one input. -/
def fnTreeDepthsWrong : ChangeSpec := { name := "fnTreeDepths", fn := fun _ => fun
  | [d] => { results := [.lit (.bool false)], args := [d] }
  | _ => none }
def FnTreeDepthsWrongFalsely : Prop := fnTreeDepthsRow.holds Try.pinned (OpenSpec.ofChange fnTreeDepthsWrong)

/-- 'laws.FnMergeKeys': WHATEVER THE INPUT: true; the input reads as it did. -/
def fnMergeKeysSpec : ChangeSpec := { name := "fnMergeKeys", fn := fun _ => fun
  | [d] => { results := [.lit (.bool true)], args := [d] }
  | _ => none }
def fnMergeKeysRow : OpenClaim := { program := "ytcmilejbmejdjaa", sum := "8937ebf1860b47ae1adc7572687d01c58a7619cc3996be5265eb123a680d20f9", func := "loop.example/measuredsorts/laws.FnMergeKeys", spec := "fnMergeKeys", apart := false }
def FnMergeKeysSaid : Prop := fnMergeKeysRow.holds Try.pinned (OpenSpec.ofChange fnMergeKeysSpec)

/-- ITS FALSE NEIGHBOUR: 'it returns false'. Refute it at one input. -/
def fnMergeKeysWrong : ChangeSpec := { name := "fnMergeKeys", fn := fun _ => fun
  | [d] => { results := [.lit (.bool false)], args := [d] }
  | _ => none }
def FnMergeKeysWrongFalsely : Prop := fnMergeKeysRow.holds Try.pinned (OpenSpec.ofChange fnMergeKeysWrong)

/-- 'laws.FnFirstAt': WHATEVER THE INPUT: true; the input reads as it did. -/
def fnFirstAtSpec : ChangeSpec := { name := "fnFirstAt", fn := fun _ => fun
  | [d] => { results := [.lit (.bool true)], args := [d] }
  | _ => none }
def fnFirstAtRow : OpenClaim := { program := "ytcmilejbmejdjaa", sum := "8937ebf1860b47ae1adc7572687d01c58a7619cc3996be5265eb123a680d20f9", func := "loop.example/measuredsorts/laws.FnFirstAt", spec := "fnFirstAt", unfollowed := true, recurses := true, apart := false }
def FnFirstAtSaid : Prop := fnFirstAtRow.holds Try.pinned (OpenSpec.ofChange fnFirstAtSpec)

/-- ITS FALSE NEIGHBOUR: 'it returns false'. Refute it at one input. -/
def fnFirstAtWrong : ChangeSpec := { name := "fnFirstAt", fn := fun _ => fun
  | [d] => { results := [.lit (.bool false)], args := [d] }
  | _ => none }
def FnFirstAtWrongFalsely : Prop := fnFirstAtRow.holds Try.pinned (OpenSpec.ofChange fnFirstAtWrong)

/-- 'laws.FnLastAt': WHATEVER THE INPUT: true; the input reads as it did. -/
def fnLastAtSpec : ChangeSpec := { name := "fnLastAt", fn := fun _ => fun
  | [d] => { results := [.lit (.bool true)], args := [d] }
  | _ => none }
def fnLastAtRow : OpenClaim := { program := "ytcmilejbmejdjaa", sum := "8937ebf1860b47ae1adc7572687d01c58a7619cc3996be5265eb123a680d20f9", func := "loop.example/measuredsorts/laws.FnLastAt", spec := "fnLastAt", unfollowed := true, recurses := true, apart := false }
def FnLastAtSaid : Prop := fnLastAtRow.holds Try.pinned (OpenSpec.ofChange fnLastAtSpec)

/-- ITS FALSE NEIGHBOUR: 'it returns false'. Refute it at one input. -/
def fnLastAtWrong : ChangeSpec := { name := "fnLastAt", fn := fun _ => fun
  | [d] => { results := [.lit (.bool false)], args := [d] }
  | _ => none }
def FnLastAtWrongFalsely : Prop := fnLastAtRow.holds Try.pinned (OpenSpec.ofChange fnLastAtWrong)

/-- 'laws.FnPickKey': WHATEVER THE INPUT: true; the input reads as it did. -/
def fnPickKeySpec : ChangeSpec := { name := "fnPickKey", fn := fun _ => fun
  | [d] => { results := [.lit (.bool true)], args := [d] }
  | _ => none }
def fnPickKeyRow : OpenClaim := { program := "ytcmilejbmejdjaa", sum := "8937ebf1860b47ae1adc7572687d01c58a7619cc3996be5265eb123a680d20f9", func := "loop.example/measuredsorts/laws.FnPickKey", spec := "fnPickKey", recurses := true, apart := false }
def FnPickKeySaid : Prop := fnPickKeyRow.holds Try.pinned (OpenSpec.ofChange fnPickKeySpec)

/-- ITS FALSE NEIGHBOUR: 'it returns false'. Refute it at one input. -/
def fnPickKeyWrong : ChangeSpec := { name := "fnPickKey", fn := fun _ => fun
  | [d] => { results := [.lit (.bool false)], args := [d] }
  | _ => none }
def FnPickKeyWrongFalsely : Prop := fnPickKeyRow.holds Try.pinned (OpenSpec.ofChange fnPickKeyWrong)

/-- 'laws.FnPickOfTwo': WHATEVER THE INPUT: true; the input reads as it did. -/
def fnPickOfTwoSpec : ChangeSpec := { name := "fnPickOfTwo", fn := fun _ => fun
  | [d] => { results := [.lit (.bool true)], args := [d] }
  | _ => none }
def fnPickOfTwoRow : OpenClaim := { program := "ytcmilejbmejdjaa", sum := "8937ebf1860b47ae1adc7572687d01c58a7619cc3996be5265eb123a680d20f9", func := "loop.example/measuredsorts/laws.FnPickOfTwo", spec := "fnPickOfTwo", apart := false }
def FnPickOfTwoSaid : Prop := fnPickOfTwoRow.holds Try.pinned (OpenSpec.ofChange fnPickOfTwoSpec)

/-- ITS FALSE NEIGHBOUR: 'it returns false'. Refute it at one input. -/
def fnPickOfTwoWrong : ChangeSpec := { name := "fnPickOfTwo", fn := fun _ => fun
  | [d] => { results := [.lit (.bool false)], args := [d] }
  | _ => none }
def FnPickOfTwoWrongFalsely : Prop := fnPickOfTwoRow.holds Try.pinned (OpenSpec.ofChange fnPickOfTwoWrong)

/-- 'laws.FnExactMergeSort': WHATEVER THE INPUT: true; the input reads as it did. -/
def fnExactMergeSortSpec : ChangeSpec := { name := "fnExactMergeSort", fn := fun _ => fun
  | [d] => { results := [.lit (.bool true)], args := [d] }
  | _ => none }
def fnExactMergeSortRow : OpenClaim := { program := "ytcmilejbmejdjaa", sum := "8937ebf1860b47ae1adc7572687d01c58a7619cc3996be5265eb123a680d20f9", func := "loop.example/measuredsorts/laws.FnExactMergeSort", spec := "fnExactMergeSort", recurses := true, apart := false }
def FnExactMergeSortSaid : Prop := fnExactMergeSortRow.holds Try.pinned (OpenSpec.ofChange fnExactMergeSortSpec)

/-- ITS FALSE NEIGHBOUR: 'it returns false'. Refute it at one input. -/
def fnExactMergeSortWrong : ChangeSpec := { name := "fnExactMergeSort", fn := fun _ => fun
  | [d] => { results := [.lit (.bool false)], args := [d] }
  | _ => none }
def FnExactMergeSortWrongFalsely : Prop := fnExactMergeSortRow.holds Try.pinned (OpenSpec.ofChange fnExactMergeSortWrong)

/-- 'laws.FnExactQuickSort': WHATEVER THE INPUT: true; the input reads as it did. -/
def fnExactQuickSortSpec : ChangeSpec := { name := "fnExactQuickSort", fn := fun _ => fun
  | [d] => { results := [.lit (.bool true)], args := [d] }
  | _ => none }
def fnExactQuickSortRow : OpenClaim := { program := "ytcmilejbmejdjaa", sum := "8937ebf1860b47ae1adc7572687d01c58a7619cc3996be5265eb123a680d20f9", func := "loop.example/measuredsorts/laws.FnExactQuickSort", spec := "fnExactQuickSort", recurses := true, apart := false }
def FnExactQuickSortSaid : Prop := fnExactQuickSortRow.holds Try.pinned (OpenSpec.ofChange fnExactQuickSortSpec)

/-- ITS FALSE NEIGHBOUR: 'it returns false'. Refute it at one input. -/
def fnExactQuickSortWrong : ChangeSpec := { name := "fnExactQuickSort", fn := fun _ => fun
  | [d] => { results := [.lit (.bool false)], args := [d] }
  | _ => none }
def FnExactQuickSortWrongFalsely : Prop := fnExactQuickSortRow.holds Try.pinned (OpenSpec.ofChange fnExactQuickSortWrong)

/-- 'laws.FnExactTreeDepths': WHATEVER THE INPUT: true; the input reads as it did. -/
def fnExactTreeDepthsSpec : ChangeSpec := { name := "fnExactTreeDepths", fn := fun _ => fun
  | [d] => { results := [.lit (.bool true)], args := [d] }
  | _ => none }
def fnExactTreeDepthsRow : OpenClaim := { program := "ytcmilejbmejdjaa", sum := "8937ebf1860b47ae1adc7572687d01c58a7619cc3996be5265eb123a680d20f9", func := "loop.example/measuredsorts/laws.FnExactTreeDepths", spec := "fnExactTreeDepths", apart := false }
def FnExactTreeDepthsSaid : Prop := fnExactTreeDepthsRow.holds Try.pinned (OpenSpec.ofChange fnExactTreeDepthsSpec)

/-- ITS FALSE NEIGHBOUR: 'it returns false'. Refute it at one input. -/
def fnExactTreeDepthsWrong : ChangeSpec := { name := "fnExactTreeDepths", fn := fun _ => fun
  | [d] => { results := [.lit (.bool false)], args := [d] }
  | _ => none }
def FnExactTreeDepthsWrongFalsely : Prop := fnExactTreeDepthsRow.holds Try.pinned (OpenSpec.ofChange fnExactTreeDepthsWrong)

/- THE SECOND FORM. 'bulk': how many values and letters a reading holds, each counted each time it is reached (what is shared counts as often as it is met; a slice's spare places count too). A statement '..UptoSaid' is the law's where the arguments, and the package variables that the reading takes, are together of bulk at most 1048576: NARROWER than '..Said'. Prove '..Said' where nothing that the law and all that it calls make is longer than what came in: it says more and counts as full. Else prove '..UptoSaid'. A law counts once. -/
mutual
def uptoBulk {H : Type} : DataW H → Nat
  | .lit (.string bytes) => bytes.length + 1
  | .lit _ => 1
  | .nil => 1
  | .ptr d => uptoBulk d + 1
  | .slice elems spare => uptoBulkAll elems + uptoBulkAll spare + 1
  | .agg parts => uptoBulkAll parts + 1
  | .iface _ d => uptoBulk d + 1
  | .map entries => uptoBulkEntries entries + 1
  | .held _ => 1
def uptoBulkAll {H : Type} : List (DataW H) → Nat
  | [] => 0
  | d :: r => uptoBulk d + uptoBulkAll r
def uptoBulkEntries {H : Type} : List (Lit × DataW H) → Nat
  | [] => 0
  | x :: r => uptoBulkEntry x + uptoBulkEntries r
def uptoBulkEntry {H : Type} : Lit × DataW H → Nat
  | (.string bytes, d) => bytes.length + uptoBulk d + 1
  | (_, d) => uptoBulk d + 1
 end
def uptoSmall : (H : Type) → List (DataW H) → Bool := fun _ ds => decide (uptoBulkAll ds ≤ 1048576)
def OpenSpec.upto (s : _root_.Go.ChangeSpec) : _root_.Go.OpenSpec := { _root_.Go.OpenSpec.ofChange s with cond := some uptoSmall }

/-- 'laws.FnMergeSort', WHERE WHAT IT READS IS OF BULK AT MOST 1048576: true; the input reads as it did. -/
def fnMergeSortUptoRow : OpenClaim := { program := "ytcmilejbmejdjaa", sum := "8937ebf1860b47ae1adc7572687d01c58a7619cc3996be5265eb123a680d20f9", func := "loop.example/measuredsorts/laws.FnMergeSort", spec := "fnMergeSort", recurses := true, apart := false, narrowed := true }
def FnMergeSortUptoSaid : Prop := fnMergeSortUptoRow.holds Try.pinned (OpenSpec.upto fnMergeSortSpec)

/-- 'laws.FnQuickSort', WHERE WHAT IT READS IS OF BULK AT MOST 1048576: true; the input reads as it did. -/
def fnQuickSortUptoRow : OpenClaim := { program := "ytcmilejbmejdjaa", sum := "8937ebf1860b47ae1adc7572687d01c58a7619cc3996be5265eb123a680d20f9", func := "loop.example/measuredsorts/laws.FnQuickSort", spec := "fnQuickSort", recurses := true, apart := false, narrowed := true }
def FnQuickSortUptoSaid : Prop := fnQuickSortUptoRow.holds Try.pinned (OpenSpec.upto fnQuickSortSpec)

/-- 'laws.FnTreeDepths', WHERE WHAT IT READS IS OF BULK AT MOST 1048576: true; the input reads as it did. -/
def fnTreeDepthsUptoRow : OpenClaim := { program := "ytcmilejbmejdjaa", sum := "8937ebf1860b47ae1adc7572687d01c58a7619cc3996be5265eb123a680d20f9", func := "loop.example/measuredsorts/laws.FnTreeDepths", spec := "fnTreeDepths", apart := false, narrowed := true }
def FnTreeDepthsUptoSaid : Prop := fnTreeDepthsUptoRow.holds Try.pinned (OpenSpec.upto fnTreeDepthsSpec)

/-- 'laws.FnMergeKeys', WHERE WHAT IT READS IS OF BULK AT MOST 1048576: true; the input reads as it did. -/
def fnMergeKeysUptoRow : OpenClaim := { program := "ytcmilejbmejdjaa", sum := "8937ebf1860b47ae1adc7572687d01c58a7619cc3996be5265eb123a680d20f9", func := "loop.example/measuredsorts/laws.FnMergeKeys", spec := "fnMergeKeys", apart := false, narrowed := true }
def FnMergeKeysUptoSaid : Prop := fnMergeKeysUptoRow.holds Try.pinned (OpenSpec.upto fnMergeKeysSpec)

/-- 'laws.FnFirstAt', WHERE WHAT IT READS IS OF BULK AT MOST 1048576: true; the input reads as it did. -/
def fnFirstAtUptoRow : OpenClaim := { program := "ytcmilejbmejdjaa", sum := "8937ebf1860b47ae1adc7572687d01c58a7619cc3996be5265eb123a680d20f9", func := "loop.example/measuredsorts/laws.FnFirstAt", spec := "fnFirstAt", unfollowed := true, recurses := true, apart := false, narrowed := true }
def FnFirstAtUptoSaid : Prop := fnFirstAtUptoRow.holds Try.pinned (OpenSpec.upto fnFirstAtSpec)

/-- 'laws.FnLastAt', WHERE WHAT IT READS IS OF BULK AT MOST 1048576: true; the input reads as it did. -/
def fnLastAtUptoRow : OpenClaim := { program := "ytcmilejbmejdjaa", sum := "8937ebf1860b47ae1adc7572687d01c58a7619cc3996be5265eb123a680d20f9", func := "loop.example/measuredsorts/laws.FnLastAt", spec := "fnLastAt", unfollowed := true, recurses := true, apart := false, narrowed := true }
def FnLastAtUptoSaid : Prop := fnLastAtUptoRow.holds Try.pinned (OpenSpec.upto fnLastAtSpec)

/-- 'laws.FnPickKey', WHERE WHAT IT READS IS OF BULK AT MOST 1048576: true; the input reads as it did. -/
def fnPickKeyUptoRow : OpenClaim := { program := "ytcmilejbmejdjaa", sum := "8937ebf1860b47ae1adc7572687d01c58a7619cc3996be5265eb123a680d20f9", func := "loop.example/measuredsorts/laws.FnPickKey", spec := "fnPickKey", recurses := true, apart := false, narrowed := true }
def FnPickKeyUptoSaid : Prop := fnPickKeyUptoRow.holds Try.pinned (OpenSpec.upto fnPickKeySpec)

/-- 'laws.FnPickOfTwo', WHERE WHAT IT READS IS OF BULK AT MOST 1048576: true; the input reads as it did. -/
def fnPickOfTwoUptoRow : OpenClaim := { program := "ytcmilejbmejdjaa", sum := "8937ebf1860b47ae1adc7572687d01c58a7619cc3996be5265eb123a680d20f9", func := "loop.example/measuredsorts/laws.FnPickOfTwo", spec := "fnPickOfTwo", apart := false, narrowed := true }
def FnPickOfTwoUptoSaid : Prop := fnPickOfTwoUptoRow.holds Try.pinned (OpenSpec.upto fnPickOfTwoSpec)

/-- 'laws.FnExactMergeSort', WHERE WHAT IT READS IS OF BULK AT MOST 1048576: true; the input reads as it did. -/
def fnExactMergeSortUptoRow : OpenClaim := { program := "ytcmilejbmejdjaa", sum := "8937ebf1860b47ae1adc7572687d01c58a7619cc3996be5265eb123a680d20f9", func := "loop.example/measuredsorts/laws.FnExactMergeSort", spec := "fnExactMergeSort", recurses := true, apart := false, narrowed := true }
def FnExactMergeSortUptoSaid : Prop := fnExactMergeSortUptoRow.holds Try.pinned (OpenSpec.upto fnExactMergeSortSpec)

/-- 'laws.FnExactQuickSort', WHERE WHAT IT READS IS OF BULK AT MOST 1048576: true; the input reads as it did. -/
def fnExactQuickSortUptoRow : OpenClaim := { program := "ytcmilejbmejdjaa", sum := "8937ebf1860b47ae1adc7572687d01c58a7619cc3996be5265eb123a680d20f9", func := "loop.example/measuredsorts/laws.FnExactQuickSort", spec := "fnExactQuickSort", recurses := true, apart := false, narrowed := true }
def FnExactQuickSortUptoSaid : Prop := fnExactQuickSortUptoRow.holds Try.pinned (OpenSpec.upto fnExactQuickSortSpec)

/-- 'laws.FnExactTreeDepths', WHERE WHAT IT READS IS OF BULK AT MOST 1048576: true; the input reads as it did. -/
def fnExactTreeDepthsUptoRow : OpenClaim := { program := "ytcmilejbmejdjaa", sum := "8937ebf1860b47ae1adc7572687d01c58a7619cc3996be5265eb123a680d20f9", func := "loop.example/measuredsorts/laws.FnExactTreeDepths", spec := "fnExactTreeDepths", apart := false, narrowed := true }
def FnExactTreeDepthsUptoSaid : Prop := fnExactTreeDepthsUptoRow.holds Try.pinned (OpenSpec.upto fnExactTreeDepthsSpec)

end Rows
end Go.Proofs.Ytcmilejbmejdjaa
