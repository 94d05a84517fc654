/-
  No cell of these rows narrows 'for every input' (looked for: loops, veiled, ifaces, maps, wideKeys, modest, calm, conditions, laid).
  DERIVED. THE GIVEN ROWS OF THIS SEAT. 4 by the template 'for every input the law returns true; each argument reads behind the call as it read before'; 0 by the template 'total and deterministic' (their statements: YtfoaolipmicoaaaTotals.lean).
  GIVEN WITH THE SEED: the statements are not yours to turn. If you find one false, say at which input.
  Laid BY PROGRAM, IN A SANDBOX (cutbox-rows.mjs): the forced cells as the released guide's own fill.sh prints them over the translation d8771873e7588a48… (all of the seat's roots in one cut). By AI agents, Wed Nov 11 2026. No macro, syntax, notation, axiom, sorry.
-/
import Derived.Test.YtfoaolipmicoaaaChecked
import GoSem.Claim
import GoSem.ClaimJoined
import GoSem.ClaimMapViews
import Derived.JoinedTies
import Derived.KernelRfl
namespace Go.Proofs.Ytfoaolipmicoaaa
/- THE CELL 'sum', in the pinned program and in every row, IS THE sha256 OF THE DUMP (.gsa) THAT YtfoaolipmicoaaaProg.lean LOADS. Nothing in Lean hashes anything: it is a label: what it is worth is what the hold of that sum in a sandbox is worth. -/
noncomputable def Try.pinned : Pinned := { name := "ytfoaolipmicoaaa", sum := "d8771873e7588a483e1d8c906028186619b020e9cc659c157fbde797f1646244", checked := Try.checked }
namespace Rows
def none {H : Type} : Left H := { results := [], args := [] }

/-- 'laws.FnBinarySort': WHATEVER THE INPUT: true; the input reads as it did. -/
def fnBinarySortSpec : ChangeSpec := { name := "fnBinarySort", fn := fun _ => fun
  | [d] => { results := [.lit (.bool true)], args := [d] }
  | _ => none }
def fnBinarySortRow : OpenClaim := { program := "ytfoaolipmicoaaa", sum := "d8771873e7588a483e1d8c906028186619b020e9cc659c157fbde797f1646244", func := "loop.example/measuredsorts/laws.FnBinarySort", spec := "fnBinarySort", unfollowed := true, recurses := true, apart := false }
def FnBinarySortSaid : Prop := fnBinarySortRow.holds Try.pinned (OpenSpec.ofChange fnBinarySortSpec)

/-- ITS FALSE NEIGHBOUR: 'it returns false'. Refute it at one input. -/
def fnBinarySortWrong : ChangeSpec := { name := "fnBinarySort", fn := fun _ => fun
  | [d] => { results := [.lit (.bool false)], args := [d] }
  | _ => none }
def FnBinarySortWrongFalsely : Prop := fnBinarySortRow.holds Try.pinned (OpenSpec.ofChange fnBinarySortWrong)

/-- 'laws.FnSelectionSort': WHATEVER THE INPUT: true; the input reads as it did. -/
def fnSelectionSortSpec : ChangeSpec := { name := "fnSelectionSort", fn := fun _ => fun
  | [d] => { results := [.lit (.bool true)], args := [d] }
  | _ => none }
def fnSelectionSortRow : OpenClaim := { program := "ytfoaolipmicoaaa", sum := "d8771873e7588a483e1d8c906028186619b020e9cc659c157fbde797f1646244", func := "loop.example/measuredsorts/laws.FnSelectionSort", spec := "fnSelectionSort", apart := false }
def FnSelectionSortSaid : Prop := fnSelectionSortRow.holds Try.pinned (OpenSpec.ofChange fnSelectionSortSpec)

/-- ITS FALSE NEIGHBOUR: 'it returns false'. Refute it at one input. -/
def fnSelectionSortWrong : ChangeSpec := { name := "fnSelectionSort", fn := fun _ => fun
  | [d] => { results := [.lit (.bool false)], args := [d] }
  | _ => none }
def FnSelectionSortWrongFalsely : Prop := fnSelectionSortRow.holds Try.pinned (OpenSpec.ofChange fnSelectionSortWrong)

/-- 'laws.FnShellSort': WHATEVER THE INPUT: true; the input reads as it did. -/
def fnShellSortSpec : ChangeSpec := { name := "fnShellSort", fn := fun _ => fun
  | [d] => { results := [.lit (.bool true)], args := [d] }
  | _ => none }
def fnShellSortRow : OpenClaim := { program := "ytfoaolipmicoaaa", sum := "d8771873e7588a483e1d8c906028186619b020e9cc659c157fbde797f1646244", func := "loop.example/measuredsorts/laws.FnShellSort", spec := "fnShellSort", apart := false }
def FnShellSortSaid : Prop := fnShellSortRow.holds Try.pinned (OpenSpec.ofChange fnShellSortSpec)

/-- ITS FALSE NEIGHBOUR: 'it returns false'. Refute it at one input. -/
def fnShellSortWrong : ChangeSpec := { name := "fnShellSort", fn := fun _ => fun
  | [d] => { results := [.lit (.bool false)], args := [d] }
  | _ => none }
def FnShellSortWrongFalsely : Prop := fnShellSortRow.holds Try.pinned (OpenSpec.ofChange fnShellSortWrong)

/-- 'laws.FnFlipSort': WHATEVER THE INPUT: true; the input reads as it did. -/
def fnFlipSortSpec : ChangeSpec := { name := "fnFlipSort", fn := fun _ => fun
  | [d] => { results := [.lit (.bool true)], args := [d] }
  | _ => none }
def fnFlipSortRow : OpenClaim := { program := "ytfoaolipmicoaaa", sum := "d8771873e7588a483e1d8c906028186619b020e9cc659c157fbde797f1646244", func := "loop.example/measuredsorts/laws.FnFlipSort", spec := "fnFlipSort", apart := false }
def FnFlipSortSaid : Prop := fnFlipSortRow.holds Try.pinned (OpenSpec.ofChange fnFlipSortSpec)

/-- ITS FALSE NEIGHBOUR: 'it returns false'. Refute it at one input. -/
def fnFlipSortWrong : ChangeSpec := { name := "fnFlipSort", fn := fun _ => fun
  | [d] => { results := [.lit (.bool false)], args := [d] }
  | _ => none }
def FnFlipSortWrongFalsely : Prop := fnFlipSortRow.holds Try.pinned (OpenSpec.ofChange fnFlipSortWrong)

/- THE SECOND FORM. 'bulk': how many values and letters a reading holds, each counted each time it is reached (what is shared counts as often as it is met; a slice's spare places count too). A statement '..UptoSaid' is the law's where the arguments, and the package variables that the reading takes, are together of bulk at most 1048576: NARROWER than '..Said'. Prove '..Said' where nothing that the law and all that it calls make is longer than what came in: it says more and counts as full. Else prove '..UptoSaid'. A law counts once. -/
mutual
def uptoBulk {H : Type} : DataW H → Nat
  | .lit (.string bytes) => bytes.length + 1
  | .lit _ => 1
  | .nil => 1
  | .ptr d => uptoBulk d + 1
  | .slice elems spare => uptoBulkAll elems + uptoBulkAll spare + 1
  | .agg parts => uptoBulkAll parts + 1
  | .iface _ d => uptoBulk d + 1
  | .map entries => uptoBulkEntries entries + 1
  | .held _ => 1
def uptoBulkAll {H : Type} : List (DataW H) → Nat
  | [] => 0
  | d :: r => uptoBulk d + uptoBulkAll r
def uptoBulkEntries {H : Type} : List (Lit × DataW H) → Nat
  | [] => 0
  | x :: r => uptoBulkEntry x + uptoBulkEntries r
def uptoBulkEntry {H : Type} : Lit × DataW H → Nat
  | (.string bytes, d) => bytes.length + uptoBulk d + 1
  | (_, d) => uptoBulk d + 1
 end
def uptoSmall : (H : Type) → List (DataW H) → Bool := fun _ ds => decide (uptoBulkAll ds ≤ 1048576)
def OpenSpec.upto (s : _root_.Go.ChangeSpec) : _root_.Go.OpenSpec := { _root_.Go.OpenSpec.ofChange s with cond := some uptoSmall }

/-- 'laws.FnBinarySort', WHERE WHAT IT READS IS OF BULK AT MOST 1048576: true; the input reads as it did. -/
def fnBinarySortUptoRow : OpenClaim := { program := "ytfoaolipmicoaaa", sum := "d8771873e7588a483e1d8c906028186619b020e9cc659c157fbde797f1646244", func := "loop.example/measuredsorts/laws.FnBinarySort", spec := "fnBinarySort", unfollowed := true, recurses := true, apart := false, narrowed := true }
def FnBinarySortUptoSaid : Prop := fnBinarySortUptoRow.holds Try.pinned (OpenSpec.upto fnBinarySortSpec)

/-- 'laws.FnSelectionSort', WHERE WHAT IT READS IS OF BULK AT MOST 1048576: true; the input reads as it did. -/
def fnSelectionSortUptoRow : OpenClaim := { program := "ytfoaolipmicoaaa", sum := "d8771873e7588a483e1d8c906028186619b020e9cc659c157fbde797f1646244", func := "loop.example/measuredsorts/laws.FnSelectionSort", spec := "fnSelectionSort", apart := false, narrowed := true }
def FnSelectionSortUptoSaid : Prop := fnSelectionSortUptoRow.holds Try.pinned (OpenSpec.upto fnSelectionSortSpec)

/-- 'laws.FnShellSort', WHERE WHAT IT READS IS OF BULK AT MOST 1048576: true; the input reads as it did. -/
def fnShellSortUptoRow : OpenClaim := { program := "ytfoaolipmicoaaa", sum := "d8771873e7588a483e1d8c906028186619b020e9cc659c157fbde797f1646244", func := "loop.example/measuredsorts/laws.FnShellSort", spec := "fnShellSort", apart := false, narrowed := true }
def FnShellSortUptoSaid : Prop := fnShellSortUptoRow.holds Try.pinned (OpenSpec.upto fnShellSortSpec)

/-- 'laws.FnFlipSort', WHERE WHAT IT READS IS OF BULK AT MOST 1048576: true; the input reads as it did. -/
def fnFlipSortUptoRow : OpenClaim := { program := "ytfoaolipmicoaaa", sum := "d8771873e7588a483e1d8c906028186619b020e9cc659c157fbde797f1646244", func := "loop.example/measuredsorts/laws.FnFlipSort", spec := "fnFlipSort", apart := false, narrowed := true }
def FnFlipSortUptoSaid : Prop := fnFlipSortUptoRow.holds Try.pinned (OpenSpec.upto fnFlipSortSpec)

end Rows
end Go.Proofs.Ytfoaolipmicoaaa
