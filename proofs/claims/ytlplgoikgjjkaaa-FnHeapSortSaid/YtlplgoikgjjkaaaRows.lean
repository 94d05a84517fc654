/-
  No cell of these rows narrows 'for every input' (looked for: loops, veiled, ifaces, maps, wideKeys, modest, calm, conditions, laid).
  DERIVED. THE GIVEN ROWS OF THIS SEAT. 2 by the template 'for every input the law returns true; each argument reads behind the call as it read before'; 0 by the template 'total and deterministic' (their statements: YtlplgoikgjjkaaaTotals.lean).
  GIVEN WITH THE SEED: the statements are not yours to turn. If you find one false, say at which input.
  Laid BY PROGRAM, IN A SANDBOX (cutbox-rows.mjs): the forced cells as the released guide's own fill.sh prints them over the translation f390ea855b6a0765… (all of the seat's roots in one cut). By AI agents, Wed Nov 11 2026. No macro, syntax, notation, axiom, sorry.
-/
import Derived.Test.YtlplgoikgjjkaaaChecked
import GoSem.Claim
import GoSem.ClaimJoined
import GoSem.ClaimMapViews
import Derived.JoinedTies
import Derived.KernelRfl
namespace Go.Proofs.Ytlplgoikgjjkaaa
/- THE CELL 'sum', in the pinned program and in every row, IS THE sha256 OF THE DUMP (.gsa) THAT YtlplgoikgjjkaaaProg.lean LOADS. Nothing in Lean hashes anything: it is a label: what it is worth is what the hold of that sum in a sandbox is worth. -/
noncomputable def Try.pinned : Pinned := { name := "ytlplgoikgjjkaaa", sum := "f390ea855b6a07651d191f06c31cb912433baf1bd0854b2f944fb8d80342c42f", checked := Try.checked }
namespace Rows
def none {H : Type} : Left H := { results := [], args := [] }

/-- 'laws.FnHeapSort': WHATEVER THE INPUT: true; the input reads as it did. -/
def fnHeapSortSpec : ChangeSpec := { name := "fnHeapSort", fn := fun _ => fun
  | [d] => { results := [.lit (.bool true)], args := [d] }
  | _ => none }
def fnHeapSortRow : OpenClaim := { program := "ytlplgoikgjjkaaa", sum := "f390ea855b6a07651d191f06c31cb912433baf1bd0854b2f944fb8d80342c42f", func := "loop.example/measuredsorts/laws.FnHeapSort", spec := "fnHeapSort", apart := false }
def FnHeapSortSaid : Prop := fnHeapSortRow.holds Try.pinned (OpenSpec.ofChange fnHeapSortSpec)

/-- ITS FALSE NEIGHBOUR: 'it returns false'. Refute it at one input. -/
def fnHeapSortWrong : ChangeSpec := { name := "fnHeapSort", fn := fun _ => fun
  | [d] => { results := [.lit (.bool false)], args := [d] }
  | _ => none }
def FnHeapSortWrongFalsely : Prop := fnHeapSortRow.holds Try.pinned (OpenSpec.ofChange fnHeapSortWrong)

/-- 'laws.FnExactHeapSort': WHATEVER THE INPUT: true; the input reads as it did. -/
def fnExactHeapSortSpec : ChangeSpec := { name := "fnExactHeapSort", fn := fun _ => fun
  | [d] => { results := [.lit (.bool true)], args := [d] }
  | _ => none }
def fnExactHeapSortRow : OpenClaim := { program := "ytlplgoikgjjkaaa", sum := "f390ea855b6a07651d191f06c31cb912433baf1bd0854b2f944fb8d80342c42f", func := "loop.example/measuredsorts/laws.FnExactHeapSort", spec := "fnExactHeapSort", apart := false }
def FnExactHeapSortSaid : Prop := fnExactHeapSortRow.holds Try.pinned (OpenSpec.ofChange fnExactHeapSortSpec)

/-- ITS FALSE NEIGHBOUR: 'it returns false'. Refute it at one input. -/
def fnExactHeapSortWrong : ChangeSpec := { name := "fnExactHeapSort", fn := fun _ => fun
  | [d] => { results := [.lit (.bool false)], args := [d] }
  | _ => none }
def FnExactHeapSortWrongFalsely : Prop := fnExactHeapSortRow.holds Try.pinned (OpenSpec.ofChange fnExactHeapSortWrong)

/- THE SECOND FORM. 'bulk': how many values and letters a reading holds, each counted each time it is reached (what is shared counts as often as it is met; a slice's spare places count too). A statement '..UptoSaid' is the law's where the arguments, and the package variables that the reading takes, are together of bulk at most 1048576: NARROWER than '..Said'. Prove '..Said' where nothing that the law and all that it calls make is longer than what came in: it says more and counts as full. Else prove '..UptoSaid'. A law counts once. -/
mutual
def uptoBulk {H : Type} : DataW H → Nat
  | .lit (.string bytes) => bytes.length + 1
  | .lit _ => 1
  | .nil => 1
  | .ptr d => uptoBulk d + 1
  | .slice elems spare => uptoBulkAll elems + uptoBulkAll spare + 1
  | .agg parts => uptoBulkAll parts + 1
  | .iface _ d => uptoBulk d + 1
  | .map entries => uptoBulkEntries entries + 1
  | .held _ => 1
def uptoBulkAll {H : Type} : List (DataW H) → Nat
  | [] => 0
  | d :: r => uptoBulk d + uptoBulkAll r
def uptoBulkEntries {H : Type} : List (Lit × DataW H) → Nat
  | [] => 0
  | x :: r => uptoBulkEntry x + uptoBulkEntries r
def uptoBulkEntry {H : Type} : Lit × DataW H → Nat
  | (.string bytes, d) => bytes.length + uptoBulk d + 1
  | (_, d) => uptoBulk d + 1
 end
def uptoSmall : (H : Type) → List (DataW H) → Bool := fun _ ds => decide (uptoBulkAll ds ≤ 1048576)
def OpenSpec.upto (s : _root_.Go.ChangeSpec) : _root_.Go.OpenSpec := { _root_.Go.OpenSpec.ofChange s with cond := some uptoSmall }

/-- 'laws.FnHeapSort', WHERE WHAT IT READS IS OF BULK AT MOST 1048576: true; the input reads as it did. -/
def fnHeapSortUptoRow : OpenClaim := { program := "ytlplgoikgjjkaaa", sum := "f390ea855b6a07651d191f06c31cb912433baf1bd0854b2f944fb8d80342c42f", func := "loop.example/measuredsorts/laws.FnHeapSort", spec := "fnHeapSort", apart := false, narrowed := true }
def FnHeapSortUptoSaid : Prop := fnHeapSortUptoRow.holds Try.pinned (OpenSpec.upto fnHeapSortSpec)

/-- 'laws.FnExactHeapSort', WHERE WHAT IT READS IS OF BULK AT MOST 1048576: true; the input reads as it did. -/
def fnExactHeapSortUptoRow : OpenClaim := { program := "ytlplgoikgjjkaaa", sum := "f390ea855b6a07651d191f06c31cb912433baf1bd0854b2f944fb8d80342c42f", func := "loop.example/measuredsorts/laws.FnExactHeapSort", spec := "fnExactHeapSort", apart := false, narrowed := true }
def FnExactHeapSortUptoSaid : Prop := fnExactHeapSortUptoRow.holds Try.pinned (OpenSpec.upto fnExactHeapSortSpec)

end Rows
end Go.Proofs.Ytlplgoikgjjkaaa
