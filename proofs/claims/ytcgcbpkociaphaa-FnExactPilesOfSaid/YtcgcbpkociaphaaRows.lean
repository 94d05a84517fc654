/-
  No cell of these rows narrows 'for every input' (looked for: loops, veiled, ifaces, maps, wideKeys, modest, calm, conditions, laid).
  DERIVED. THE GIVEN ROWS OF THIS SEAT. 10 by the template 'for every input the law returns true; each argument reads behind the call as it read before'; 0 by the template 'total and deterministic' (their statements: YtcgcbpkociaphaaTotals.lean).
  GIVEN WITH THE SEED: the statements are not yours to turn. If you find one false, say at which input.
  Laid BY PROGRAM, IN A SANDBOX (cutbox-rows.mjs): the forced cells as the released guide's own fill.sh prints them over the translation b2fe31dee03c2b5a… (all of the seat's roots in one cut). By AI agents, Wed Nov 11 2026. No macro, syntax, notation, axiom, sorry.
-/
import Derived.Test.YtcgcbpkociaphaaChecked
import GoSem.Claim
import GoSem.ClaimJoined
import GoSem.ClaimMapViews
import Derived.JoinedTies
import Derived.KernelRfl
namespace Go.Proofs.Ytcgcbpkociaphaa
/- THE CELL 'sum', in the pinned program and in every row, IS THE sha256 OF THE DUMP (.gsa) THAT YtcgcbpkociaphaaProg.lean LOADS. Nothing in Lean hashes anything: it is a label: what it is worth is what the hold of that sum in a sandbox is worth. -/
noncomputable def Try.pinned : Pinned := { name := "ytcgcbpkociaphaa", sum := "b2fe31dee03c2b5a700f2d590456fc05d2402d95aa3c1d1242fafcdce1a32015", checked := Try.checked }
namespace Rows
def none {H : Type} : Left H := { results := [], args := [] }

/-- 'laws.FnPilesOf': WHATEVER THE INPUT: true; the input reads as it did. -/
def fnPilesOfSpec : ChangeSpec := { name := "fnPilesOf", fn := fun _ => fun
  | [d] => { results := [.lit (.bool true)], args := [d] }
  | _ => none }
def fnPilesOfRow : OpenClaim := { program := "ytcgcbpkociaphaa", sum := "b2fe31dee03c2b5a700f2d590456fc05d2402d95aa3c1d1242fafcdce1a32015", func := "loop.example/measuredsorts/laws.FnPilesOf", spec := "fnPilesOf", unfollowed := true, recurses := true, apart := false }
def FnPilesOfSaid : Prop := fnPilesOfRow.holds Try.pinned (OpenSpec.ofChange fnPilesOfSpec)

/-- ITS FALSE NEIGHBOUR: 'it returns false'. Refute it at one input. -/
def fnPilesOfWrong : ChangeSpec := { name := "fnPilesOf", fn := fun _ => fun
  | [d] => { results := [.lit (.bool false)], args := [d] }
  | _ => none }
def FnPilesOfWrongFalsely : Prop := fnPilesOfRow.holds Try.pinned (OpenSpec.ofChange fnPilesOfWrong)

/-- 'laws.FnQuickSort': WHATEVER THE INPUT: true; the input reads as it did. -/
def fnQuickSortSpec : ChangeSpec := { name := "fnQuickSort", fn := fun _ => fun
  | [d] => { results := [.lit (.bool true)], args := [d] }
  | _ => none }
def fnQuickSortRow : OpenClaim := { program := "ytcgcbpkociaphaa", sum := "b2fe31dee03c2b5a700f2d590456fc05d2402d95aa3c1d1242fafcdce1a32015", func := "loop.example/measuredsorts/laws.FnQuickSort", spec := "fnQuickSort", recurses := true, apart := false }
def FnQuickSortSaid : Prop := fnQuickSortRow.holds Try.pinned (OpenSpec.ofChange fnQuickSortSpec)

/-- ITS FALSE NEIGHBOUR: 'it returns false'. Refute it at one input. -/
def fnQuickSortWrong : ChangeSpec := { name := "fnQuickSort", fn := fun _ => fun
  | [d] => { results := [.lit (.bool false)], args := [d] }
  | _ => none }
def FnQuickSortWrongFalsely : Prop := fnQuickSortRow.holds Try.pinned (OpenSpec.ofChange fnQuickSortWrong)

/-- 'laws.FnTreeDepths': WHATEVER THE INPUT: true; the input reads as it did. -/
def fnTreeDepthsSpec : ChangeSpec := { name := "fnTreeDepths", fn := fun _ => fun
  | [d] => { results := [.lit (.bool true)], args := [d] }
  | _ => none }
def fnTreeDepthsRow : OpenClaim := { program := "ytcgcbpkociaphaa", sum := "b2fe31dee03c2b5a700f2d590456fc05d2402d95aa3c1d1242fafcdce1a32015", func := "loop.example/measuredsorts/laws.FnTreeDepths", spec := "fnTreeDepths", apart := false }
def FnTreeDepthsSaid : Prop := fnTreeDepthsRow.holds Try.pinned (OpenSpec.ofChange fnTreeDepthsSpec)

/-- ITS FALSE NEIGHBOUR: 'it returns false'. Refute it at one input. -/
def fnTreeDepthsWrong : ChangeSpec := { name := "fnTreeDepths", fn := fun _ => fun
  | [d] => { results := [.lit (.bool false)], args := [d] }
  | _ => none }
def FnTreeDepthsWrongFalsely : Prop := fnTreeDepthsRow.holds Try.pinned (OpenSpec.ofChange fnTreeDepthsWrong)

/-- 'laws.FnValidFacts': WHATEVER THE INPUT: true; the input reads as it did. -/
def fnValidFactsSpec : ChangeSpec := { name := "fnValidFacts", fn := fun _ => fun
  | [d] => { results := [.lit (.bool true)], args := [d] }
  | _ => none }
def fnValidFactsRow : OpenClaim := { program := "ytcgcbpkociaphaa", sum := "b2fe31dee03c2b5a700f2d590456fc05d2402d95aa3c1d1242fafcdce1a32015", func := "loop.example/measuredsorts/laws.FnValidFacts", spec := "fnValidFacts", unfollowed := true, recurses := true, apart := false }
def FnValidFactsSaid : Prop := fnValidFactsRow.holds Try.pinned (OpenSpec.ofChange fnValidFactsSpec)

/-- ITS FALSE NEIGHBOUR: 'it returns false'. Refute it at one input. -/
def fnValidFactsWrong : ChangeSpec := { name := "fnValidFacts", fn := fun _ => fun
  | [d] => { results := [.lit (.bool false)], args := [d] }
  | _ => none }
def FnValidFactsWrongFalsely : Prop := fnValidFactsRow.holds Try.pinned (OpenSpec.ofChange fnValidFactsWrong)

/-- 'laws.FnChainFacts': WHATEVER THE INPUT: true; the input reads as it did. -/
def fnChainFactsSpec : ChangeSpec := { name := "fnChainFacts", fn := fun _ => fun
  | [d] => { results := [.lit (.bool true)], args := [d] }
  | _ => none }
def fnChainFactsRow : OpenClaim := { program := "ytcgcbpkociaphaa", sum := "b2fe31dee03c2b5a700f2d590456fc05d2402d95aa3c1d1242fafcdce1a32015", func := "loop.example/measuredsorts/laws.FnChainFacts", spec := "fnChainFacts", unfollowed := true, recurses := true, apart := false }
def FnChainFactsSaid : Prop := fnChainFactsRow.holds Try.pinned (OpenSpec.ofChange fnChainFactsSpec)

/-- ITS FALSE NEIGHBOUR: 'it returns false'. Refute it at one input. -/
def fnChainFactsWrong : ChangeSpec := { name := "fnChainFacts", fn := fun _ => fun
  | [d] => { results := [.lit (.bool false)], args := [d] }
  | _ => none }
def FnChainFactsWrongFalsely : Prop := fnChainFactsRow.holds Try.pinned (OpenSpec.ofChange fnChainFactsWrong)

/-- 'laws.FnExactPilesOf': WHATEVER THE INPUT: true; the input reads as it did. -/
def fnExactPilesOfSpec : ChangeSpec := { name := "fnExactPilesOf", fn := fun _ => fun
  | [d] => { results := [.lit (.bool true)], args := [d] }
  | _ => none }
def fnExactPilesOfRow : OpenClaim := { program := "ytcgcbpkociaphaa", sum := "b2fe31dee03c2b5a700f2d590456fc05d2402d95aa3c1d1242fafcdce1a32015", func := "loop.example/measuredsorts/laws.FnExactPilesOf", spec := "fnExactPilesOf", apart := false }
def FnExactPilesOfSaid : Prop := fnExactPilesOfRow.holds Try.pinned (OpenSpec.ofChange fnExactPilesOfSpec)

/-- ITS FALSE NEIGHBOUR: 'it returns false'. Refute it at one input. -/
def fnExactPilesOfWrong : ChangeSpec := { name := "fnExactPilesOf", fn := fun _ => fun
  | [d] => { results := [.lit (.bool false)], args := [d] }
  | _ => none }
def FnExactPilesOfWrongFalsely : Prop := fnExactPilesOfRow.holds Try.pinned (OpenSpec.ofChange fnExactPilesOfWrong)

/-- 'laws.FnExactQuickSort': WHATEVER THE INPUT: true; the input reads as it did. -/
def fnExactQuickSortSpec : ChangeSpec := { name := "fnExactQuickSort", fn := fun _ => fun
  | [d] => { results := [.lit (.bool true)], args := [d] }
  | _ => none }
def fnExactQuickSortRow : OpenClaim := { program := "ytcgcbpkociaphaa", sum := "b2fe31dee03c2b5a700f2d590456fc05d2402d95aa3c1d1242fafcdce1a32015", func := "loop.example/measuredsorts/laws.FnExactQuickSort", spec := "fnExactQuickSort", recurses := true, apart := false }
def FnExactQuickSortSaid : Prop := fnExactQuickSortRow.holds Try.pinned (OpenSpec.ofChange fnExactQuickSortSpec)

/-- ITS FALSE NEIGHBOUR: 'it returns false'. Refute it at one input. -/
def fnExactQuickSortWrong : ChangeSpec := { name := "fnExactQuickSort", fn := fun _ => fun
  | [d] => { results := [.lit (.bool false)], args := [d] }
  | _ => none }
def FnExactQuickSortWrongFalsely : Prop := fnExactQuickSortRow.holds Try.pinned (OpenSpec.ofChange fnExactQuickSortWrong)

/-- 'laws.FnExactTreeDepths': WHATEVER THE INPUT: true; the input reads as it did. -/
def fnExactTreeDepthsSpec : ChangeSpec := { name := "fnExactTreeDepths", fn := fun _ => fun
  | [d] => { results := [.lit (.bool true)], args := [d] }
  | _ => none }
def fnExactTreeDepthsRow : OpenClaim := { program := "ytcgcbpkociaphaa", sum := "b2fe31dee03c2b5a700f2d590456fc05d2402d95aa3c1d1242fafcdce1a32015", func := "loop.example/measuredsorts/laws.FnExactTreeDepths", spec := "fnExactTreeDepths", apart := false }
def FnExactTreeDepthsSaid : Prop := fnExactTreeDepthsRow.holds Try.pinned (OpenSpec.ofChange fnExactTreeDepthsSpec)

/-- ITS FALSE NEIGHBOUR: 'it returns false'. Refute it at one input. -/
def fnExactTreeDepthsWrong : ChangeSpec := { name := "fnExactTreeDepths", fn := fun _ => fun
  | [d] => { results := [.lit (.bool false)], args := [d] }
  | _ => none }
def FnExactTreeDepthsWrongFalsely : Prop := fnExactTreeDepthsRow.holds Try.pinned (OpenSpec.ofChange fnExactTreeDepthsWrong)

/-- 'laws.FnExactValidFacts': WHATEVER THE INPUT: true; the input reads as it did. -/
def fnExactValidFactsSpec : ChangeSpec := { name := "fnExactValidFacts", fn := fun _ => fun
  | [d1, d2] => { results := [.lit (.bool true)], args := [d1, d2] }
  | _ => none }
def fnExactValidFactsRow : OpenClaim := { program := "ytcgcbpkociaphaa", sum := "b2fe31dee03c2b5a700f2d590456fc05d2402d95aa3c1d1242fafcdce1a32015", func := "loop.example/measuredsorts/laws.FnExactValidFacts", spec := "fnExactValidFacts", unfollowed := true, recurses := true, apart := false }
def FnExactValidFactsSaid : Prop := fnExactValidFactsRow.holds Try.pinned (OpenSpec.ofChange fnExactValidFactsSpec)

/-- ITS FALSE NEIGHBOUR: 'it returns false'. Refute it at one input. -/
def fnExactValidFactsWrong : ChangeSpec := { name := "fnExactValidFacts", fn := fun _ => fun
  | [d1, d2] => { results := [.lit (.bool false)], args := [d1, d2] }
  | _ => none }
def FnExactValidFactsWrongFalsely : Prop := fnExactValidFactsRow.holds Try.pinned (OpenSpec.ofChange fnExactValidFactsWrong)

/-- 'laws.FnExactChainFacts': WHATEVER THE INPUT: true; the input reads as it did. -/
def fnExactChainFactsSpec : ChangeSpec := { name := "fnExactChainFacts", fn := fun _ => fun
  | [d1, d2] => { results := [.lit (.bool true)], args := [d1, d2] }
  | _ => none }
def fnExactChainFactsRow : OpenClaim := { program := "ytcgcbpkociaphaa", sum := "b2fe31dee03c2b5a700f2d590456fc05d2402d95aa3c1d1242fafcdce1a32015", func := "loop.example/measuredsorts/laws.FnExactChainFacts", spec := "fnExactChainFacts", apart := false }
def FnExactChainFactsSaid : Prop := fnExactChainFactsRow.holds Try.pinned (OpenSpec.ofChange fnExactChainFactsSpec)

/-- ITS FALSE NEIGHBOUR: 'it returns false'. Refute it at one input. -/
def fnExactChainFactsWrong : ChangeSpec := { name := "fnExactChainFacts", fn := fun _ => fun
  | [d1, d2] => { results := [.lit (.bool false)], args := [d1, d2] }
  | _ => none }
def FnExactChainFactsWrongFalsely : Prop := fnExactChainFactsRow.holds Try.pinned (OpenSpec.ofChange fnExactChainFactsWrong)

/- THE SECOND FORM. 'bulk': how many values and letters a reading holds, each counted each time it is reached (what is shared counts as often as it is met; a slice's spare places count too). A statement '..UptoSaid' is the law's where the arguments, and the package variables that the reading takes, are together of bulk at most 1048576: NARROWER than '..Said'. Prove '..Said' where nothing that the law and all that it calls make is longer than what came in: it says more and counts as full. Else prove '..UptoSaid'. A law counts once. -/
mutual
def uptoBulk {H : Type} : DataW H → Nat
  | .lit (.string bytes) => bytes.length + 1
  | .lit _ => 1
  | .nil => 1
  | .ptr d => uptoBulk d + 1
  | .slice elems spare => uptoBulkAll elems + uptoBulkAll spare + 1
  | .agg parts => uptoBulkAll parts + 1
  | .iface _ d => uptoBulk d + 1
  | .map entries => uptoBulkEntries entries + 1
  | .held _ => 1
def uptoBulkAll {H : Type} : List (DataW H) → Nat
  | [] => 0
  | d :: r => uptoBulk d + uptoBulkAll r
def uptoBulkEntries {H : Type} : List (Lit × DataW H) → Nat
  | [] => 0
  | x :: r => uptoBulkEntry x + uptoBulkEntries r
def uptoBulkEntry {H : Type} : Lit × DataW H → Nat
  | (.string bytes, d) => bytes.length + uptoBulk d + 1
  | (_, d) => uptoBulk d + 1
 end
def uptoSmall : (H : Type) → List (DataW H) → Bool := fun _ ds => decide (uptoBulkAll ds ≤ 1048576)
def OpenSpec.upto (s : _root_.Go.ChangeSpec) : _root_.Go.OpenSpec := { _root_.Go.OpenSpec.ofChange s with cond := some uptoSmall }

/-- 'laws.FnPilesOf', WHERE WHAT IT READS IS OF BULK AT MOST 1048576: true; the input reads as it did. -/
def fnPilesOfUptoRow : OpenClaim := { program := "ytcgcbpkociaphaa", sum := "b2fe31dee03c2b5a700f2d590456fc05d2402d95aa3c1d1242fafcdce1a32015", func := "loop.example/measuredsorts/laws.FnPilesOf", spec := "fnPilesOf", unfollowed := true, recurses := true, apart := false, narrowed := true }
def FnPilesOfUptoSaid : Prop := fnPilesOfUptoRow.holds Try.pinned (OpenSpec.upto fnPilesOfSpec)

/-- 'laws.FnQuickSort', WHERE WHAT IT READS IS OF BULK AT MOST 1048576: true; the input reads as it did. -/
def fnQuickSortUptoRow : OpenClaim := { program := "ytcgcbpkociaphaa", sum := "b2fe31dee03c2b5a700f2d590456fc05d2402d95aa3c1d1242fafcdce1a32015", func := "loop.example/measuredsorts/laws.FnQuickSort", spec := "fnQuickSort", recurses := true, apart := false, narrowed := true }
def FnQuickSortUptoSaid : Prop := fnQuickSortUptoRow.holds Try.pinned (OpenSpec.upto fnQuickSortSpec)

/-- 'laws.FnTreeDepths', WHERE WHAT IT READS IS OF BULK AT MOST 1048576: true; the input reads as it did. -/
def fnTreeDepthsUptoRow : OpenClaim := { program := "ytcgcbpkociaphaa", sum := "b2fe31dee03c2b5a700f2d590456fc05d2402d95aa3c1d1242fafcdce1a32015", func := "loop.example/measuredsorts/laws.FnTreeDepths", spec := "fnTreeDepths", apart := false, narrowed := true }
def FnTreeDepthsUptoSaid : Prop := fnTreeDepthsUptoRow.holds Try.pinned (OpenSpec.upto fnTreeDepthsSpec)

/-- 'laws.FnValidFacts', WHERE WHAT IT READS IS OF BULK AT MOST 1048576: true; the input reads as it did. -/
def fnValidFactsUptoRow : OpenClaim := { program := "ytcgcbpkociaphaa", sum := "b2fe31dee03c2b5a700f2d590456fc05d2402d95aa3c1d1242fafcdce1a32015", func := "loop.example/measuredsorts/laws.FnValidFacts", spec := "fnValidFacts", unfollowed := true, recurses := true, apart := false, narrowed := true }
def FnValidFactsUptoSaid : Prop := fnValidFactsUptoRow.holds Try.pinned (OpenSpec.upto fnValidFactsSpec)

/-- 'laws.FnChainFacts', WHERE WHAT IT READS IS OF BULK AT MOST 1048576: true; the input reads as it did. -/
def fnChainFactsUptoRow : OpenClaim := { program := "ytcgcbpkociaphaa", sum := "b2fe31dee03c2b5a700f2d590456fc05d2402d95aa3c1d1242fafcdce1a32015", func := "loop.example/measuredsorts/laws.FnChainFacts", spec := "fnChainFacts", unfollowed := true, recurses := true, apart := false, narrowed := true }
def FnChainFactsUptoSaid : Prop := fnChainFactsUptoRow.holds Try.pinned (OpenSpec.upto fnChainFactsSpec)

/-- 'laws.FnExactPilesOf', WHERE WHAT IT READS IS OF BULK AT MOST 1048576: true; the input reads as it did. -/
def fnExactPilesOfUptoRow : OpenClaim := { program := "ytcgcbpkociaphaa", sum := "b2fe31dee03c2b5a700f2d590456fc05d2402d95aa3c1d1242fafcdce1a32015", func := "loop.example/measuredsorts/laws.FnExactPilesOf", spec := "fnExactPilesOf", apart := false, narrowed := true }
def FnExactPilesOfUptoSaid : Prop := fnExactPilesOfUptoRow.holds Try.pinned (OpenSpec.upto fnExactPilesOfSpec)

/-- 'laws.FnExactQuickSort', WHERE WHAT IT READS IS OF BULK AT MOST 1048576: true; the input reads as it did. -/
def fnExactQuickSortUptoRow : OpenClaim := { program := "ytcgcbpkociaphaa", sum := "b2fe31dee03c2b5a700f2d590456fc05d2402d95aa3c1d1242fafcdce1a32015", func := "loop.example/measuredsorts/laws.FnExactQuickSort", spec := "fnExactQuickSort", recurses := true, apart := false, narrowed := true }
def FnExactQuickSortUptoSaid : Prop := fnExactQuickSortUptoRow.holds Try.pinned (OpenSpec.upto fnExactQuickSortSpec)

/-- 'laws.FnExactTreeDepths', WHERE WHAT IT READS IS OF BULK AT MOST 1048576: true; the input reads as it did. -/
def fnExactTreeDepthsUptoRow : OpenClaim := { program := "ytcgcbpkociaphaa", sum := "b2fe31dee03c2b5a700f2d590456fc05d2402d95aa3c1d1242fafcdce1a32015", func := "loop.example/measuredsorts/laws.FnExactTreeDepths", spec := "fnExactTreeDepths", apart := false, narrowed := true }
def FnExactTreeDepthsUptoSaid : Prop := fnExactTreeDepthsUptoRow.holds Try.pinned (OpenSpec.upto fnExactTreeDepthsSpec)

/-- 'laws.FnExactValidFacts', WHERE WHAT IT READS IS OF BULK AT MOST 1048576: true; the input reads as it did. -/
def fnExactValidFactsUptoRow : OpenClaim := { program := "ytcgcbpkociaphaa", sum := "b2fe31dee03c2b5a700f2d590456fc05d2402d95aa3c1d1242fafcdce1a32015", func := "loop.example/measuredsorts/laws.FnExactValidFacts", spec := "fnExactValidFacts", unfollowed := true, recurses := true, apart := false, narrowed := true }
def FnExactValidFactsUptoSaid : Prop := fnExactValidFactsUptoRow.holds Try.pinned (OpenSpec.upto fnExactValidFactsSpec)

/-- 'laws.FnExactChainFacts', WHERE WHAT IT READS IS OF BULK AT MOST 1048576: true; the input reads as it did. -/
def fnExactChainFactsUptoRow : OpenClaim := { program := "ytcgcbpkociaphaa", sum := "b2fe31dee03c2b5a700f2d590456fc05d2402d95aa3c1d1242fafcdce1a32015", func := "loop.example/measuredsorts/laws.FnExactChainFacts", spec := "fnExactChainFacts", apart := false, narrowed := true }
def FnExactChainFactsUptoSaid : Prop := fnExactChainFactsUptoRow.holds Try.pinned (OpenSpec.upto fnExactChainFactsSpec)

end Rows
end Go.Proofs.Ytcgcbpkociaphaa
