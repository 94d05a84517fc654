/-
  No cell of these rows narrows 'for every input' (looked for: loops, veiled, ifaces, maps, wideKeys, modest, calm, conditions, laid).
  DERIVED. THE GIVEN ROWS OF THIS SEAT. 9 by the template 'for every input the law returns true; each argument reads behind the call as it read before'; 0 by the template 'total and deterministic' (their statements: YtbidbopjalojaabTotals.lean).
  GIVEN WITH THE SEED: the statements are not yours to turn. If you find one false, say at which input.
  Laid BY PROGRAM, IN A SANDBOX (cutbox-rows.mjs): the forced cells as the released guide's own fill.sh prints them over the translation 5a3a334e1b404eb5… (all of the seat's roots in one cut). By AI agents, Wed Nov 11 2026. No macro, syntax, notation, axiom, sorry.
-/
import Derived.Test.YtbidbopjalojaabChecked
import GoSem.Claim
import GoSem.ClaimJoined
import GoSem.ClaimMapViews
import Derived.JoinedTies
import Derived.KernelRfl
namespace Go.Proofs.Ytbidbopjalojaab
/- THE CELL 'sum', in the pinned program and in every row, IS THE sha256 OF THE DUMP (.gsa) THAT YtbidbopjalojaabProg.lean LOADS. Nothing in Lean hashes anything: it is a label: what it is worth is what the hold of that sum in a sandbox is worth. -/
noncomputable def Try.pinned : Pinned := { name := "ytbidbopjalojaab", sum := "5a3a334e1b404eb59b40fba3eac02e794b1cdbf541e0f4b2294e40eff0fbc130", checked := Try.checked }
namespace Rows
def none {H : Type} : Left H := { results := [], args := [] }

/-- 'laws.FnExactMisplacedOf': WHATEVER THE INPUT: true; the input reads as it did. -/
def fnExactMisplacedOfSpec : ChangeSpec := { name := "fnExactMisplacedOf", fn := fun _ => fun
  | [d] => { results := [.lit (.bool true)], args := [d] }
  | _ => none }
def fnExactMisplacedOfRow : OpenClaim := { program := "ytbidbopjalojaab", sum := "5a3a334e1b404eb59b40fba3eac02e794b1cdbf541e0f4b2294e40eff0fbc130", func := "loop.example/measuredsorts/laws.FnExactMisplacedOf", spec := "fnExactMisplacedOf", apart := false }
def FnExactMisplacedOfSaid : Prop := fnExactMisplacedOfRow.holds Try.pinned (OpenSpec.ofChange fnExactMisplacedOfSpec)

/-- ITS FALSE NEIGHBOUR: 'it returns false'. Refute it at one input. -/
def fnExactMisplacedOfWrong : ChangeSpec := { name := "fnExactMisplacedOf", fn := fun _ => fun
  | [d] => { results := [.lit (.bool false)], args := [d] }
  | _ => none }
def FnExactMisplacedOfWrongFalsely : Prop := fnExactMisplacedOfRow.holds Try.pinned (OpenSpec.ofChange fnExactMisplacedOfWrong)

/-- 'laws.FnExactFarthestOf': WHATEVER THE INPUT: true; the input reads as it did. -/
def fnExactFarthestOfSpec : ChangeSpec := { name := "fnExactFarthestOf", fn := fun _ => fun
  | [d] => { results := [.lit (.bool true)], args := [d] }
  | _ => none }
def fnExactFarthestOfRow : OpenClaim := { program := "ytbidbopjalojaab", sum := "5a3a334e1b404eb59b40fba3eac02e794b1cdbf541e0f4b2294e40eff0fbc130", func := "loop.example/measuredsorts/laws.FnExactFarthestOf", spec := "fnExactFarthestOf", apart := false }
def FnExactFarthestOfSaid : Prop := fnExactFarthestOfRow.holds Try.pinned (OpenSpec.ofChange fnExactFarthestOfSpec)

/-- ITS FALSE NEIGHBOUR: 'it returns false'. Refute it at one input. -/
def fnExactFarthestOfWrong : ChangeSpec := { name := "fnExactFarthestOf", fn := fun _ => fun
  | [d] => { results := [.lit (.bool false)], args := [d] }
  | _ => none }
def FnExactFarthestOfWrongFalsely : Prop := fnExactFarthestOfRow.holds Try.pinned (OpenSpec.ofChange fnExactFarthestOfWrong)

/-- 'laws.FnExactWidestOf': WHATEVER THE INPUT: true; the input reads as it did. -/
def fnExactWidestOfSpec : ChangeSpec := { name := "fnExactWidestOf", fn := fun _ => fun
  | [d] => { results := [.lit (.bool true)], args := [d] }
  | _ => none }
def fnExactWidestOfRow : OpenClaim := { program := "ytbidbopjalojaab", sum := "5a3a334e1b404eb59b40fba3eac02e794b1cdbf541e0f4b2294e40eff0fbc130", func := "loop.example/measuredsorts/laws.FnExactWidestOf", spec := "fnExactWidestOf", apart := false }
def FnExactWidestOfSaid : Prop := fnExactWidestOfRow.holds Try.pinned (OpenSpec.ofChange fnExactWidestOfSpec)

/-- ITS FALSE NEIGHBOUR: 'it returns false'. Refute it at one input. -/
def fnExactWidestOfWrong : ChangeSpec := { name := "fnExactWidestOf", fn := fun _ => fun
  | [d] => { results := [.lit (.bool false)], args := [d] }
  | _ => none }
def FnExactWidestOfWrongFalsely : Prop := fnExactWidestOfRow.holds Try.pinned (OpenSpec.ofChange fnExactWidestOfWrong)

/-- 'laws.FnExactPilesOf': WHATEVER THE INPUT: true; the input reads as it did. -/
def fnExactPilesOfSpec : ChangeSpec := { name := "fnExactPilesOf", fn := fun _ => fun
  | [d] => { results := [.lit (.bool true)], args := [d] }
  | _ => none }
def fnExactPilesOfRow : OpenClaim := { program := "ytbidbopjalojaab", sum := "5a3a334e1b404eb59b40fba3eac02e794b1cdbf541e0f4b2294e40eff0fbc130", func := "loop.example/measuredsorts/laws.FnExactPilesOf", spec := "fnExactPilesOf", apart := false }
def FnExactPilesOfSaid : Prop := fnExactPilesOfRow.holds Try.pinned (OpenSpec.ofChange fnExactPilesOfSpec)

/-- ITS FALSE NEIGHBOUR: 'it returns false'. Refute it at one input. -/
def fnExactPilesOfWrong : ChangeSpec := { name := "fnExactPilesOf", fn := fun _ => fun
  | [d] => { results := [.lit (.bool false)], args := [d] }
  | _ => none }
def FnExactPilesOfWrongFalsely : Prop := fnExactPilesOfRow.holds Try.pinned (OpenSpec.ofChange fnExactPilesOfWrong)

/-- 'laws.FnExactLongestFall': WHATEVER THE INPUT: true; the input reads as it did. -/
def fnExactLongestFallSpec : ChangeSpec := { name := "fnExactLongestFall", fn := fun _ => fun
  | [d] => { results := [.lit (.bool true)], args := [d] }
  | _ => none }
def fnExactLongestFallRow : OpenClaim := { program := "ytbidbopjalojaab", sum := "5a3a334e1b404eb59b40fba3eac02e794b1cdbf541e0f4b2294e40eff0fbc130", func := "loop.example/measuredsorts/laws.FnExactLongestFall", spec := "fnExactLongestFall", unfollowed := true, recurses := true, apart := false }
def FnExactLongestFallSaid : Prop := fnExactLongestFallRow.holds Try.pinned (OpenSpec.ofChange fnExactLongestFallSpec)

/-- ITS FALSE NEIGHBOUR: 'it returns false'. Refute it at one input. -/
def fnExactLongestFallWrong : ChangeSpec := { name := "fnExactLongestFall", fn := fun _ => fun
  | [d] => { results := [.lit (.bool false)], args := [d] }
  | _ => none }
def FnExactLongestFallWrongFalsely : Prop := fnExactLongestFallRow.holds Try.pinned (OpenSpec.ofChange fnExactLongestFallWrong)

/-- 'laws.FnExactSwingsOf': WHATEVER THE INPUT: true; the input reads as it did. -/
def fnExactSwingsOfSpec : ChangeSpec := { name := "fnExactSwingsOf", fn := fun _ => fun
  | [d] => { results := [.lit (.bool true)], args := [d] }
  | _ => none }
def fnExactSwingsOfRow : OpenClaim := { program := "ytbidbopjalojaab", sum := "5a3a334e1b404eb59b40fba3eac02e794b1cdbf541e0f4b2294e40eff0fbc130", func := "loop.example/measuredsorts/laws.FnExactSwingsOf", spec := "fnExactSwingsOf", apart := false }
def FnExactSwingsOfSaid : Prop := fnExactSwingsOfRow.holds Try.pinned (OpenSpec.ofChange fnExactSwingsOfSpec)

/-- ITS FALSE NEIGHBOUR: 'it returns false'. Refute it at one input. -/
def fnExactSwingsOfWrong : ChangeSpec := { name := "fnExactSwingsOf", fn := fun _ => fun
  | [d] => { results := [.lit (.bool false)], args := [d] }
  | _ => none }
def FnExactSwingsOfWrongFalsely : Prop := fnExactSwingsOfRow.holds Try.pinned (OpenSpec.ofChange fnExactSwingsOfWrong)

/-- 'laws.FnExactBreaksOf': WHATEVER THE INPUT: true; the input reads as it did. -/
def fnExactBreaksOfSpec : ChangeSpec := { name := "fnExactBreaksOf", fn := fun _ => fun
  | [d] => { results := [.lit (.bool true)], args := [d] }
  | _ => none }
def fnExactBreaksOfRow : OpenClaim := { program := "ytbidbopjalojaab", sum := "5a3a334e1b404eb59b40fba3eac02e794b1cdbf541e0f4b2294e40eff0fbc130", func := "loop.example/measuredsorts/laws.FnExactBreaksOf", spec := "fnExactBreaksOf", apart := false }
def FnExactBreaksOfSaid : Prop := fnExactBreaksOfRow.holds Try.pinned (OpenSpec.ofChange fnExactBreaksOfSpec)

/-- ITS FALSE NEIGHBOUR: 'it returns false'. Refute it at one input. -/
def fnExactBreaksOfWrong : ChangeSpec := { name := "fnExactBreaksOf", fn := fun _ => fun
  | [d] => { results := [.lit (.bool false)], args := [d] }
  | _ => none }
def FnExactBreaksOfWrongFalsely : Prop := fnExactBreaksOfRow.holds Try.pinned (OpenSpec.ofChange fnExactBreaksOfWrong)

/-- 'laws.FnExactMeasureOf': WHATEVER THE INPUT: true; the input reads as it did. -/
def fnExactMeasureOfSpec : ChangeSpec := { name := "fnExactMeasureOf", fn := fun _ => fun
  | [d1, d2] => { results := [.lit (.bool true)], args := [d1, d2] }
  | _ => none }
def fnExactMeasureOfRow : OpenClaim := { program := "ytbidbopjalojaab", sum := "5a3a334e1b404eb59b40fba3eac02e794b1cdbf541e0f4b2294e40eff0fbc130", func := "loop.example/measuredsorts/laws.FnExactMeasureOf", spec := "fnExactMeasureOf", unfollowed := true, recurses := true, apart := false }
def FnExactMeasureOfSaid : Prop := fnExactMeasureOfRow.holds Try.pinned (OpenSpec.ofChange fnExactMeasureOfSpec)

/-- ITS FALSE NEIGHBOUR: 'it returns false'. Refute it at one input. -/
def fnExactMeasureOfWrong : ChangeSpec := { name := "fnExactMeasureOf", fn := fun _ => fun
  | [d1, d2] => { results := [.lit (.bool false)], args := [d1, d2] }
  | _ => none }
def FnExactMeasureOfWrongFalsely : Prop := fnExactMeasureOfRow.holds Try.pinned (OpenSpec.ofChange fnExactMeasureOfWrong)

/-- 'laws.FnExactInsertionSort': WHATEVER THE INPUT: true; the input reads as it did. -/
def fnExactInsertionSortSpec : ChangeSpec := { name := "fnExactInsertionSort", fn := fun _ => fun
  | [d] => { results := [.lit (.bool true)], args := [d] }
  | _ => none }
def fnExactInsertionSortRow : OpenClaim := { program := "ytbidbopjalojaab", sum := "5a3a334e1b404eb59b40fba3eac02e794b1cdbf541e0f4b2294e40eff0fbc130", func := "loop.example/measuredsorts/laws.FnExactInsertionSort", spec := "fnExactInsertionSort", apart := false }
def FnExactInsertionSortSaid : Prop := fnExactInsertionSortRow.holds Try.pinned (OpenSpec.ofChange fnExactInsertionSortSpec)

/-- ITS FALSE NEIGHBOUR: 'it returns false'. Refute it at one input. -/
def fnExactInsertionSortWrong : ChangeSpec := { name := "fnExactInsertionSort", fn := fun _ => fun
  | [d] => { results := [.lit (.bool false)], args := [d] }
  | _ => none }
def FnExactInsertionSortWrongFalsely : Prop := fnExactInsertionSortRow.holds Try.pinned (OpenSpec.ofChange fnExactInsertionSortWrong)

/- THE SECOND FORM. 'bulk': how many values and letters a reading holds, each counted each time it is reached (what is shared counts as often as it is met; a slice's spare places count too). A statement '..UptoSaid' is the law's where the arguments, and the package variables that the reading takes, are together of bulk at most 1048576: NARROWER than '..Said'. Prove '..Said' where nothing that the law and all that it calls make is longer than what came in: it says more and counts as full. Else prove '..UptoSaid'. A law counts once. -/
mutual
def uptoBulk {H : Type} : DataW H → Nat
  | .lit (.string bytes) => bytes.length + 1
  | .lit _ => 1
  | .nil => 1
  | .ptr d => uptoBulk d + 1
  | .slice elems spare => uptoBulkAll elems + uptoBulkAll spare + 1
  | .agg parts => uptoBulkAll parts + 1
  | .iface _ d => uptoBulk d + 1
  | .map entries => uptoBulkEntries entries + 1
  | .held _ => 1
def uptoBulkAll {H : Type} : List (DataW H) → Nat
  | [] => 0
  | d :: r => uptoBulk d + uptoBulkAll r
def uptoBulkEntries {H : Type} : List (Lit × DataW H) → Nat
  | [] => 0
  | x :: r => uptoBulkEntry x + uptoBulkEntries r
def uptoBulkEntry {H : Type} : Lit × DataW H → Nat
  | (.string bytes, d) => bytes.length + uptoBulk d + 1
  | (_, d) => uptoBulk d + 1
 end
def uptoSmall : (H : Type) → List (DataW H) → Bool := fun _ ds => decide (uptoBulkAll ds ≤ 1048576)
def OpenSpec.upto (s : _root_.Go.ChangeSpec) : _root_.Go.OpenSpec := { _root_.Go.OpenSpec.ofChange s with cond := some uptoSmall }

/-- 'laws.FnExactMisplacedOf', WHERE WHAT IT READS IS OF BULK AT MOST 1048576: true; the input reads as it did. -/
def fnExactMisplacedOfUptoRow : OpenClaim := { program := "ytbidbopjalojaab", sum := "5a3a334e1b404eb59b40fba3eac02e794b1cdbf541e0f4b2294e40eff0fbc130", func := "loop.example/measuredsorts/laws.FnExactMisplacedOf", spec := "fnExactMisplacedOf", apart := false, narrowed := true }
def FnExactMisplacedOfUptoSaid : Prop := fnExactMisplacedOfUptoRow.holds Try.pinned (OpenSpec.upto fnExactMisplacedOfSpec)

/-- 'laws.FnExactFarthestOf', WHERE WHAT IT READS IS OF BULK AT MOST 1048576: true; the input reads as it did. -/
def fnExactFarthestOfUptoRow : OpenClaim := { program := "ytbidbopjalojaab", sum := "5a3a334e1b404eb59b40fba3eac02e794b1cdbf541e0f4b2294e40eff0fbc130", func := "loop.example/measuredsorts/laws.FnExactFarthestOf", spec := "fnExactFarthestOf", apart := false, narrowed := true }
def FnExactFarthestOfUptoSaid : Prop := fnExactFarthestOfUptoRow.holds Try.pinned (OpenSpec.upto fnExactFarthestOfSpec)

/-- 'laws.FnExactWidestOf', WHERE WHAT IT READS IS OF BULK AT MOST 1048576: true; the input reads as it did. -/
def fnExactWidestOfUptoRow : OpenClaim := { program := "ytbidbopjalojaab", sum := "5a3a334e1b404eb59b40fba3eac02e794b1cdbf541e0f4b2294e40eff0fbc130", func := "loop.example/measuredsorts/laws.FnExactWidestOf", spec := "fnExactWidestOf", apart := false, narrowed := true }
def FnExactWidestOfUptoSaid : Prop := fnExactWidestOfUptoRow.holds Try.pinned (OpenSpec.upto fnExactWidestOfSpec)

/-- 'laws.FnExactPilesOf', WHERE WHAT IT READS IS OF BULK AT MOST 1048576: true; the input reads as it did. -/
def fnExactPilesOfUptoRow : OpenClaim := { program := "ytbidbopjalojaab", sum := "5a3a334e1b404eb59b40fba3eac02e794b1cdbf541e0f4b2294e40eff0fbc130", func := "loop.example/measuredsorts/laws.FnExactPilesOf", spec := "fnExactPilesOf", apart := false, narrowed := true }
def FnExactPilesOfUptoSaid : Prop := fnExactPilesOfUptoRow.holds Try.pinned (OpenSpec.upto fnExactPilesOfSpec)

/-- 'laws.FnExactLongestFall', WHERE WHAT IT READS IS OF BULK AT MOST 1048576: true; the input reads as it did. -/
def fnExactLongestFallUptoRow : OpenClaim := { program := "ytbidbopjalojaab", sum := "5a3a334e1b404eb59b40fba3eac02e794b1cdbf541e0f4b2294e40eff0fbc130", func := "loop.example/measuredsorts/laws.FnExactLongestFall", spec := "fnExactLongestFall", unfollowed := true, recurses := true, apart := false, narrowed := true }
def FnExactLongestFallUptoSaid : Prop := fnExactLongestFallUptoRow.holds Try.pinned (OpenSpec.upto fnExactLongestFallSpec)

/-- 'laws.FnExactSwingsOf', WHERE WHAT IT READS IS OF BULK AT MOST 1048576: true; the input reads as it did. -/
def fnExactSwingsOfUptoRow : OpenClaim := { program := "ytbidbopjalojaab", sum := "5a3a334e1b404eb59b40fba3eac02e794b1cdbf541e0f4b2294e40eff0fbc130", func := "loop.example/measuredsorts/laws.FnExactSwingsOf", spec := "fnExactSwingsOf", apart := false, narrowed := true }
def FnExactSwingsOfUptoSaid : Prop := fnExactSwingsOfUptoRow.holds Try.pinned (OpenSpec.upto fnExactSwingsOfSpec)

/-- 'laws.FnExactBreaksOf', WHERE WHAT IT READS IS OF BULK AT MOST 1048576: true; the input reads as it did. -/
def fnExactBreaksOfUptoRow : OpenClaim := { program := "ytbidbopjalojaab", sum := "5a3a334e1b404eb59b40fba3eac02e794b1cdbf541e0f4b2294e40eff0fbc130", func := "loop.example/measuredsorts/laws.FnExactBreaksOf", spec := "fnExactBreaksOf", apart := false, narrowed := true }
def FnExactBreaksOfUptoSaid : Prop := fnExactBreaksOfUptoRow.holds Try.pinned (OpenSpec.upto fnExactBreaksOfSpec)

/-- 'laws.FnExactMeasureOf', WHERE WHAT IT READS IS OF BULK AT MOST 1048576: true; the input reads as it did. -/
def fnExactMeasureOfUptoRow : OpenClaim := { program := "ytbidbopjalojaab", sum := "5a3a334e1b404eb59b40fba3eac02e794b1cdbf541e0f4b2294e40eff0fbc130", func := "loop.example/measuredsorts/laws.FnExactMeasureOf", spec := "fnExactMeasureOf", unfollowed := true, recurses := true, apart := false, narrowed := true }
def FnExactMeasureOfUptoSaid : Prop := fnExactMeasureOfUptoRow.holds Try.pinned (OpenSpec.upto fnExactMeasureOfSpec)

/-- 'laws.FnExactInsertionSort', WHERE WHAT IT READS IS OF BULK AT MOST 1048576: true; the input reads as it did. -/
def fnExactInsertionSortUptoRow : OpenClaim := { program := "ytbidbopjalojaab", sum := "5a3a334e1b404eb59b40fba3eac02e794b1cdbf541e0f4b2294e40eff0fbc130", func := "loop.example/measuredsorts/laws.FnExactInsertionSort", spec := "fnExactInsertionSort", apart := false, narrowed := true }
def FnExactInsertionSortUptoSaid : Prop := fnExactInsertionSortUptoRow.holds Try.pinned (OpenSpec.upto fnExactInsertionSortSpec)

end Rows
end Go.Proofs.Ytbidbopjalojaab
