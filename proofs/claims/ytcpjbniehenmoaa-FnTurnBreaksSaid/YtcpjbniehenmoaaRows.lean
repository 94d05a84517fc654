/-
  No cell of these rows narrows 'for every input' (looked for: loops, veiled, ifaces, maps, wideKeys, modest, calm, conditions, laid).
  DERIVED. THE GIVEN ROWS OF THIS SEAT. 10 by the template 'for every input the law returns true; each argument reads behind the call as it read before'; 0 by the template 'total and deterministic' (their statements: YtcpjbniehenmoaaTotals.lean).
  GIVEN WITH THE SEED: the statements are not yours to turn. If you find one false, say at which input.
  Laid BY PROGRAM, IN A SANDBOX (cutbox-rows.mjs): the forced cells as the released guide's own fill.sh prints them over the translation a399ec83a2c3e52d… (all of the seat's roots in one cut). By AI agents, Wed Nov 11 2026. No macro, syntax, notation, axiom, sorry.
-/
import Derived.Test.YtcpjbniehenmoaaChecked
import GoSem.Claim
import GoSem.ClaimJoined
import GoSem.ClaimMapViews
import Derived.JoinedTies
import Derived.KernelRfl
namespace Go.Proofs.Ytcpjbniehenmoaa
/- THE CELL 'sum', in the pinned program and in every row, IS THE sha256 OF THE DUMP (.gsa) THAT YtcpjbniehenmoaaProg.lean LOADS. Nothing in Lean hashes anything: it is a label: what it is worth is what the hold of that sum in a sandbox is worth. -/
noncomputable def Try.pinned : Pinned := { name := "ytcpjbniehenmoaa", sum := "a399ec83a2c3e52dcf806fbb0870e2026f8c9d59e4cf31ead6e5293b3bc86ed2", checked := Try.checked }
namespace Rows
def none {H : Type} : Left H := { results := [], args := [] }

/-- 'laws.FnValidOrder': WHATEVER THE INPUT: true; the input reads as it did. -/
def fnValidOrderSpec : ChangeSpec := { name := "fnValidOrder", fn := fun _ => fun
  | [d] => { results := [.lit (.bool true)], args := [d] }
  | _ => none }
def fnValidOrderRow : OpenClaim := { program := "ytcpjbniehenmoaa", sum := "a399ec83a2c3e52dcf806fbb0870e2026f8c9d59e4cf31ead6e5293b3bc86ed2", func := "loop.example/measuredsorts/laws.FnValidOrder", spec := "fnValidOrder", apart := false }
def FnValidOrderSaid : Prop := fnValidOrderRow.holds Try.pinned (OpenSpec.ofChange fnValidOrderSpec)

/-- ITS FALSE NEIGHBOUR: 'it returns false'. Refute it at one input. -/
def fnValidOrderWrong : ChangeSpec := { name := "fnValidOrder", fn := fun _ => fun
  | [d] => { results := [.lit (.bool false)], args := [d] }
  | _ => none }
def FnValidOrderWrongFalsely : Prop := fnValidOrderRow.holds Try.pinned (OpenSpec.ofChange fnValidOrderWrong)

/-- 'laws.FnRelativeOf': WHATEVER THE INPUT: true; the input reads as it did. -/
def fnRelativeOfSpec : ChangeSpec := { name := "fnRelativeOf", fn := fun _ => fun
  | [d] => { results := [.lit (.bool true)], args := [d] }
  | _ => none }
def fnRelativeOfRow : OpenClaim := { program := "ytcpjbniehenmoaa", sum := "a399ec83a2c3e52dcf806fbb0870e2026f8c9d59e4cf31ead6e5293b3bc86ed2", func := "loop.example/measuredsorts/laws.FnRelativeOf", spec := "fnRelativeOf", apart := false }
def FnRelativeOfSaid : Prop := fnRelativeOfRow.holds Try.pinned (OpenSpec.ofChange fnRelativeOfSpec)

/-- ITS FALSE NEIGHBOUR: 'it returns false'. Refute it at one input. -/
def fnRelativeOfWrong : ChangeSpec := { name := "fnRelativeOf", fn := fun _ => fun
  | [d] => { results := [.lit (.bool false)], args := [d] }
  | _ => none }
def FnRelativeOfWrongFalsely : Prop := fnRelativeOfRow.holds Try.pinned (OpenSpec.ofChange fnRelativeOfWrong)

/-- 'laws.FnTurnBreaks': WHATEVER THE INPUT: true; the input reads as it did. -/
def fnTurnBreaksSpec : ChangeSpec := { name := "fnTurnBreaks", fn := fun _ => fun
  | [d] => { results := [.lit (.bool true)], args := [d] }
  | _ => none }
def fnTurnBreaksRow : OpenClaim := { program := "ytcpjbniehenmoaa", sum := "a399ec83a2c3e52dcf806fbb0870e2026f8c9d59e4cf31ead6e5293b3bc86ed2", func := "loop.example/measuredsorts/laws.FnTurnBreaks", spec := "fnTurnBreaks", unfollowed := true, recurses := true, apart := false }
def FnTurnBreaksSaid : Prop := fnTurnBreaksRow.holds Try.pinned (OpenSpec.ofChange fnTurnBreaksSpec)

/-- ITS FALSE NEIGHBOUR: 'it returns false'. Refute it at one input. -/
def fnTurnBreaksWrong : ChangeSpec := { name := "fnTurnBreaks", fn := fun _ => fun
  | [d] => { results := [.lit (.bool false)], args := [d] }
  | _ => none }
def FnTurnBreaksWrongFalsely : Prop := fnTurnBreaksRow.holds Try.pinned (OpenSpec.ofChange fnTurnBreaksWrong)

/-- 'laws.FnStackPass': WHATEVER THE INPUT: true; the input reads as it did. -/
def fnStackPassSpec : ChangeSpec := { name := "fnStackPass", fn := fun _ => fun
  | [d] => { results := [.lit (.bool true)], args := [d] }
  | _ => none }
def fnStackPassRow : OpenClaim := { program := "ytcpjbniehenmoaa", sum := "a399ec83a2c3e52dcf806fbb0870e2026f8c9d59e4cf31ead6e5293b3bc86ed2", func := "loop.example/measuredsorts/laws.FnStackPass", spec := "fnStackPass", apart := false }
def FnStackPassSaid : Prop := fnStackPassRow.holds Try.pinned (OpenSpec.ofChange fnStackPassSpec)

/-- ITS FALSE NEIGHBOUR: 'it returns false'. Refute it at one input. -/
def fnStackPassWrong : ChangeSpec := { name := "fnStackPass", fn := fun _ => fun
  | [d] => { results := [.lit (.bool false)], args := [d] }
  | _ => none }
def FnStackPassWrongFalsely : Prop := fnStackPassRow.holds Try.pinned (OpenSpec.ofChange fnStackPassWrong)

/-- 'laws.FnIsStackable': WHATEVER THE INPUT: true; the input reads as it did. -/
def fnIsStackableSpec : ChangeSpec := { name := "fnIsStackable", fn := fun _ => fun
  | [d] => { results := [.lit (.bool true)], args := [d] }
  | _ => none }
def fnIsStackableRow : OpenClaim := { program := "ytcpjbniehenmoaa", sum := "a399ec83a2c3e52dcf806fbb0870e2026f8c9d59e4cf31ead6e5293b3bc86ed2", func := "loop.example/measuredsorts/laws.FnIsStackable", spec := "fnIsStackable", apart := false }
def FnIsStackableSaid : Prop := fnIsStackableRow.holds Try.pinned (OpenSpec.ofChange fnIsStackableSpec)

/-- ITS FALSE NEIGHBOUR: 'it returns false'. Refute it at one input. -/
def fnIsStackableWrong : ChangeSpec := { name := "fnIsStackable", fn := fun _ => fun
  | [d] => { results := [.lit (.bool false)], args := [d] }
  | _ => none }
def FnIsStackableWrongFalsely : Prop := fnIsStackableRow.holds Try.pinned (OpenSpec.ofChange fnIsStackableWrong)

/-- 'laws.FnStackPasses': WHATEVER THE INPUT: true; the input reads as it did. -/
def fnStackPassesSpec : ChangeSpec := { name := "fnStackPasses", fn := fun _ => fun
  | [d] => { results := [.lit (.bool true)], args := [d] }
  | _ => none }
def fnStackPassesRow : OpenClaim := { program := "ytcpjbniehenmoaa", sum := "a399ec83a2c3e52dcf806fbb0870e2026f8c9d59e4cf31ead6e5293b3bc86ed2", func := "loop.example/measuredsorts/laws.FnStackPasses", spec := "fnStackPasses", unfollowed := true, recurses := true, apart := false }
def FnStackPassesSaid : Prop := fnStackPassesRow.holds Try.pinned (OpenSpec.ofChange fnStackPassesSpec)

/-- ITS FALSE NEIGHBOUR: 'it returns false'. Refute it at one input. -/
def fnStackPassesWrong : ChangeSpec := { name := "fnStackPasses", fn := fun _ => fun
  | [d] => { results := [.lit (.bool false)], args := [d] }
  | _ => none }
def FnStackPassesWrongFalsely : Prop := fnStackPassesRow.holds Try.pinned (OpenSpec.ofChange fnStackPassesWrong)

/-- 'laws.FnHasThree': WHATEVER THE INPUT: true; the input reads as it did. -/
def fnHasThreeSpec : ChangeSpec := { name := "fnHasThree", fn := fun _ => fun
  | [d] => { results := [.lit (.bool true)], args := [d] }
  | _ => none }
def fnHasThreeRow : OpenClaim := { program := "ytcpjbniehenmoaa", sum := "a399ec83a2c3e52dcf806fbb0870e2026f8c9d59e4cf31ead6e5293b3bc86ed2", func := "loop.example/measuredsorts/laws.FnHasThree", spec := "fnHasThree", unfollowed := true, recurses := true, apart := false }
def FnHasThreeSaid : Prop := fnHasThreeRow.holds Try.pinned (OpenSpec.ofChange fnHasThreeSpec)

/-- ITS FALSE NEIGHBOUR: 'it returns false'. Refute it at one input. -/
def fnHasThreeWrong : ChangeSpec := { name := "fnHasThree", fn := fun _ => fun
  | [d] => { results := [.lit (.bool false)], args := [d] }
  | _ => none }
def FnHasThreeWrongFalsely : Prop := fnHasThreeRow.holds Try.pinned (OpenSpec.ofChange fnHasThreeWrong)

/-- 'laws.FnPopPass': WHATEVER THE INPUT: true; the input reads as it did. -/
def fnPopPassSpec : ChangeSpec := { name := "fnPopPass", fn := fun _ => fun
  | [d] => { results := [.lit (.bool true)], args := [d] }
  | _ => none }
def fnPopPassRow : OpenClaim := { program := "ytcpjbniehenmoaa", sum := "a399ec83a2c3e52dcf806fbb0870e2026f8c9d59e4cf31ead6e5293b3bc86ed2", func := "loop.example/measuredsorts/laws.FnPopPass", spec := "fnPopPass", apart := false }
def FnPopPassSaid : Prop := fnPopPassRow.holds Try.pinned (OpenSpec.ofChange fnPopPassSpec)

/-- ITS FALSE NEIGHBOUR: 'it returns false'. Refute it at one input. -/
def fnPopPassWrong : ChangeSpec := { name := "fnPopPass", fn := fun _ => fun
  | [d] => { results := [.lit (.bool false)], args := [d] }
  | _ => none }
def FnPopPassWrongFalsely : Prop := fnPopPassRow.holds Try.pinned (OpenSpec.ofChange fnPopPassWrong)

/-- 'laws.FnPopPasses': WHATEVER THE INPUT: true; the input reads as it did. -/
def fnPopPassesSpec : ChangeSpec := { name := "fnPopPasses", fn := fun _ => fun
  | [d] => { results := [.lit (.bool true)], args := [d] }
  | _ => none }
def fnPopPassesRow : OpenClaim := { program := "ytcpjbniehenmoaa", sum := "a399ec83a2c3e52dcf806fbb0870e2026f8c9d59e4cf31ead6e5293b3bc86ed2", func := "loop.example/measuredsorts/laws.FnPopPasses", spec := "fnPopPasses", unfollowed := true, recurses := true, apart := false }
def FnPopPassesSaid : Prop := fnPopPassesRow.holds Try.pinned (OpenSpec.ofChange fnPopPassesSpec)

/-- ITS FALSE NEIGHBOUR: 'it returns false'. Refute it at one input. -/
def fnPopPassesWrong : ChangeSpec := { name := "fnPopPasses", fn := fun _ => fun
  | [d] => { results := [.lit (.bool false)], args := [d] }
  | _ => none }
def FnPopPassesWrongFalsely : Prop := fnPopPassesRow.holds Try.pinned (OpenSpec.ofChange fnPopPassesWrong)

/-- 'laws.FnCountMoves': WHATEVER THE INPUT: true; the input reads as it did. -/
def fnCountMovesSpec : ChangeSpec := { name := "fnCountMoves", fn := fun _ => fun
  | [d] => { results := [.lit (.bool true)], args := [d] }
  | _ => none }
def fnCountMovesRow : OpenClaim := { program := "ytcpjbniehenmoaa", sum := "a399ec83a2c3e52dcf806fbb0870e2026f8c9d59e4cf31ead6e5293b3bc86ed2", func := "loop.example/measuredsorts/laws.FnCountMoves", spec := "fnCountMoves", apart := false }
def FnCountMovesSaid : Prop := fnCountMovesRow.holds Try.pinned (OpenSpec.ofChange fnCountMovesSpec)

/-- ITS FALSE NEIGHBOUR: 'it returns false'. Refute it at one input. -/
def fnCountMovesWrong : ChangeSpec := { name := "fnCountMoves", fn := fun _ => fun
  | [d] => { results := [.lit (.bool false)], args := [d] }
  | _ => none }
def FnCountMovesWrongFalsely : Prop := fnCountMovesRow.holds Try.pinned (OpenSpec.ofChange fnCountMovesWrong)

/- THE SECOND FORM. 'bulk': how many values and letters a reading holds, each counted each time it is reached (what is shared counts as often as it is met; a slice's spare places count too). A statement '..UptoSaid' is the law's where the arguments, and the package variables that the reading takes, are together of bulk at most 1048576: NARROWER than '..Said'. Prove '..Said' where nothing that the law and all that it calls make is longer than what came in: it says more and counts as full. Else prove '..UptoSaid'. A law counts once. -/
mutual
def uptoBulk {H : Type} : DataW H → Nat
  | .lit (.string bytes) => bytes.length + 1
  | .lit _ => 1
  | .nil => 1
  | .ptr d => uptoBulk d + 1
  | .slice elems spare => uptoBulkAll elems + uptoBulkAll spare + 1
  | .agg parts => uptoBulkAll parts + 1
  | .iface _ d => uptoBulk d + 1
  | .map entries => uptoBulkEntries entries + 1
  | .held _ => 1
def uptoBulkAll {H : Type} : List (DataW H) → Nat
  | [] => 0
  | d :: r => uptoBulk d + uptoBulkAll r
def uptoBulkEntries {H : Type} : List (Lit × DataW H) → Nat
  | [] => 0
  | x :: r => uptoBulkEntry x + uptoBulkEntries r
def uptoBulkEntry {H : Type} : Lit × DataW H → Nat
  | (.string bytes, d) => bytes.length + uptoBulk d + 1
  | (_, d) => uptoBulk d + 1
 end
def uptoSmall : (H : Type) → List (DataW H) → Bool := fun _ ds => decide (uptoBulkAll ds ≤ 1048576)
def OpenSpec.upto (s : _root_.Go.ChangeSpec) : _root_.Go.OpenSpec := { _root_.Go.OpenSpec.ofChange s with cond := some uptoSmall }

/-- 'laws.FnValidOrder', WHERE WHAT IT READS IS OF BULK AT MOST 1048576: true; the input reads as it did. -/
def fnValidOrderUptoRow : OpenClaim := { program := "ytcpjbniehenmoaa", sum := "a399ec83a2c3e52dcf806fbb0870e2026f8c9d59e4cf31ead6e5293b3bc86ed2", func := "loop.example/measuredsorts/laws.FnValidOrder", spec := "fnValidOrder", apart := false, narrowed := true }
def FnValidOrderUptoSaid : Prop := fnValidOrderUptoRow.holds Try.pinned (OpenSpec.upto fnValidOrderSpec)

/-- 'laws.FnRelativeOf', WHERE WHAT IT READS IS OF BULK AT MOST 1048576: true; the input reads as it did. -/
def fnRelativeOfUptoRow : OpenClaim := { program := "ytcpjbniehenmoaa", sum := "a399ec83a2c3e52dcf806fbb0870e2026f8c9d59e4cf31ead6e5293b3bc86ed2", func := "loop.example/measuredsorts/laws.FnRelativeOf", spec := "fnRelativeOf", apart := false, narrowed := true }
def FnRelativeOfUptoSaid : Prop := fnRelativeOfUptoRow.holds Try.pinned (OpenSpec.upto fnRelativeOfSpec)

/-- 'laws.FnTurnBreaks', WHERE WHAT IT READS IS OF BULK AT MOST 1048576: true; the input reads as it did. -/
def fnTurnBreaksUptoRow : OpenClaim := { program := "ytcpjbniehenmoaa", sum := "a399ec83a2c3e52dcf806fbb0870e2026f8c9d59e4cf31ead6e5293b3bc86ed2", func := "loop.example/measuredsorts/laws.FnTurnBreaks", spec := "fnTurnBreaks", unfollowed := true, recurses := true, apart := false, narrowed := true }
def FnTurnBreaksUptoSaid : Prop := fnTurnBreaksUptoRow.holds Try.pinned (OpenSpec.upto fnTurnBreaksSpec)

/-- 'laws.FnStackPass', WHERE WHAT IT READS IS OF BULK AT MOST 1048576: true; the input reads as it did. -/
def fnStackPassUptoRow : OpenClaim := { program := "ytcpjbniehenmoaa", sum := "a399ec83a2c3e52dcf806fbb0870e2026f8c9d59e4cf31ead6e5293b3bc86ed2", func := "loop.example/measuredsorts/laws.FnStackPass", spec := "fnStackPass", apart := false, narrowed := true }
def FnStackPassUptoSaid : Prop := fnStackPassUptoRow.holds Try.pinned (OpenSpec.upto fnStackPassSpec)

/-- 'laws.FnIsStackable', WHERE WHAT IT READS IS OF BULK AT MOST 1048576: true; the input reads as it did. -/
def fnIsStackableUptoRow : OpenClaim := { program := "ytcpjbniehenmoaa", sum := "a399ec83a2c3e52dcf806fbb0870e2026f8c9d59e4cf31ead6e5293b3bc86ed2", func := "loop.example/measuredsorts/laws.FnIsStackable", spec := "fnIsStackable", apart := false, narrowed := true }
def FnIsStackableUptoSaid : Prop := fnIsStackableUptoRow.holds Try.pinned (OpenSpec.upto fnIsStackableSpec)

/-- 'laws.FnStackPasses', WHERE WHAT IT READS IS OF BULK AT MOST 1048576: true; the input reads as it did. -/
def fnStackPassesUptoRow : OpenClaim := { program := "ytcpjbniehenmoaa", sum := "a399ec83a2c3e52dcf806fbb0870e2026f8c9d59e4cf31ead6e5293b3bc86ed2", func := "loop.example/measuredsorts/laws.FnStackPasses", spec := "fnStackPasses", unfollowed := true, recurses := true, apart := false, narrowed := true }
def FnStackPassesUptoSaid : Prop := fnStackPassesUptoRow.holds Try.pinned (OpenSpec.upto fnStackPassesSpec)

/-- 'laws.FnHasThree', WHERE WHAT IT READS IS OF BULK AT MOST 1048576: true; the input reads as it did. -/
def fnHasThreeUptoRow : OpenClaim := { program := "ytcpjbniehenmoaa", sum := "a399ec83a2c3e52dcf806fbb0870e2026f8c9d59e4cf31ead6e5293b3bc86ed2", func := "loop.example/measuredsorts/laws.FnHasThree", spec := "fnHasThree", unfollowed := true, recurses := true, apart := false, narrowed := true }
def FnHasThreeUptoSaid : Prop := fnHasThreeUptoRow.holds Try.pinned (OpenSpec.upto fnHasThreeSpec)

/-- 'laws.FnPopPass', WHERE WHAT IT READS IS OF BULK AT MOST 1048576: true; the input reads as it did. -/
def fnPopPassUptoRow : OpenClaim := { program := "ytcpjbniehenmoaa", sum := "a399ec83a2c3e52dcf806fbb0870e2026f8c9d59e4cf31ead6e5293b3bc86ed2", func := "loop.example/measuredsorts/laws.FnPopPass", spec := "fnPopPass", apart := false, narrowed := true }
def FnPopPassUptoSaid : Prop := fnPopPassUptoRow.holds Try.pinned (OpenSpec.upto fnPopPassSpec)

/-- 'laws.FnPopPasses', WHERE WHAT IT READS IS OF BULK AT MOST 1048576: true; the input reads as it did. -/
def fnPopPassesUptoRow : OpenClaim := { program := "ytcpjbniehenmoaa", sum := "a399ec83a2c3e52dcf806fbb0870e2026f8c9d59e4cf31ead6e5293b3bc86ed2", func := "loop.example/measuredsorts/laws.FnPopPasses", spec := "fnPopPasses", unfollowed := true, recurses := true, apart := false, narrowed := true }
def FnPopPassesUptoSaid : Prop := fnPopPassesUptoRow.holds Try.pinned (OpenSpec.upto fnPopPassesSpec)

/-- 'laws.FnCountMoves', WHERE WHAT IT READS IS OF BULK AT MOST 1048576: true; the input reads as it did. -/
def fnCountMovesUptoRow : OpenClaim := { program := "ytcpjbniehenmoaa", sum := "a399ec83a2c3e52dcf806fbb0870e2026f8c9d59e4cf31ead6e5293b3bc86ed2", func := "loop.example/measuredsorts/laws.FnCountMoves", spec := "fnCountMoves", apart := false, narrowed := true }
def FnCountMovesUptoSaid : Prop := fnCountMovesUptoRow.holds Try.pinned (OpenSpec.upto fnCountMovesSpec)

end Rows
end Go.Proofs.Ytcpjbniehenmoaa
