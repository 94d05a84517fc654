/-
  No cell of these rows narrows 'for every input' (looked for: loops, veiled, ifaces, maps, wideKeys, modest, calm, conditions, laid).
  DERIVED. THE GIVEN ROWS OF THIS SEAT. 10 by the template 'for every input the law returns true; each argument reads behind the call as it read before'; 0 by the template 'total and deterministic' (their statements: YtgabphgghfaifaaTotals.lean).
  GIVEN WITH THE SEED: the statements are not yours to turn. If you find one false, say at which input.
  Laid BY PROGRAM, IN A SANDBOX (cutbox-rows.mjs): the forced cells as the released guide's own fill.sh prints them over the translation 6c02b150bdb086d6… (all of the seat's roots in one cut). By AI agents, Wed Nov 11 2026. No macro, syntax, notation, axiom, sorry.
-/
import Derived.Test.YtgabphgghfaifaaChecked
import GoSem.Claim
import GoSem.ClaimJoined
import GoSem.ClaimMapViews
import Derived.JoinedTies
import Derived.KernelRfl
namespace Go.Proofs.Ytgabphgghfaifaa
/- THE CELL 'sum', in the pinned program and in every row, IS THE sha256 OF THE DUMP (.gsa) THAT YtgabphgghfaifaaProg.lean LOADS. Nothing in Lean hashes anything: it is a label: what it is worth is what the hold of that sum in a sandbox is worth. -/
noncomputable def Try.pinned : Pinned := { name := "ytgabphgghfaifaa", sum := "6c02b150bdb086d6cd7f9b91ea7ff58637b9d11861d0ecbb8e1e40ed454f706a", checked := Try.checked }
namespace Rows
def none {H : Type} : Left H := { results := [], args := [] }

/-- 'laws.FnExactValidOrder': WHATEVER THE INPUT: true; the input reads as it did. -/
def fnExactValidOrderSpec : ChangeSpec := { name := "fnExactValidOrder", fn := fun _ => fun
  | [d] => { results := [.lit (.bool true)], args := [d] }
  | _ => none }
def fnExactValidOrderRow : OpenClaim := { program := "ytgabphgghfaifaa", sum := "6c02b150bdb086d6cd7f9b91ea7ff58637b9d11861d0ecbb8e1e40ed454f706a", func := "loop.example/measuredsorts/laws.FnExactValidOrder", spec := "fnExactValidOrder", apart := false }
def FnExactValidOrderSaid : Prop := fnExactValidOrderRow.holds Try.pinned (OpenSpec.ofChange fnExactValidOrderSpec)

/-- ITS FALSE NEIGHBOUR: 'it returns false'. Refute it at one input. -/
def fnExactValidOrderWrong : ChangeSpec := { name := "fnExactValidOrder", fn := fun _ => fun
  | [d] => { results := [.lit (.bool false)], args := [d] }
  | _ => none }
def FnExactValidOrderWrongFalsely : Prop := fnExactValidOrderRow.holds Try.pinned (OpenSpec.ofChange fnExactValidOrderWrong)

/-- 'laws.FnExactRelativeOf': WHATEVER THE INPUT: true; the input reads as it did. -/
def fnExactRelativeOfSpec : ChangeSpec := { name := "fnExactRelativeOf", fn := fun _ => fun
  | [d1, d2] => { results := [.lit (.bool true)], args := [d1, d2] }
  | _ => none }
def fnExactRelativeOfRow : OpenClaim := { program := "ytgabphgghfaifaa", sum := "6c02b150bdb086d6cd7f9b91ea7ff58637b9d11861d0ecbb8e1e40ed454f706a", func := "loop.example/measuredsorts/laws.FnExactRelativeOf", spec := "fnExactRelativeOf", apart := false }
def FnExactRelativeOfSaid : Prop := fnExactRelativeOfRow.holds Try.pinned (OpenSpec.ofChange fnExactRelativeOfSpec)

/-- ITS FALSE NEIGHBOUR: 'it returns false'. Refute it at one input. -/
def fnExactRelativeOfWrong : ChangeSpec := { name := "fnExactRelativeOf", fn := fun _ => fun
  | [d1, d2] => { results := [.lit (.bool false)], args := [d1, d2] }
  | _ => none }
def FnExactRelativeOfWrongFalsely : Prop := fnExactRelativeOfRow.holds Try.pinned (OpenSpec.ofChange fnExactRelativeOfWrong)

/-- 'laws.FnExactTurnBreaks': WHATEVER THE INPUT: true; the input reads as it did. -/
def fnExactTurnBreaksSpec : ChangeSpec := { name := "fnExactTurnBreaks", fn := fun _ => fun
  | [d] => { results := [.lit (.bool true)], args := [d] }
  | _ => none }
def fnExactTurnBreaksRow : OpenClaim := { program := "ytgabphgghfaifaa", sum := "6c02b150bdb086d6cd7f9b91ea7ff58637b9d11861d0ecbb8e1e40ed454f706a", func := "loop.example/measuredsorts/laws.FnExactTurnBreaks", spec := "fnExactTurnBreaks", unfollowed := true, recurses := true, apart := false }
def FnExactTurnBreaksSaid : Prop := fnExactTurnBreaksRow.holds Try.pinned (OpenSpec.ofChange fnExactTurnBreaksSpec)

/-- ITS FALSE NEIGHBOUR: 'it returns false'. Refute it at one input. -/
def fnExactTurnBreaksWrong : ChangeSpec := { name := "fnExactTurnBreaks", fn := fun _ => fun
  | [d] => { results := [.lit (.bool false)], args := [d] }
  | _ => none }
def FnExactTurnBreaksWrongFalsely : Prop := fnExactTurnBreaksRow.holds Try.pinned (OpenSpec.ofChange fnExactTurnBreaksWrong)

/-- 'laws.FnExactStackPass': WHATEVER THE INPUT: true; the input reads as it did. -/
def fnExactStackPassSpec : ChangeSpec := { name := "fnExactStackPass", fn := fun _ => fun
  | [d] => { results := [.lit (.bool true)], args := [d] }
  | _ => none }
def fnExactStackPassRow : OpenClaim := { program := "ytgabphgghfaifaa", sum := "6c02b150bdb086d6cd7f9b91ea7ff58637b9d11861d0ecbb8e1e40ed454f706a", func := "loop.example/measuredsorts/laws.FnExactStackPass", spec := "fnExactStackPass", apart := false }
def FnExactStackPassSaid : Prop := fnExactStackPassRow.holds Try.pinned (OpenSpec.ofChange fnExactStackPassSpec)

/-- ITS FALSE NEIGHBOUR: 'it returns false'. Refute it at one input. -/
def fnExactStackPassWrong : ChangeSpec := { name := "fnExactStackPass", fn := fun _ => fun
  | [d] => { results := [.lit (.bool false)], args := [d] }
  | _ => none }
def FnExactStackPassWrongFalsely : Prop := fnExactStackPassRow.holds Try.pinned (OpenSpec.ofChange fnExactStackPassWrong)

/-- 'laws.FnExactIsStackable': WHATEVER THE INPUT: true; the input reads as it did. -/
def fnExactIsStackableSpec : ChangeSpec := { name := "fnExactIsStackable", fn := fun _ => fun
  | [d] => { results := [.lit (.bool true)], args := [d] }
  | _ => none }
def fnExactIsStackableRow : OpenClaim := { program := "ytgabphgghfaifaa", sum := "6c02b150bdb086d6cd7f9b91ea7ff58637b9d11861d0ecbb8e1e40ed454f706a", func := "loop.example/measuredsorts/laws.FnExactIsStackable", spec := "fnExactIsStackable", apart := false }
def FnExactIsStackableSaid : Prop := fnExactIsStackableRow.holds Try.pinned (OpenSpec.ofChange fnExactIsStackableSpec)

/-- ITS FALSE NEIGHBOUR: 'it returns false'. Refute it at one input. -/
def fnExactIsStackableWrong : ChangeSpec := { name := "fnExactIsStackable", fn := fun _ => fun
  | [d] => { results := [.lit (.bool false)], args := [d] }
  | _ => none }
def FnExactIsStackableWrongFalsely : Prop := fnExactIsStackableRow.holds Try.pinned (OpenSpec.ofChange fnExactIsStackableWrong)

/-- 'laws.FnExactStackPasses': WHATEVER THE INPUT: true; the input reads as it did. -/
def fnExactStackPassesSpec : ChangeSpec := { name := "fnExactStackPasses", fn := fun _ => fun
  | [d] => { results := [.lit (.bool true)], args := [d] }
  | _ => none }
def fnExactStackPassesRow : OpenClaim := { program := "ytgabphgghfaifaa", sum := "6c02b150bdb086d6cd7f9b91ea7ff58637b9d11861d0ecbb8e1e40ed454f706a", func := "loop.example/measuredsorts/laws.FnExactStackPasses", spec := "fnExactStackPasses", unfollowed := true, recurses := true, apart := false }
def FnExactStackPassesSaid : Prop := fnExactStackPassesRow.holds Try.pinned (OpenSpec.ofChange fnExactStackPassesSpec)

/-- ITS FALSE NEIGHBOUR: 'it returns false'. Refute it at one input. -/
def fnExactStackPassesWrong : ChangeSpec := { name := "fnExactStackPasses", fn := fun _ => fun
  | [d] => { results := [.lit (.bool false)], args := [d] }
  | _ => none }
def FnExactStackPassesWrongFalsely : Prop := fnExactStackPassesRow.holds Try.pinned (OpenSpec.ofChange fnExactStackPassesWrong)

/-- 'laws.FnExactHasThree': WHATEVER THE INPUT: true; the input reads as it did. -/
def fnExactHasThreeSpec : ChangeSpec := { name := "fnExactHasThree", fn := fun _ => fun
  | [d] => { results := [.lit (.bool true)], args := [d] }
  | _ => none }
def fnExactHasThreeRow : OpenClaim := { program := "ytgabphgghfaifaa", sum := "6c02b150bdb086d6cd7f9b91ea7ff58637b9d11861d0ecbb8e1e40ed454f706a", func := "loop.example/measuredsorts/laws.FnExactHasThree", spec := "fnExactHasThree", apart := false }
def FnExactHasThreeSaid : Prop := fnExactHasThreeRow.holds Try.pinned (OpenSpec.ofChange fnExactHasThreeSpec)

/-- ITS FALSE NEIGHBOUR: 'it returns false'. Refute it at one input. -/
def fnExactHasThreeWrong : ChangeSpec := { name := "fnExactHasThree", fn := fun _ => fun
  | [d] => { results := [.lit (.bool false)], args := [d] }
  | _ => none }
def FnExactHasThreeWrongFalsely : Prop := fnExactHasThreeRow.holds Try.pinned (OpenSpec.ofChange fnExactHasThreeWrong)

/-- 'laws.FnExactPopPass': WHATEVER THE INPUT: true; the input reads as it did. -/
def fnExactPopPassSpec : ChangeSpec := { name := "fnExactPopPass", fn := fun _ => fun
  | [d] => { results := [.lit (.bool true)], args := [d] }
  | _ => none }
def fnExactPopPassRow : OpenClaim := { program := "ytgabphgghfaifaa", sum := "6c02b150bdb086d6cd7f9b91ea7ff58637b9d11861d0ecbb8e1e40ed454f706a", func := "loop.example/measuredsorts/laws.FnExactPopPass", spec := "fnExactPopPass", apart := false }
def FnExactPopPassSaid : Prop := fnExactPopPassRow.holds Try.pinned (OpenSpec.ofChange fnExactPopPassSpec)

/-- ITS FALSE NEIGHBOUR: 'it returns false'. Refute it at one input. -/
def fnExactPopPassWrong : ChangeSpec := { name := "fnExactPopPass", fn := fun _ => fun
  | [d] => { results := [.lit (.bool false)], args := [d] }
  | _ => none }
def FnExactPopPassWrongFalsely : Prop := fnExactPopPassRow.holds Try.pinned (OpenSpec.ofChange fnExactPopPassWrong)

/-- 'laws.FnExactPopPasses': WHATEVER THE INPUT: true; the input reads as it did. -/
def fnExactPopPassesSpec : ChangeSpec := { name := "fnExactPopPasses", fn := fun _ => fun
  | [d] => { results := [.lit (.bool true)], args := [d] }
  | _ => none }
def fnExactPopPassesRow : OpenClaim := { program := "ytgabphgghfaifaa", sum := "6c02b150bdb086d6cd7f9b91ea7ff58637b9d11861d0ecbb8e1e40ed454f706a", func := "loop.example/measuredsorts/laws.FnExactPopPasses", spec := "fnExactPopPasses", unfollowed := true, recurses := true, apart := false }
def FnExactPopPassesSaid : Prop := fnExactPopPassesRow.holds Try.pinned (OpenSpec.ofChange fnExactPopPassesSpec)

/-- ITS FALSE NEIGHBOUR: 'it returns false'. Refute it at one input. -/
def fnExactPopPassesWrong : ChangeSpec := { name := "fnExactPopPasses", fn := fun _ => fun
  | [d] => { results := [.lit (.bool false)], args := [d] }
  | _ => none }
def FnExactPopPassesWrongFalsely : Prop := fnExactPopPassesRow.holds Try.pinned (OpenSpec.ofChange fnExactPopPassesWrong)

/-- 'laws.FnExactCountMoves': WHATEVER THE INPUT: true; the input reads as it did. -/
def fnExactCountMovesSpec : ChangeSpec := { name := "fnExactCountMoves", fn := fun _ => fun
  | [d] => { results := [.lit (.bool true)], args := [d] }
  | _ => none }
def fnExactCountMovesRow : OpenClaim := { program := "ytgabphgghfaifaa", sum := "6c02b150bdb086d6cd7f9b91ea7ff58637b9d11861d0ecbb8e1e40ed454f706a", func := "loop.example/measuredsorts/laws.FnExactCountMoves", spec := "fnExactCountMoves", apart := false }
def FnExactCountMovesSaid : Prop := fnExactCountMovesRow.holds Try.pinned (OpenSpec.ofChange fnExactCountMovesSpec)

/-- ITS FALSE NEIGHBOUR: 'it returns false'. Refute it at one input. -/
def fnExactCountMovesWrong : ChangeSpec := { name := "fnExactCountMoves", fn := fun _ => fun
  | [d] => { results := [.lit (.bool false)], args := [d] }
  | _ => none }
def FnExactCountMovesWrongFalsely : Prop := fnExactCountMovesRow.holds Try.pinned (OpenSpec.ofChange fnExactCountMovesWrong)

/- THE SECOND FORM. 'bulk': how many values and letters a reading holds, each counted each time it is reached (what is shared counts as often as it is met; a slice's spare places count too). A statement '..UptoSaid' is the law's where the arguments, and the package variables that the reading takes, are together of bulk at most 1048576: NARROWER than '..Said'. Prove '..Said' where nothing that the law and all that it calls make is longer than what came in: it says more and counts as full. Else prove '..UptoSaid'. A law counts once. -/
mutual
def uptoBulk {H : Type} : DataW H → Nat
  | .lit (.string bytes) => bytes.length + 1
  | .lit _ => 1
  | .nil => 1
  | .ptr d => uptoBulk d + 1
  | .slice elems spare => uptoBulkAll elems + uptoBulkAll spare + 1
  | .agg parts => uptoBulkAll parts + 1
  | .iface _ d => uptoBulk d + 1
  | .map entries => uptoBulkEntries entries + 1
  | .held _ => 1
def uptoBulkAll {H : Type} : List (DataW H) → Nat
  | [] => 0
  | d :: r => uptoBulk d + uptoBulkAll r
def uptoBulkEntries {H : Type} : List (Lit × DataW H) → Nat
  | [] => 0
  | x :: r => uptoBulkEntry x + uptoBulkEntries r
def uptoBulkEntry {H : Type} : Lit × DataW H → Nat
  | (.string bytes, d) => bytes.length + uptoBulk d + 1
  | (_, d) => uptoBulk d + 1
 end
def uptoSmall : (H : Type) → List (DataW H) → Bool := fun _ ds => decide (uptoBulkAll ds ≤ 1048576)
def OpenSpec.upto (s : _root_.Go.ChangeSpec) : _root_.Go.OpenSpec := { _root_.Go.OpenSpec.ofChange s with cond := some uptoSmall }

/-- 'laws.FnExactValidOrder', WHERE WHAT IT READS IS OF BULK AT MOST 1048576: true; the input reads as it did. -/
def fnExactValidOrderUptoRow : OpenClaim := { program := "ytgabphgghfaifaa", sum := "6c02b150bdb086d6cd7f9b91ea7ff58637b9d11861d0ecbb8e1e40ed454f706a", func := "loop.example/measuredsorts/laws.FnExactValidOrder", spec := "fnExactValidOrder", apart := false, narrowed := true }
def FnExactValidOrderUptoSaid : Prop := fnExactValidOrderUptoRow.holds Try.pinned (OpenSpec.upto fnExactValidOrderSpec)

/-- 'laws.FnExactRelativeOf', WHERE WHAT IT READS IS OF BULK AT MOST 1048576: true; the input reads as it did. -/
def fnExactRelativeOfUptoRow : OpenClaim := { program := "ytgabphgghfaifaa", sum := "6c02b150bdb086d6cd7f9b91ea7ff58637b9d11861d0ecbb8e1e40ed454f706a", func := "loop.example/measuredsorts/laws.FnExactRelativeOf", spec := "fnExactRelativeOf", apart := false, narrowed := true }
def FnExactRelativeOfUptoSaid : Prop := fnExactRelativeOfUptoRow.holds Try.pinned (OpenSpec.upto fnExactRelativeOfSpec)

/-- 'laws.FnExactTurnBreaks', WHERE WHAT IT READS IS OF BULK AT MOST 1048576: true; the input reads as it did. -/
def fnExactTurnBreaksUptoRow : OpenClaim := { program := "ytgabphgghfaifaa", sum := "6c02b150bdb086d6cd7f9b91ea7ff58637b9d11861d0ecbb8e1e40ed454f706a", func := "loop.example/measuredsorts/laws.FnExactTurnBreaks", spec := "fnExactTurnBreaks", unfollowed := true, recurses := true, apart := false, narrowed := true }
def FnExactTurnBreaksUptoSaid : Prop := fnExactTurnBreaksUptoRow.holds Try.pinned (OpenSpec.upto fnExactTurnBreaksSpec)

/-- 'laws.FnExactStackPass', WHERE WHAT IT READS IS OF BULK AT MOST 1048576: true; the input reads as it did. -/
def fnExactStackPassUptoRow : OpenClaim := { program := "ytgabphgghfaifaa", sum := "6c02b150bdb086d6cd7f9b91ea7ff58637b9d11861d0ecbb8e1e40ed454f706a", func := "loop.example/measuredsorts/laws.FnExactStackPass", spec := "fnExactStackPass", apart := false, narrowed := true }
def FnExactStackPassUptoSaid : Prop := fnExactStackPassUptoRow.holds Try.pinned (OpenSpec.upto fnExactStackPassSpec)

/-- 'laws.FnExactIsStackable', WHERE WHAT IT READS IS OF BULK AT MOST 1048576: true; the input reads as it did. -/
def fnExactIsStackableUptoRow : OpenClaim := { program := "ytgabphgghfaifaa", sum := "6c02b150bdb086d6cd7f9b91ea7ff58637b9d11861d0ecbb8e1e40ed454f706a", func := "loop.example/measuredsorts/laws.FnExactIsStackable", spec := "fnExactIsStackable", apart := false, narrowed := true }
def FnExactIsStackableUptoSaid : Prop := fnExactIsStackableUptoRow.holds Try.pinned (OpenSpec.upto fnExactIsStackableSpec)

/-- 'laws.FnExactStackPasses', WHERE WHAT IT READS IS OF BULK AT MOST 1048576: true; the input reads as it did. -/
def fnExactStackPassesUptoRow : OpenClaim := { program := "ytgabphgghfaifaa", sum := "6c02b150bdb086d6cd7f9b91ea7ff58637b9d11861d0ecbb8e1e40ed454f706a", func := "loop.example/measuredsorts/laws.FnExactStackPasses", spec := "fnExactStackPasses", unfollowed := true, recurses := true, apart := false, narrowed := true }
def FnExactStackPassesUptoSaid : Prop := fnExactStackPassesUptoRow.holds Try.pinned (OpenSpec.upto fnExactStackPassesSpec)

/-- 'laws.FnExactHasThree', WHERE WHAT IT READS IS OF BULK AT MOST 1048576: true; the input reads as it did. -/
def fnExactHasThreeUptoRow : OpenClaim := { program := "ytgabphgghfaifaa", sum := "6c02b150bdb086d6cd7f9b91ea7ff58637b9d11861d0ecbb8e1e40ed454f706a", func := "loop.example/measuredsorts/laws.FnExactHasThree", spec := "fnExactHasThree", apart := false, narrowed := true }
def FnExactHasThreeUptoSaid : Prop := fnExactHasThreeUptoRow.holds Try.pinned (OpenSpec.upto fnExactHasThreeSpec)

/-- 'laws.FnExactPopPass', WHERE WHAT IT READS IS OF BULK AT MOST 1048576: true; the input reads as it did. -/
def fnExactPopPassUptoRow : OpenClaim := { program := "ytgabphgghfaifaa", sum := "6c02b150bdb086d6cd7f9b91ea7ff58637b9d11861d0ecbb8e1e40ed454f706a", func := "loop.example/measuredsorts/laws.FnExactPopPass", spec := "fnExactPopPass", apart := false, narrowed := true }
def FnExactPopPassUptoSaid : Prop := fnExactPopPassUptoRow.holds Try.pinned (OpenSpec.upto fnExactPopPassSpec)

/-- 'laws.FnExactPopPasses', WHERE WHAT IT READS IS OF BULK AT MOST 1048576: true; the input reads as it did. -/
def fnExactPopPassesUptoRow : OpenClaim := { program := "ytgabphgghfaifaa", sum := "6c02b150bdb086d6cd7f9b91ea7ff58637b9d11861d0ecbb8e1e40ed454f706a", func := "loop.example/measuredsorts/laws.FnExactPopPasses", spec := "fnExactPopPasses", unfollowed := true, recurses := true, apart := false, narrowed := true }
def FnExactPopPassesUptoSaid : Prop := fnExactPopPassesUptoRow.holds Try.pinned (OpenSpec.upto fnExactPopPassesSpec)

/-- 'laws.FnExactCountMoves', WHERE WHAT IT READS IS OF BULK AT MOST 1048576: true; the input reads as it did. -/
def fnExactCountMovesUptoRow : OpenClaim := { program := "ytgabphgghfaifaa", sum := "6c02b150bdb086d6cd7f9b91ea7ff58637b9d11861d0ecbb8e1e40ed454f706a", func := "loop.example/measuredsorts/laws.FnExactCountMoves", spec := "fnExactCountMoves", apart := false, narrowed := true }
def FnExactCountMovesUptoSaid : Prop := fnExactCountMovesUptoRow.holds Try.pinned (OpenSpec.upto fnExactCountMovesSpec)

end Rows
end Go.Proofs.Ytgabphgghfaifaa
