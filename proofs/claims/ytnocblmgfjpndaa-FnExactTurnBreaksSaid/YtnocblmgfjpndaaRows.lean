/-
  No cell of these rows narrows 'for every input' (looked for: loops, veiled, ifaces, maps, wideKeys, modest, calm, conditions, laid).
  DERIVED. THE GIVEN ROWS OF THIS SEAT. 7 by the template 'for every input the law returns true; each argument reads behind the call as it read before'; 0 by the template 'total and deterministic' (their statements: YtnocblmgfjpndaaTotals.lean).
  GIVEN WITH THE SEED: the statements are not yours to turn. If you find one false, say at which input.
  Laid BY PROGRAM, IN A SANDBOX (cutbox-rows.mjs): the forced cells as the released guide's own fill.sh prints them over the translation 3c802689c336e76d… (all of the seat's roots in one cut). By AI agents, Wed Nov 11 2026. No macro, syntax, notation, axiom, sorry.
-/
import Derived.Test.YtnocblmgfjpndaaChecked
import GoSem.Claim
import GoSem.ClaimJoined
import GoSem.ClaimMapViews
import Derived.JoinedTies
import Derived.KernelRfl
namespace Go.Proofs.Ytnocblmgfjpndaa
/- THE CELL 'sum', in the pinned program and in every row, IS THE sha256 OF THE DUMP (.gsa) THAT YtnocblmgfjpndaaProg.lean LOADS. Nothing in Lean hashes anything: it is a label: what it is worth is what the hold of that sum in a sandbox is worth. -/
noncomputable def Try.pinned : Pinned := { name := "ytnocblmgfjpndaa", sum := "3c802689c336e76dfdc36c54bdb626c9fdfcd3d70b3a101b57b00f969cdb7d07", checked := Try.checked }
namespace Rows
def none {H : Type} : Left H := { results := [], args := [] }

/-- 'laws.FnExactValidOrder': WHATEVER THE INPUT: true; the input reads as it did. -/
def fnExactValidOrderSpec : ChangeSpec := { name := "fnExactValidOrder", fn := fun _ => fun
  | [d] => { results := [.lit (.bool true)], args := [d] }
  | _ => none }
def fnExactValidOrderRow : OpenClaim := { program := "ytnocblmgfjpndaa", sum := "3c802689c336e76dfdc36c54bdb626c9fdfcd3d70b3a101b57b00f969cdb7d07", func := "loop.example/measuredsorts/laws.FnExactValidOrder", spec := "fnExactValidOrder", plainKeys := false, apart := false }
def FnExactValidOrderSaid : Prop := fnExactValidOrderRow.holds Try.pinned (OpenSpec.ofChange fnExactValidOrderSpec)

/-- ITS FALSE NEIGHBOUR: 'it returns false'. Refute it at one input. -/
def fnExactValidOrderWrong : ChangeSpec := { name := "fnExactValidOrder", fn := fun _ => fun
  | [d] => { results := [.lit (.bool false)], args := [d] }
  | _ => none }
def FnExactValidOrderWrongFalsely : Prop := fnExactValidOrderRow.holds Try.pinned (OpenSpec.ofChange fnExactValidOrderWrong)

/-- 'laws.FnExactStepsFrom': WHATEVER THE INPUT: true; the input reads as it did. -/
def fnExactStepsFromSpec : ChangeSpec := { name := "fnExactStepsFrom", fn := fun _ => fun
  | [d1, d2] => { results := [.lit (.bool true)], args := [d1, d2] }
  | _ => none }
def fnExactStepsFromRow : OpenClaim := { program := "ytnocblmgfjpndaa", sum := "3c802689c336e76dfdc36c54bdb626c9fdfcd3d70b3a101b57b00f969cdb7d07", func := "loop.example/measuredsorts/laws.FnExactStepsFrom", spec := "fnExactStepsFrom", unfollowed := true, recurses := true, plainKeys := false, leaving := true, apart := false }
def FnExactStepsFromSaid : Prop := fnExactStepsFromRow.holds Try.pinned (OpenSpec.ofChange fnExactStepsFromSpec)

/-- ITS FALSE NEIGHBOUR: 'it returns false'. Refute it at one input. -/
def fnExactStepsFromWrong : ChangeSpec := { name := "fnExactStepsFrom", fn := fun _ => fun
  | [d1, d2] => { results := [.lit (.bool false)], args := [d1, d2] }
  | _ => none }
def FnExactStepsFromWrongFalsely : Prop := fnExactStepsFromRow.holds Try.pinned (OpenSpec.ofChange fnExactStepsFromWrong)

/-- 'laws.FnExactStepsApart': WHATEVER THE INPUT: true; the input reads as it did. -/
def fnExactStepsApartSpec : ChangeSpec := { name := "fnExactStepsApart", fn := fun _ => fun
  | [d1, d2, d3] => { results := [.lit (.bool true)], args := [d1, d2, d3] }
  | _ => none }
def fnExactStepsApartRow : OpenClaim := { program := "ytnocblmgfjpndaa", sum := "3c802689c336e76dfdc36c54bdb626c9fdfcd3d70b3a101b57b00f969cdb7d07", func := "loop.example/measuredsorts/laws.FnExactStepsApart", spec := "fnExactStepsApart", unfollowed := true, recurses := true, plainKeys := false, leaving := true, apart := false }
def FnExactStepsApartSaid : Prop := fnExactStepsApartRow.holds Try.pinned (OpenSpec.ofChange fnExactStepsApartSpec)

/-- ITS FALSE NEIGHBOUR: 'it returns false'. Refute it at one input. -/
def fnExactStepsApartWrong : ChangeSpec := { name := "fnExactStepsApart", fn := fun _ => fun
  | [d1, d2, d3] => { results := [.lit (.bool false)], args := [d1, d2, d3] }
  | _ => none }
def FnExactStepsApartWrongFalsely : Prop := fnExactStepsApartRow.holds Try.pinned (OpenSpec.ofChange fnExactStepsApartWrong)

/-- 'laws.FnExactWayBetween': WHATEVER THE INPUT: true; the input reads as it did. -/
def fnExactWayBetweenSpec : ChangeSpec := { name := "fnExactWayBetween", fn := fun _ => fun
  | [d1, d2, d3] => { results := [.lit (.bool true)], args := [d1, d2, d3] }
  | _ => none }
def fnExactWayBetweenRow : OpenClaim := { program := "ytnocblmgfjpndaa", sum := "3c802689c336e76dfdc36c54bdb626c9fdfcd3d70b3a101b57b00f969cdb7d07", func := "loop.example/measuredsorts/laws.FnExactWayBetween", spec := "fnExactWayBetween", unfollowed := true, recurses := true, plainKeys := false, leaving := true, apart := false }
def FnExactWayBetweenSaid : Prop := fnExactWayBetweenRow.holds Try.pinned (OpenSpec.ofChange fnExactWayBetweenSpec)

/-- ITS FALSE NEIGHBOUR: 'it returns false'. Refute it at one input. -/
def fnExactWayBetweenWrong : ChangeSpec := { name := "fnExactWayBetween", fn := fun _ => fun
  | [d1, d2, d3] => { results := [.lit (.bool false)], args := [d1, d2, d3] }
  | _ => none }
def FnExactWayBetweenWrongFalsely : Prop := fnExactWayBetweenRow.holds Try.pinned (OpenSpec.ofChange fnExactWayBetweenWrong)

/-- 'laws.FnExactShellsOf': WHATEVER THE INPUT: true; the input reads as it did. -/
def fnExactShellsOfSpec : ChangeSpec := { name := "fnExactShellsOf", fn := fun _ => fun
  | [d1, d2] => { results := [.lit (.bool true)], args := [d1, d2] }
  | _ => none }
def fnExactShellsOfRow : OpenClaim := { program := "ytnocblmgfjpndaa", sum := "3c802689c336e76dfdc36c54bdb626c9fdfcd3d70b3a101b57b00f969cdb7d07", func := "loop.example/measuredsorts/laws.FnExactShellsOf", spec := "fnExactShellsOf", unfollowed := true, recurses := true, plainKeys := false, leaving := true, apart := false }
def FnExactShellsOfSaid : Prop := fnExactShellsOfRow.holds Try.pinned (OpenSpec.ofChange fnExactShellsOfSpec)

/-- ITS FALSE NEIGHBOUR: 'it returns false'. Refute it at one input. -/
def fnExactShellsOfWrong : ChangeSpec := { name := "fnExactShellsOf", fn := fun _ => fun
  | [d1, d2] => { results := [.lit (.bool false)], args := [d1, d2] }
  | _ => none }
def FnExactShellsOfWrongFalsely : Prop := fnExactShellsOfRow.holds Try.pinned (OpenSpec.ofChange fnExactShellsOfWrong)

/-- 'laws.FnExactRelativeOf': WHATEVER THE INPUT: true; the input reads as it did. -/
def fnExactRelativeOfSpec : ChangeSpec := { name := "fnExactRelativeOf", fn := fun _ => fun
  | [d1, d2] => { results := [.lit (.bool true)], args := [d1, d2] }
  | _ => none }
def fnExactRelativeOfRow : OpenClaim := { program := "ytnocblmgfjpndaa", sum := "3c802689c336e76dfdc36c54bdb626c9fdfcd3d70b3a101b57b00f969cdb7d07", func := "loop.example/measuredsorts/laws.FnExactRelativeOf", spec := "fnExactRelativeOf", plainKeys := false, apart := false }
def FnExactRelativeOfSaid : Prop := fnExactRelativeOfRow.holds Try.pinned (OpenSpec.ofChange fnExactRelativeOfSpec)

/-- ITS FALSE NEIGHBOUR: 'it returns false'. Refute it at one input. -/
def fnExactRelativeOfWrong : ChangeSpec := { name := "fnExactRelativeOf", fn := fun _ => fun
  | [d1, d2] => { results := [.lit (.bool false)], args := [d1, d2] }
  | _ => none }
def FnExactRelativeOfWrongFalsely : Prop := fnExactRelativeOfRow.holds Try.pinned (OpenSpec.ofChange fnExactRelativeOfWrong)

/-- 'laws.FnExactTurnBreaks': WHATEVER THE INPUT: true; the input reads as it did. -/
def fnExactTurnBreaksSpec : ChangeSpec := { name := "fnExactTurnBreaks", fn := fun _ => fun
  | [d] => { results := [.lit (.bool true)], args := [d] }
  | _ => none }
def fnExactTurnBreaksRow : OpenClaim := { program := "ytnocblmgfjpndaa", sum := "3c802689c336e76dfdc36c54bdb626c9fdfcd3d70b3a101b57b00f969cdb7d07", func := "loop.example/measuredsorts/laws.FnExactTurnBreaks", spec := "fnExactTurnBreaks", unfollowed := true, recurses := true, plainKeys := false, leaving := true, apart := false }
def FnExactTurnBreaksSaid : Prop := fnExactTurnBreaksRow.holds Try.pinned (OpenSpec.ofChange fnExactTurnBreaksSpec)

/-- ITS FALSE NEIGHBOUR: 'it returns false'. Refute it at one input. -/
def fnExactTurnBreaksWrong : ChangeSpec := { name := "fnExactTurnBreaks", fn := fun _ => fun
  | [d] => { results := [.lit (.bool false)], args := [d] }
  | _ => none }
def FnExactTurnBreaksWrongFalsely : Prop := fnExactTurnBreaksRow.holds Try.pinned (OpenSpec.ofChange fnExactTurnBreaksWrong)

/- THE SECOND FORM. 'bulk': how many values and letters a reading holds, each counted each time it is reached (what is shared counts as often as it is met; a slice's spare places count too). A statement '..UptoSaid' is the law's where the arguments, and the package variables that the reading takes, are together of bulk at most 1048576: NARROWER than '..Said'. Prove '..Said' where nothing that the law and all that it calls make is longer than what came in: it says more and counts as full. Else prove '..UptoSaid'. A law counts once. -/
mutual
def uptoBulk {H : Type} : DataW H → Nat
  | .lit (.string bytes) => bytes.length + 1
  | .lit _ => 1
  | .nil => 1
  | .ptr d => uptoBulk d + 1
  | .slice elems spare => uptoBulkAll elems + uptoBulkAll spare + 1
  | .agg parts => uptoBulkAll parts + 1
  | .iface _ d => uptoBulk d + 1
  | .map entries => uptoBulkEntries entries + 1
  | .held _ => 1
def uptoBulkAll {H : Type} : List (DataW H) → Nat
  | [] => 0
  | d :: r => uptoBulk d + uptoBulkAll r
def uptoBulkEntries {H : Type} : List (Lit × DataW H) → Nat
  | [] => 0
  | x :: r => uptoBulkEntry x + uptoBulkEntries r
def uptoBulkEntry {H : Type} : Lit × DataW H → Nat
  | (.string bytes, d) => bytes.length + uptoBulk d + 1
  | (_, d) => uptoBulk d + 1
 end
def uptoSmall : (H : Type) → List (DataW H) → Bool := fun _ ds => decide (uptoBulkAll ds ≤ 1048576)
def OpenSpec.upto (s : _root_.Go.ChangeSpec) : _root_.Go.OpenSpec := { _root_.Go.OpenSpec.ofChange s with cond := some uptoSmall }

/-- 'laws.FnExactValidOrder', WHERE WHAT IT READS IS OF BULK AT MOST 1048576: true; the input reads as it did. -/
def fnExactValidOrderUptoRow : OpenClaim := { program := "ytnocblmgfjpndaa", sum := "3c802689c336e76dfdc36c54bdb626c9fdfcd3d70b3a101b57b00f969cdb7d07", func := "loop.example/measuredsorts/laws.FnExactValidOrder", spec := "fnExactValidOrder", plainKeys := false, apart := false, narrowed := true }
def FnExactValidOrderUptoSaid : Prop := fnExactValidOrderUptoRow.holds Try.pinned (OpenSpec.upto fnExactValidOrderSpec)

/-- 'laws.FnExactStepsFrom', WHERE WHAT IT READS IS OF BULK AT MOST 1048576: true; the input reads as it did. -/
def fnExactStepsFromUptoRow : OpenClaim := { program := "ytnocblmgfjpndaa", sum := "3c802689c336e76dfdc36c54bdb626c9fdfcd3d70b3a101b57b00f969cdb7d07", func := "loop.example/measuredsorts/laws.FnExactStepsFrom", spec := "fnExactStepsFrom", unfollowed := true, recurses := true, plainKeys := false, leaving := true, apart := false, narrowed := true }
def FnExactStepsFromUptoSaid : Prop := fnExactStepsFromUptoRow.holds Try.pinned (OpenSpec.upto fnExactStepsFromSpec)

/-- 'laws.FnExactStepsApart', WHERE WHAT IT READS IS OF BULK AT MOST 1048576: true; the input reads as it did. -/
def fnExactStepsApartUptoRow : OpenClaim := { program := "ytnocblmgfjpndaa", sum := "3c802689c336e76dfdc36c54bdb626c9fdfcd3d70b3a101b57b00f969cdb7d07", func := "loop.example/measuredsorts/laws.FnExactStepsApart", spec := "fnExactStepsApart", unfollowed := true, recurses := true, plainKeys := false, leaving := true, apart := false, narrowed := true }
def FnExactStepsApartUptoSaid : Prop := fnExactStepsApartUptoRow.holds Try.pinned (OpenSpec.upto fnExactStepsApartSpec)

/-- 'laws.FnExactWayBetween', WHERE WHAT IT READS IS OF BULK AT MOST 1048576: true; the input reads as it did. -/
def fnExactWayBetweenUptoRow : OpenClaim := { program := "ytnocblmgfjpndaa", sum := "3c802689c336e76dfdc36c54bdb626c9fdfcd3d70b3a101b57b00f969cdb7d07", func := "loop.example/measuredsorts/laws.FnExactWayBetween", spec := "fnExactWayBetween", unfollowed := true, recurses := true, plainKeys := false, leaving := true, apart := false, narrowed := true }
def FnExactWayBetweenUptoSaid : Prop := fnExactWayBetweenUptoRow.holds Try.pinned (OpenSpec.upto fnExactWayBetweenSpec)

/-- 'laws.FnExactShellsOf', WHERE WHAT IT READS IS OF BULK AT MOST 1048576: true; the input reads as it did. -/
def fnExactShellsOfUptoRow : OpenClaim := { program := "ytnocblmgfjpndaa", sum := "3c802689c336e76dfdc36c54bdb626c9fdfcd3d70b3a101b57b00f969cdb7d07", func := "loop.example/measuredsorts/laws.FnExactShellsOf", spec := "fnExactShellsOf", unfollowed := true, recurses := true, plainKeys := false, leaving := true, apart := false, narrowed := true }
def FnExactShellsOfUptoSaid : Prop := fnExactShellsOfUptoRow.holds Try.pinned (OpenSpec.upto fnExactShellsOfSpec)

/-- 'laws.FnExactRelativeOf', WHERE WHAT IT READS IS OF BULK AT MOST 1048576: true; the input reads as it did. -/
def fnExactRelativeOfUptoRow : OpenClaim := { program := "ytnocblmgfjpndaa", sum := "3c802689c336e76dfdc36c54bdb626c9fdfcd3d70b3a101b57b00f969cdb7d07", func := "loop.example/measuredsorts/laws.FnExactRelativeOf", spec := "fnExactRelativeOf", plainKeys := false, apart := false, narrowed := true }
def FnExactRelativeOfUptoSaid : Prop := fnExactRelativeOfUptoRow.holds Try.pinned (OpenSpec.upto fnExactRelativeOfSpec)

/-- 'laws.FnExactTurnBreaks', WHERE WHAT IT READS IS OF BULK AT MOST 1048576: true; the input reads as it did. -/
def fnExactTurnBreaksUptoRow : OpenClaim := { program := "ytnocblmgfjpndaa", sum := "3c802689c336e76dfdc36c54bdb626c9fdfcd3d70b3a101b57b00f969cdb7d07", func := "loop.example/measuredsorts/laws.FnExactTurnBreaks", spec := "fnExactTurnBreaks", unfollowed := true, recurses := true, plainKeys := false, leaving := true, apart := false, narrowed := true }
def FnExactTurnBreaksUptoSaid : Prop := fnExactTurnBreaksUptoRow.holds Try.pinned (OpenSpec.upto fnExactTurnBreaksSpec)

end Rows
end Go.Proofs.Ytnocblmgfjpndaa
