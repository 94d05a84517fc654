/-
  No cell of these rows narrows 'for every input' (looked for: loops, veiled, ifaces, maps, wideKeys, modest, calm, conditions, laid).
  DERIVED. THE GIVEN ROWS OF THIS SEAT. 7 by the template 'for every input the law returns true; each argument reads behind the call as it read before'; 0 by the template 'total and deterministic' (their statements: YtkkpfhkpfnofiaaTotals.lean).
  GIVEN WITH THE SEED: the statements are not yours to turn. If you find one false, say at which input.
  Laid BY PROGRAM, IN A SANDBOX (cutbox-rows.mjs): the forced cells as the released guide's own fill.sh prints them over the translation ceb2bdcfbd239fcc… (all of the seat's roots in one cut). By AI agents, Wed Nov 11 2026. No macro, syntax, notation, axiom, sorry.
-/
import Derived.Test.YtkkpfhkpfnofiaaChecked
import GoSem.Claim
import GoSem.ClaimJoined
import GoSem.ClaimMapViews
import Derived.JoinedTies
import Derived.KernelRfl
namespace Go.Proofs.Ytkkpfhkpfnofiaa
/- THE CELL 'sum', in the pinned program and in every row, IS THE sha256 OF THE DUMP (.gsa) THAT YtkkpfhkpfnofiaaProg.lean LOADS. Nothing in Lean hashes anything: it is a label: what it is worth is what the hold of that sum in a sandbox is worth. -/
noncomputable def Try.pinned : Pinned := { name := "ytkkpfhkpfnofiaa", sum := "ceb2bdcfbd239fcc5f32cc8e8bd3903d6d1a21c1abccd5a85019cc59478558ae", checked := Try.checked }
namespace Rows
def none {H : Type} : Left H := { results := [], args := [] }

/-- 'laws.FnValidOrder': WHATEVER THE INPUT: true; the input reads as it did. -/
def fnValidOrderSpec : ChangeSpec := { name := "fnValidOrder", fn := fun _ => fun
  | [d] => { results := [.lit (.bool true)], args := [d] }
  | _ => none }
def fnValidOrderRow : OpenClaim := { program := "ytkkpfhkpfnofiaa", sum := "ceb2bdcfbd239fcc5f32cc8e8bd3903d6d1a21c1abccd5a85019cc59478558ae", func := "loop.example/measuredsorts/laws.FnValidOrder", spec := "fnValidOrder", plainKeys := false, apart := false }
def FnValidOrderSaid : Prop := fnValidOrderRow.holds Try.pinned (OpenSpec.ofChange fnValidOrderSpec)

/-- ITS FALSE NEIGHBOUR: 'it returns false'. Refute it at one input. -/
def fnValidOrderWrong : ChangeSpec := { name := "fnValidOrder", fn := fun _ => fun
  | [d] => { results := [.lit (.bool false)], args := [d] }
  | _ => none }
def FnValidOrderWrongFalsely : Prop := fnValidOrderRow.holds Try.pinned (OpenSpec.ofChange fnValidOrderWrong)

/-- 'laws.FnStepsFrom': WHATEVER THE INPUT: true; the input reads as it did. -/
def fnStepsFromSpec : ChangeSpec := { name := "fnStepsFrom", fn := fun _ => fun
  | [d] => { results := [.lit (.bool true)], args := [d] }
  | _ => none }
def fnStepsFromRow : OpenClaim := { program := "ytkkpfhkpfnofiaa", sum := "ceb2bdcfbd239fcc5f32cc8e8bd3903d6d1a21c1abccd5a85019cc59478558ae", func := "loop.example/measuredsorts/laws.FnStepsFrom", spec := "fnStepsFrom", unfollowed := true, recurses := true, plainKeys := false, leaving := true, apart := false }
def FnStepsFromSaid : Prop := fnStepsFromRow.holds Try.pinned (OpenSpec.ofChange fnStepsFromSpec)

/-- ITS FALSE NEIGHBOUR: 'it returns false'. Refute it at one input. -/
def fnStepsFromWrong : ChangeSpec := { name := "fnStepsFrom", fn := fun _ => fun
  | [d] => { results := [.lit (.bool false)], args := [d] }
  | _ => none }
def FnStepsFromWrongFalsely : Prop := fnStepsFromRow.holds Try.pinned (OpenSpec.ofChange fnStepsFromWrong)

/-- 'laws.FnStepsApart': WHATEVER THE INPUT: true; the input reads as it did. -/
def fnStepsApartSpec : ChangeSpec := { name := "fnStepsApart", fn := fun _ => fun
  | [d] => { results := [.lit (.bool true)], args := [d] }
  | _ => none }
def fnStepsApartRow : OpenClaim := { program := "ytkkpfhkpfnofiaa", sum := "ceb2bdcfbd239fcc5f32cc8e8bd3903d6d1a21c1abccd5a85019cc59478558ae", func := "loop.example/measuredsorts/laws.FnStepsApart", spec := "fnStepsApart", unfollowed := true, recurses := true, plainKeys := false, leaving := true, apart := false }
def FnStepsApartSaid : Prop := fnStepsApartRow.holds Try.pinned (OpenSpec.ofChange fnStepsApartSpec)

/-- ITS FALSE NEIGHBOUR: 'it returns false'. Refute it at one input. -/
def fnStepsApartWrong : ChangeSpec := { name := "fnStepsApart", fn := fun _ => fun
  | [d] => { results := [.lit (.bool false)], args := [d] }
  | _ => none }
def FnStepsApartWrongFalsely : Prop := fnStepsApartRow.holds Try.pinned (OpenSpec.ofChange fnStepsApartWrong)

/-- 'laws.FnWayBetween': WHATEVER THE INPUT: true; the input reads as it did. -/
def fnWayBetweenSpec : ChangeSpec := { name := "fnWayBetween", fn := fun _ => fun
  | [d] => { results := [.lit (.bool true)], args := [d] }
  | _ => none }
def fnWayBetweenRow : OpenClaim := { program := "ytkkpfhkpfnofiaa", sum := "ceb2bdcfbd239fcc5f32cc8e8bd3903d6d1a21c1abccd5a85019cc59478558ae", func := "loop.example/measuredsorts/laws.FnWayBetween", spec := "fnWayBetween", unfollowed := true, recurses := true, plainKeys := false, leaving := true, apart := false }
def FnWayBetweenSaid : Prop := fnWayBetweenRow.holds Try.pinned (OpenSpec.ofChange fnWayBetweenSpec)

/-- ITS FALSE NEIGHBOUR: 'it returns false'. Refute it at one input. -/
def fnWayBetweenWrong : ChangeSpec := { name := "fnWayBetween", fn := fun _ => fun
  | [d] => { results := [.lit (.bool false)], args := [d] }
  | _ => none }
def FnWayBetweenWrongFalsely : Prop := fnWayBetweenRow.holds Try.pinned (OpenSpec.ofChange fnWayBetweenWrong)

/-- 'laws.FnShellsOf': WHATEVER THE INPUT: true; the input reads as it did. -/
def fnShellsOfSpec : ChangeSpec := { name := "fnShellsOf", fn := fun _ => fun
  | [d] => { results := [.lit (.bool true)], args := [d] }
  | _ => none }
def fnShellsOfRow : OpenClaim := { program := "ytkkpfhkpfnofiaa", sum := "ceb2bdcfbd239fcc5f32cc8e8bd3903d6d1a21c1abccd5a85019cc59478558ae", func := "loop.example/measuredsorts/laws.FnShellsOf", spec := "fnShellsOf", unfollowed := true, recurses := true, plainKeys := false, leaving := true, apart := false }
def FnShellsOfSaid : Prop := fnShellsOfRow.holds Try.pinned (OpenSpec.ofChange fnShellsOfSpec)

/-- ITS FALSE NEIGHBOUR: 'it returns false'. Refute it at one input. -/
def fnShellsOfWrong : ChangeSpec := { name := "fnShellsOf", fn := fun _ => fun
  | [d] => { results := [.lit (.bool false)], args := [d] }
  | _ => none }
def FnShellsOfWrongFalsely : Prop := fnShellsOfRow.holds Try.pinned (OpenSpec.ofChange fnShellsOfWrong)

/-- 'laws.FnRelativeOf': WHATEVER THE INPUT: true; the input reads as it did. -/
def fnRelativeOfSpec : ChangeSpec := { name := "fnRelativeOf", fn := fun _ => fun
  | [d] => { results := [.lit (.bool true)], args := [d] }
  | _ => none }
def fnRelativeOfRow : OpenClaim := { program := "ytkkpfhkpfnofiaa", sum := "ceb2bdcfbd239fcc5f32cc8e8bd3903d6d1a21c1abccd5a85019cc59478558ae", func := "loop.example/measuredsorts/laws.FnRelativeOf", spec := "fnRelativeOf", plainKeys := false, apart := false }
def FnRelativeOfSaid : Prop := fnRelativeOfRow.holds Try.pinned (OpenSpec.ofChange fnRelativeOfSpec)

/-- ITS FALSE NEIGHBOUR: 'it returns false'. Refute it at one input. -/
def fnRelativeOfWrong : ChangeSpec := { name := "fnRelativeOf", fn := fun _ => fun
  | [d] => { results := [.lit (.bool false)], args := [d] }
  | _ => none }
def FnRelativeOfWrongFalsely : Prop := fnRelativeOfRow.holds Try.pinned (OpenSpec.ofChange fnRelativeOfWrong)

/-- 'laws.FnTurnBreaks': WHATEVER THE INPUT: true; the input reads as it did. -/
def fnTurnBreaksSpec : ChangeSpec := { name := "fnTurnBreaks", fn := fun _ => fun
  | [d] => { results := [.lit (.bool true)], args := [d] }
  | _ => none }
def fnTurnBreaksRow : OpenClaim := { program := "ytkkpfhkpfnofiaa", sum := "ceb2bdcfbd239fcc5f32cc8e8bd3903d6d1a21c1abccd5a85019cc59478558ae", func := "loop.example/measuredsorts/laws.FnTurnBreaks", spec := "fnTurnBreaks", unfollowed := true, recurses := true, plainKeys := false, leaving := true, apart := false }
def FnTurnBreaksSaid : Prop := fnTurnBreaksRow.holds Try.pinned (OpenSpec.ofChange fnTurnBreaksSpec)

/-- ITS FALSE NEIGHBOUR: 'it returns false'. Refute it at one input. -/
def fnTurnBreaksWrong : ChangeSpec := { name := "fnTurnBreaks", fn := fun _ => fun
  | [d] => { results := [.lit (.bool false)], args := [d] }
  | _ => none }
def FnTurnBreaksWrongFalsely : Prop := fnTurnBreaksRow.holds Try.pinned (OpenSpec.ofChange fnTurnBreaksWrong)

/- THE SECOND FORM. 'bulk': how many values and letters a reading holds, each counted each time it is reached (what is shared counts as often as it is met; a slice's spare places count too). A statement '..UptoSaid' is the law's where the arguments, and the package variables that the reading takes, are together of bulk at most 1048576: NARROWER than '..Said'. Prove '..Said' where nothing that the law and all that it calls make is longer than what came in: it says more and counts as full. Else prove '..UptoSaid'. A law counts once. -/
mutual
def uptoBulk {H : Type} : DataW H → Nat
  | .lit (.string bytes) => bytes.length + 1
  | .lit _ => 1
  | .nil => 1
  | .ptr d => uptoBulk d + 1
  | .slice elems spare => uptoBulkAll elems + uptoBulkAll spare + 1
  | .agg parts => uptoBulkAll parts + 1
  | .iface _ d => uptoBulk d + 1
  | .map entries => uptoBulkEntries entries + 1
  | .held _ => 1
def uptoBulkAll {H : Type} : List (DataW H) → Nat
  | [] => 0
  | d :: r => uptoBulk d + uptoBulkAll r
def uptoBulkEntries {H : Type} : List (Lit × DataW H) → Nat
  | [] => 0
  | x :: r => uptoBulkEntry x + uptoBulkEntries r
def uptoBulkEntry {H : Type} : Lit × DataW H → Nat
  | (.string bytes, d) => bytes.length + uptoBulk d + 1
  | (_, d) => uptoBulk d + 1
 end
def uptoSmall : (H : Type) → List (DataW H) → Bool := fun _ ds => decide (uptoBulkAll ds ≤ 1048576)
def OpenSpec.upto (s : _root_.Go.ChangeSpec) : _root_.Go.OpenSpec := { _root_.Go.OpenSpec.ofChange s with cond := some uptoSmall }

/-- 'laws.FnValidOrder', WHERE WHAT IT READS IS OF BULK AT MOST 1048576: true; the input reads as it did. -/
def fnValidOrderUptoRow : OpenClaim := { program := "ytkkpfhkpfnofiaa", sum := "ceb2bdcfbd239fcc5f32cc8e8bd3903d6d1a21c1abccd5a85019cc59478558ae", func := "loop.example/measuredsorts/laws.FnValidOrder", spec := "fnValidOrder", plainKeys := false, apart := false, narrowed := true }
def FnValidOrderUptoSaid : Prop := fnValidOrderUptoRow.holds Try.pinned (OpenSpec.upto fnValidOrderSpec)

/-- 'laws.FnStepsFrom', WHERE WHAT IT READS IS OF BULK AT MOST 1048576: true; the input reads as it did. -/
def fnStepsFromUptoRow : OpenClaim := { program := "ytkkpfhkpfnofiaa", sum := "ceb2bdcfbd239fcc5f32cc8e8bd3903d6d1a21c1abccd5a85019cc59478558ae", func := "loop.example/measuredsorts/laws.FnStepsFrom", spec := "fnStepsFrom", unfollowed := true, recurses := true, plainKeys := false, leaving := true, apart := false, narrowed := true }
def FnStepsFromUptoSaid : Prop := fnStepsFromUptoRow.holds Try.pinned (OpenSpec.upto fnStepsFromSpec)

/-- 'laws.FnStepsApart', WHERE WHAT IT READS IS OF BULK AT MOST 1048576: true; the input reads as it did. -/
def fnStepsApartUptoRow : OpenClaim := { program := "ytkkpfhkpfnofiaa", sum := "ceb2bdcfbd239fcc5f32cc8e8bd3903d6d1a21c1abccd5a85019cc59478558ae", func := "loop.example/measuredsorts/laws.FnStepsApart", spec := "fnStepsApart", unfollowed := true, recurses := true, plainKeys := false, leaving := true, apart := false, narrowed := true }
def FnStepsApartUptoSaid : Prop := fnStepsApartUptoRow.holds Try.pinned (OpenSpec.upto fnStepsApartSpec)

/-- 'laws.FnWayBetween', WHERE WHAT IT READS IS OF BULK AT MOST 1048576: true; the input reads as it did. -/
def fnWayBetweenUptoRow : OpenClaim := { program := "ytkkpfhkpfnofiaa", sum := "ceb2bdcfbd239fcc5f32cc8e8bd3903d6d1a21c1abccd5a85019cc59478558ae", func := "loop.example/measuredsorts/laws.FnWayBetween", spec := "fnWayBetween", unfollowed := true, recurses := true, plainKeys := false, leaving := true, apart := false, narrowed := true }
def FnWayBetweenUptoSaid : Prop := fnWayBetweenUptoRow.holds Try.pinned (OpenSpec.upto fnWayBetweenSpec)

/-- 'laws.FnShellsOf', WHERE WHAT IT READS IS OF BULK AT MOST 1048576: true; the input reads as it did. -/
def fnShellsOfUptoRow : OpenClaim := { program := "ytkkpfhkpfnofiaa", sum := "ceb2bdcfbd239fcc5f32cc8e8bd3903d6d1a21c1abccd5a85019cc59478558ae", func := "loop.example/measuredsorts/laws.FnShellsOf", spec := "fnShellsOf", unfollowed := true, recurses := true, plainKeys := false, leaving := true, apart := false, narrowed := true }
def FnShellsOfUptoSaid : Prop := fnShellsOfUptoRow.holds Try.pinned (OpenSpec.upto fnShellsOfSpec)

/-- 'laws.FnRelativeOf', WHERE WHAT IT READS IS OF BULK AT MOST 1048576: true; the input reads as it did. -/
def fnRelativeOfUptoRow : OpenClaim := { program := "ytkkpfhkpfnofiaa", sum := "ceb2bdcfbd239fcc5f32cc8e8bd3903d6d1a21c1abccd5a85019cc59478558ae", func := "loop.example/measuredsorts/laws.FnRelativeOf", spec := "fnRelativeOf", plainKeys := false, apart := false, narrowed := true }
def FnRelativeOfUptoSaid : Prop := fnRelativeOfUptoRow.holds Try.pinned (OpenSpec.upto fnRelativeOfSpec)

/-- 'laws.FnTurnBreaks', WHERE WHAT IT READS IS OF BULK AT MOST 1048576: true; the input reads as it did. -/
def fnTurnBreaksUptoRow : OpenClaim := { program := "ytkkpfhkpfnofiaa", sum := "ceb2bdcfbd239fcc5f32cc8e8bd3903d6d1a21c1abccd5a85019cc59478558ae", func := "loop.example/measuredsorts/laws.FnTurnBreaks", spec := "fnTurnBreaks", unfollowed := true, recurses := true, plainKeys := false, leaving := true, apart := false, narrowed := true }
def FnTurnBreaksUptoSaid : Prop := fnTurnBreaksUptoRow.holds Try.pinned (OpenSpec.upto fnTurnBreaksSpec)

end Rows
end Go.Proofs.Ytkkpfhkpfnofiaa
