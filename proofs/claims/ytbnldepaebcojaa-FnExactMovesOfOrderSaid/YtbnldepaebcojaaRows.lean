/-
  No cell of these rows narrows 'for every input' (looked for: loops, veiled, ifaces, maps, wideKeys, modest, calm, conditions, laid).
  DERIVED. THE GIVEN ROWS OF THIS SEAT. 2 by the template 'for every input the law returns true; each argument reads behind the call as it read before'; 0 by the template 'total and deterministic' (their statements: YtbnldepaebcojaaTotals.lean).
  GIVEN WITH THE SEED: the statements are not yours to turn. If you find one false, say at which input.
  Laid BY PROGRAM, IN A SANDBOX (cutbox-rows.mjs): the forced cells as the released guide's own fill.sh prints them over the translation 2711944d3652f65e… (all of the seat's roots in one cut). By AI agents, Wed Nov 11 2026. No macro, syntax, notation, axiom, sorry.
-/
import Derived.Test.YtbnldepaebcojaaChecked
import GoSem.Claim
import GoSem.ClaimJoined
import GoSem.ClaimMapViews
import Derived.JoinedTies
import Derived.KernelRfl
namespace Go.Proofs.Ytbnldepaebcojaa
/- THE CELL 'sum', in the pinned program and in every row, IS THE sha256 OF THE DUMP (.gsa) THAT YtbnldepaebcojaaProg.lean LOADS. Nothing in Lean hashes anything: it is a label: what it is worth is what the hold of that sum in a sandbox is worth. -/
noncomputable def Try.pinned : Pinned := { name := "ytbnldepaebcojaa", sum := "2711944d3652f65edbe6f7d763d6cfd706511da21afbda4fdebc6a66207d6014", checked := Try.checked }
namespace Rows
def none {H : Type} : Left H := { results := [], args := [] }

/-- 'laws.FnMovesOfOrder': WHATEVER THE INPUT: true; the input reads as it did. -/
def fnMovesOfOrderSpec : ChangeSpec := { name := "fnMovesOfOrder", fn := fun _ => fun
  | [d] => { results := [.lit (.bool true)], args := [d] }
  | _ => none }
def fnMovesOfOrderRow : OpenClaim := { program := "ytbnldepaebcojaa", sum := "2711944d3652f65edbe6f7d763d6cfd706511da21afbda4fdebc6a66207d6014", func := "loop.example/measuredsorts/laws.FnMovesOfOrder", spec := "fnMovesOfOrder", inPlace := ["internal/abi.NoEscape"], unfollowed := true, recurses := true, apart := false }
def FnMovesOfOrderSaid : Prop := fnMovesOfOrderRow.holds Try.pinned (OpenSpec.ofChange fnMovesOfOrderSpec)

/-- ITS FALSE NEIGHBOUR: 'it returns false'. Refute it at one input. -/
def fnMovesOfOrderWrong : ChangeSpec := { name := "fnMovesOfOrder", fn := fun _ => fun
  | [d] => { results := [.lit (.bool false)], args := [d] }
  | _ => none }
def FnMovesOfOrderWrongFalsely : Prop := fnMovesOfOrderRow.holds Try.pinned (OpenSpec.ofChange fnMovesOfOrderWrong)

/-- 'laws.FnExactMovesOfOrder': WHATEVER THE INPUT: true; the input reads as it did. -/
def fnExactMovesOfOrderSpec : ChangeSpec := { name := "fnExactMovesOfOrder", fn := fun _ => fun
  | [d] => { results := [.lit (.bool true)], args := [d] }
  | _ => none }
def fnExactMovesOfOrderRow : OpenClaim := { program := "ytbnldepaebcojaa", sum := "2711944d3652f65edbe6f7d763d6cfd706511da21afbda4fdebc6a66207d6014", func := "loop.example/measuredsorts/laws.FnExactMovesOfOrder", spec := "fnExactMovesOfOrder", inPlace := ["internal/abi.NoEscape"], unfollowed := true, recurses := true, apart := false }
def FnExactMovesOfOrderSaid : Prop := fnExactMovesOfOrderRow.holds Try.pinned (OpenSpec.ofChange fnExactMovesOfOrderSpec)

/-- ITS FALSE NEIGHBOUR: 'it returns false'. Refute it at one input. -/
def fnExactMovesOfOrderWrong : ChangeSpec := { name := "fnExactMovesOfOrder", fn := fun _ => fun
  | [d] => { results := [.lit (.bool false)], args := [d] }
  | _ => none }
def FnExactMovesOfOrderWrongFalsely : Prop := fnExactMovesOfOrderRow.holds Try.pinned (OpenSpec.ofChange fnExactMovesOfOrderWrong)

/- THE SECOND FORM. 'bulk': how many values and letters a reading holds, each counted each time it is reached (what is shared counts as often as it is met; a slice's spare places count too). A statement '..UptoSaid' is the law's where the arguments, and the package variables that the reading takes, are together of bulk at most 1048576: NARROWER than '..Said'. Prove '..Said' where nothing that the law and all that it calls make is longer than what came in: it says more and counts as full. Else prove '..UptoSaid'. A law counts once. -/
mutual
def uptoBulk {H : Type} : DataW H → Nat
  | .lit (.string bytes) => bytes.length + 1
  | .lit _ => 1
  | .nil => 1
  | .ptr d => uptoBulk d + 1
  | .slice elems spare => uptoBulkAll elems + uptoBulkAll spare + 1
  | .agg parts => uptoBulkAll parts + 1
  | .iface _ d => uptoBulk d + 1
  | .map entries => uptoBulkEntries entries + 1
  | .held _ => 1
def uptoBulkAll {H : Type} : List (DataW H) → Nat
  | [] => 0
  | d :: r => uptoBulk d + uptoBulkAll r
def uptoBulkEntries {H : Type} : List (Lit × DataW H) → Nat
  | [] => 0
  | x :: r => uptoBulkEntry x + uptoBulkEntries r
def uptoBulkEntry {H : Type} : Lit × DataW H → Nat
  | (.string bytes, d) => bytes.length + uptoBulk d + 1
  | (_, d) => uptoBulk d + 1
 end
def uptoSmall : (H : Type) → List (DataW H) → Bool := fun _ ds => decide (uptoBulkAll ds ≤ 1048576)
def OpenSpec.upto (s : _root_.Go.ChangeSpec) : _root_.Go.OpenSpec := { _root_.Go.OpenSpec.ofChange s with cond := some uptoSmall }

/-- 'laws.FnMovesOfOrder', WHERE WHAT IT READS IS OF BULK AT MOST 1048576: true; the input reads as it did. -/
def fnMovesOfOrderUptoRow : OpenClaim := { program := "ytbnldepaebcojaa", sum := "2711944d3652f65edbe6f7d763d6cfd706511da21afbda4fdebc6a66207d6014", func := "loop.example/measuredsorts/laws.FnMovesOfOrder", spec := "fnMovesOfOrder", inPlace := ["internal/abi.NoEscape"], unfollowed := true, recurses := true, apart := false, narrowed := true }
def FnMovesOfOrderUptoSaid : Prop := fnMovesOfOrderUptoRow.holds Try.pinned (OpenSpec.upto fnMovesOfOrderSpec)

/-- 'laws.FnExactMovesOfOrder', WHERE WHAT IT READS IS OF BULK AT MOST 1048576: true; the input reads as it did. -/
def fnExactMovesOfOrderUptoRow : OpenClaim := { program := "ytbnldepaebcojaa", sum := "2711944d3652f65edbe6f7d763d6cfd706511da21afbda4fdebc6a66207d6014", func := "loop.example/measuredsorts/laws.FnExactMovesOfOrder", spec := "fnExactMovesOfOrder", inPlace := ["internal/abi.NoEscape"], unfollowed := true, recurses := true, apart := false, narrowed := true }
def FnExactMovesOfOrderUptoSaid : Prop := fnExactMovesOfOrderUptoRow.holds Try.pinned (OpenSpec.upto fnExactMovesOfOrderSpec)

end Rows
end Go.Proofs.Ytbnldepaebcojaa
