/-
  No cell of these rows narrows 'for every input' (looked for: loops, veiled, ifaces, maps, wideKeys, modest, calm, conditions, laid).
  DERIVED. THE GIVEN ROWS OF THIS SEAT. 4 by the template 'for every input the law returns true; each argument reads behind the call as it read before'; 0 by the template 'total and deterministic' (their statements: YtfoamlnkjmadhaaTotals.lean).
  GIVEN WITH THE SEED: the statements are not yours to turn. If you find one false, say at which input.
  Laid BY PROGRAM, IN A SANDBOX (cutbox-rows.mjs): the forced cells as the released guide's own fill.sh prints them over the translation 5d1d9eee9df22505… (all of the seat's roots in one cut). By AI agents, Wed Nov 11 2026. No macro, syntax, notation, axiom, sorry.
-/
import Derived.Test.YtfoamlnkjmadhaaChecked
import GoSem.Claim
import GoSem.ClaimJoined
import GoSem.ClaimMapViews
import Derived.JoinedTies
import Derived.KernelRfl
namespace Go.Proofs.Ytfoamlnkjmadhaa
/- THE CELL 'sum', in the pinned program and in every row, IS THE sha256 OF THE DUMP (.gsa) THAT YtfoamlnkjmadhaaProg.lean LOADS. Nothing in Lean hashes anything: it is a label: what it is worth is what the hold of that sum in a sandbox is worth. -/
noncomputable def Try.pinned : Pinned := { name := "ytfoamlnkjmadhaa", sum := "5d1d9eee9df225054d7d0d07f52e5a593c4806fed20b88cfb3494de26c2d385d", checked := Try.checked }
namespace Rows
def none {H : Type} : Left H := { results := [], args := [] }

/-- 'laws.FnValidFacts': WHATEVER THE INPUT: true; the input reads as it did. -/
def fnValidFactsSpec : ChangeSpec := { name := "fnValidFacts", fn := fun _ => fun
  | [d] => { results := [.lit (.bool true)], args := [d] }
  | _ => none }
def fnValidFactsRow : OpenClaim := { program := "ytfoamlnkjmadhaa", sum := "5d1d9eee9df225054d7d0d07f52e5a593c4806fed20b88cfb3494de26c2d385d", func := "loop.example/measuredsorts/laws.FnValidFacts", spec := "fnValidFacts", unfollowed := true, recurses := true, apart := false }
def FnValidFactsSaid : Prop := fnValidFactsRow.holds Try.pinned (OpenSpec.ofChange fnValidFactsSpec)

/-- ITS FALSE NEIGHBOUR: 'it returns false'. Refute it at one input. -/
def fnValidFactsWrong : ChangeSpec := { name := "fnValidFacts", fn := fun _ => fun
  | [d] => { results := [.lit (.bool false)], args := [d] }
  | _ => none }
def FnValidFactsWrongFalsely : Prop := fnValidFactsRow.holds Try.pinned (OpenSpec.ofChange fnValidFactsWrong)

/-- 'laws.FnExactValidFacts': WHATEVER THE INPUT: true; the input reads as it did. -/
def fnExactValidFactsSpec : ChangeSpec := { name := "fnExactValidFacts", fn := fun _ => fun
  | [d1, d2] => { results := [.lit (.bool true)], args := [d1, d2] }
  | _ => none }
def fnExactValidFactsRow : OpenClaim := { program := "ytfoamlnkjmadhaa", sum := "5d1d9eee9df225054d7d0d07f52e5a593c4806fed20b88cfb3494de26c2d385d", func := "loop.example/measuredsorts/laws.FnExactValidFacts", spec := "fnExactValidFacts", unfollowed := true, recurses := true, apart := false }
def FnExactValidFactsSaid : Prop := fnExactValidFactsRow.holds Try.pinned (OpenSpec.ofChange fnExactValidFactsSpec)

/-- ITS FALSE NEIGHBOUR: 'it returns false'. Refute it at one input. -/
def fnExactValidFactsWrong : ChangeSpec := { name := "fnExactValidFacts", fn := fun _ => fun
  | [d1, d2] => { results := [.lit (.bool false)], args := [d1, d2] }
  | _ => none }
def FnExactValidFactsWrongFalsely : Prop := fnExactValidFactsRow.holds Try.pinned (OpenSpec.ofChange fnExactValidFactsWrong)

/-- 'laws.FnExactKnownOf': WHATEVER THE INPUT: true; the input reads as it did. -/
def fnExactKnownOfSpec : ChangeSpec := { name := "fnExactKnownOf", fn := fun _ => fun
  | [d1, d2] => { results := [.lit (.bool true)], args := [d1, d2] }
  | _ => none }
def fnExactKnownOfRow : OpenClaim := { program := "ytfoamlnkjmadhaa", sum := "5d1d9eee9df225054d7d0d07f52e5a593c4806fed20b88cfb3494de26c2d385d", func := "loop.example/measuredsorts/laws.FnExactKnownOf", spec := "fnExactKnownOf", unfollowed := true, recurses := true, apart := false }
def FnExactKnownOfSaid : Prop := fnExactKnownOfRow.holds Try.pinned (OpenSpec.ofChange fnExactKnownOfSpec)

/-- ITS FALSE NEIGHBOUR: 'it returns false'. Refute it at one input. -/
def fnExactKnownOfWrong : ChangeSpec := { name := "fnExactKnownOf", fn := fun _ => fun
  | [d1, d2] => { results := [.lit (.bool false)], args := [d1, d2] }
  | _ => none }
def FnExactKnownOfWrongFalsely : Prop := fnExactKnownOfRow.holds Try.pinned (OpenSpec.ofChange fnExactKnownOfWrong)

/-- 'laws.FnExactChainFacts': WHATEVER THE INPUT: true; the input reads as it did. -/
def fnExactChainFactsSpec : ChangeSpec := { name := "fnExactChainFacts", fn := fun _ => fun
  | [d1, d2] => { results := [.lit (.bool true)], args := [d1, d2] }
  | _ => none }
def fnExactChainFactsRow : OpenClaim := { program := "ytfoamlnkjmadhaa", sum := "5d1d9eee9df225054d7d0d07f52e5a593c4806fed20b88cfb3494de26c2d385d", func := "loop.example/measuredsorts/laws.FnExactChainFacts", spec := "fnExactChainFacts", apart := false }
def FnExactChainFactsSaid : Prop := fnExactChainFactsRow.holds Try.pinned (OpenSpec.ofChange fnExactChainFactsSpec)

/-- ITS FALSE NEIGHBOUR: 'it returns false'. Refute it at one input. -/
def fnExactChainFactsWrong : ChangeSpec := { name := "fnExactChainFacts", fn := fun _ => fun
  | [d1, d2] => { results := [.lit (.bool false)], args := [d1, d2] }
  | _ => none }
def FnExactChainFactsWrongFalsely : Prop := fnExactChainFactsRow.holds Try.pinned (OpenSpec.ofChange fnExactChainFactsWrong)

/- THE SECOND FORM. 'bulk': how many values and letters a reading holds, each counted each time it is reached (what is shared counts as often as it is met; a slice's spare places count too). A statement '..UptoSaid' is the law's where the arguments, and the package variables that the reading takes, are together of bulk at most 1048576: NARROWER than '..Said'. Prove '..Said' where nothing that the law and all that it calls make is longer than what came in: it says more and counts as full. Else prove '..UptoSaid'. A law counts once. -/
mutual
def uptoBulk {H : Type} : DataW H → Nat
  | .lit (.string bytes) => bytes.length + 1
  | .lit _ => 1
  | .nil => 1
  | .ptr d => uptoBulk d + 1
  | .slice elems spare => uptoBulkAll elems + uptoBulkAll spare + 1
  | .agg parts => uptoBulkAll parts + 1
  | .iface _ d => uptoBulk d + 1
  | .map entries => uptoBulkEntries entries + 1
  | .held _ => 1
def uptoBulkAll {H : Type} : List (DataW H) → Nat
  | [] => 0
  | d :: r => uptoBulk d + uptoBulkAll r
def uptoBulkEntries {H : Type} : List (Lit × DataW H) → Nat
  | [] => 0
  | x :: r => uptoBulkEntry x + uptoBulkEntries r
def uptoBulkEntry {H : Type} : Lit × DataW H → Nat
  | (.string bytes, d) => bytes.length + uptoBulk d + 1
  | (_, d) => uptoBulk d + 1
 end
def uptoSmall : (H : Type) → List (DataW H) → Bool := fun _ ds => decide (uptoBulkAll ds ≤ 1048576)
def OpenSpec.upto (s : _root_.Go.ChangeSpec) : _root_.Go.OpenSpec := { _root_.Go.OpenSpec.ofChange s with cond := some uptoSmall }

/-- 'laws.FnValidFacts', WHERE WHAT IT READS IS OF BULK AT MOST 1048576: true; the input reads as it did. -/
def fnValidFactsUptoRow : OpenClaim := { program := "ytfoamlnkjmadhaa", sum := "5d1d9eee9df225054d7d0d07f52e5a593c4806fed20b88cfb3494de26c2d385d", func := "loop.example/measuredsorts/laws.FnValidFacts", spec := "fnValidFacts", unfollowed := true, recurses := true, apart := false, narrowed := true }
def FnValidFactsUptoSaid : Prop := fnValidFactsUptoRow.holds Try.pinned (OpenSpec.upto fnValidFactsSpec)

/-- 'laws.FnExactValidFacts', WHERE WHAT IT READS IS OF BULK AT MOST 1048576: true; the input reads as it did. -/
def fnExactValidFactsUptoRow : OpenClaim := { program := "ytfoamlnkjmadhaa", sum := "5d1d9eee9df225054d7d0d07f52e5a593c4806fed20b88cfb3494de26c2d385d", func := "loop.example/measuredsorts/laws.FnExactValidFacts", spec := "fnExactValidFacts", unfollowed := true, recurses := true, apart := false, narrowed := true }
def FnExactValidFactsUptoSaid : Prop := fnExactValidFactsUptoRow.holds Try.pinned (OpenSpec.upto fnExactValidFactsSpec)

/-- 'laws.FnExactKnownOf', WHERE WHAT IT READS IS OF BULK AT MOST 1048576: true; the input reads as it did. -/
def fnExactKnownOfUptoRow : OpenClaim := { program := "ytfoamlnkjmadhaa", sum := "5d1d9eee9df225054d7d0d07f52e5a593c4806fed20b88cfb3494de26c2d385d", func := "loop.example/measuredsorts/laws.FnExactKnownOf", spec := "fnExactKnownOf", unfollowed := true, recurses := true, apart := false, narrowed := true }
def FnExactKnownOfUptoSaid : Prop := fnExactKnownOfUptoRow.holds Try.pinned (OpenSpec.upto fnExactKnownOfSpec)

/-- 'laws.FnExactChainFacts', WHERE WHAT IT READS IS OF BULK AT MOST 1048576: true; the input reads as it did. -/
def fnExactChainFactsUptoRow : OpenClaim := { program := "ytfoamlnkjmadhaa", sum := "5d1d9eee9df225054d7d0d07f52e5a593c4806fed20b88cfb3494de26c2d385d", func := "loop.example/measuredsorts/laws.FnExactChainFacts", spec := "fnExactChainFacts", apart := false, narrowed := true }
def FnExactChainFactsUptoSaid : Prop := fnExactChainFactsUptoRow.holds Try.pinned (OpenSpec.upto fnExactChainFactsSpec)

end Rows
end Go.Proofs.Ytfoamlnkjmadhaa
