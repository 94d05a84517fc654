/-
  No cell of these rows narrows 'for every input' (looked for: loops, veiled, ifaces, maps, wideKeys, modest, calm, conditions, laid).
  DERIVED. THE GIVEN ROWS OF THIS SEAT. 9 by the template 'for every input the law returns true; each argument reads behind the call as it read before'; 0 by the template 'total and deterministic' (their statements: YtbidbopjalojaaaTotals.lean).
  GIVEN WITH THE SEED: the statements are not yours to turn. If you find one false, say at which input.
  Laid BY PROGRAM, IN A SANDBOX (cutbox-rows.mjs): the forced cells as the released guide's own fill.sh prints them over the translation 1a46ea2d6adbfb6d… (all of the seat's roots in one cut). By AI agents, Wed Nov 11 2026. No macro, syntax, notation, axiom, sorry.
-/
import Derived.Test.YtbidbopjalojaaaChecked
import GoSem.Claim
import GoSem.ClaimJoined
import GoSem.ClaimMapViews
import Derived.JoinedTies
import Derived.KernelRfl
namespace Go.Proofs.Ytbidbopjalojaaa
/- THE CELL 'sum', in the pinned program and in every row, IS THE sha256 OF THE DUMP (.gsa) THAT YtbidbopjalojaaaProg.lean LOADS. Nothing in Lean hashes anything: it is a label: what it is worth is what the hold of that sum in a sandbox is worth. -/
noncomputable def Try.pinned : Pinned := { name := "ytbidbopjalojaaa", sum := "1a46ea2d6adbfb6d54e3c9a8f1404450ae7908167833c896adf8bbb0d255cc95", checked := Try.checked }
namespace Rows
def none {H : Type} : Left H := { results := [], args := [] }

/-- 'laws.FnExactValidKeys': WHATEVER THE INPUT: true; the input reads as it did. -/
def fnExactValidKeysSpec : ChangeSpec := { name := "fnExactValidKeys", fn := fun _ => fun
  | [d] => { results := [.lit (.bool true)], args := [d] }
  | _ => none }
def fnExactValidKeysRow : OpenClaim := { program := "ytbidbopjalojaaa", sum := "1a46ea2d6adbfb6d54e3c9a8f1404450ae7908167833c896adf8bbb0d255cc95", func := "loop.example/measuredsorts/laws.FnExactValidKeys", spec := "fnExactValidKeys", apart := false }
def FnExactValidKeysSaid : Prop := fnExactValidKeysRow.holds Try.pinned (OpenSpec.ofChange fnExactValidKeysSpec)

/-- ITS FALSE NEIGHBOUR: 'it returns false'. Refute it at one input. -/
def fnExactValidKeysWrong : ChangeSpec := { name := "fnExactValidKeys", fn := fun _ => fun
  | [d] => { results := [.lit (.bool false)], args := [d] }
  | _ => none }
def FnExactValidKeysWrongFalsely : Prop := fnExactValidKeysRow.holds Try.pinned (OpenSpec.ofChange fnExactValidKeysWrong)

/-- 'laws.FnExactIsSorted': WHATEVER THE INPUT: true; the input reads as it did. -/
def fnExactIsSortedSpec : ChangeSpec := { name := "fnExactIsSorted", fn := fun _ => fun
  | [d] => { results := [.lit (.bool true)], args := [d] }
  | _ => none }
def fnExactIsSortedRow : OpenClaim := { program := "ytbidbopjalojaaa", sum := "1a46ea2d6adbfb6d54e3c9a8f1404450ae7908167833c896adf8bbb0d255cc95", func := "loop.example/measuredsorts/laws.FnExactIsSorted", spec := "fnExactIsSorted", apart := false }
def FnExactIsSortedSaid : Prop := fnExactIsSortedRow.holds Try.pinned (OpenSpec.ofChange fnExactIsSortedSpec)

/-- ITS FALSE NEIGHBOUR: 'it returns false'. Refute it at one input. -/
def fnExactIsSortedWrong : ChangeSpec := { name := "fnExactIsSorted", fn := fun _ => fun
  | [d] => { results := [.lit (.bool false)], args := [d] }
  | _ => none }
def FnExactIsSortedWrongFalsely : Prop := fnExactIsSortedRow.holds Try.pinned (OpenSpec.ofChange fnExactIsSortedWrong)

/-- 'laws.FnExactPlacesOf': WHATEVER THE INPUT: true; the input reads as it did. -/
def fnExactPlacesOfSpec : ChangeSpec := { name := "fnExactPlacesOf", fn := fun _ => fun
  | [d] => { results := [.lit (.bool true)], args := [d] }
  | _ => none }
def fnExactPlacesOfRow : OpenClaim := { program := "ytbidbopjalojaaa", sum := "1a46ea2d6adbfb6d54e3c9a8f1404450ae7908167833c896adf8bbb0d255cc95", func := "loop.example/measuredsorts/laws.FnExactPlacesOf", spec := "fnExactPlacesOf", apart := false }
def FnExactPlacesOfSaid : Prop := fnExactPlacesOfRow.holds Try.pinned (OpenSpec.ofChange fnExactPlacesOfSpec)

/-- ITS FALSE NEIGHBOUR: 'it returns false'. Refute it at one input. -/
def fnExactPlacesOfWrong : ChangeSpec := { name := "fnExactPlacesOf", fn := fun _ => fun
  | [d] => { results := [.lit (.bool false)], args := [d] }
  | _ => none }
def FnExactPlacesOfWrongFalsely : Prop := fnExactPlacesOfRow.holds Try.pinned (OpenSpec.ofChange fnExactPlacesOfWrong)

/-- 'laws.FnExactSortedKeys': WHATEVER THE INPUT: true; the input reads as it did. -/
def fnExactSortedKeysSpec : ChangeSpec := { name := "fnExactSortedKeys", fn := fun _ => fun
  | [d] => { results := [.lit (.bool true)], args := [d] }
  | _ => none }
def fnExactSortedKeysRow : OpenClaim := { program := "ytbidbopjalojaaa", sum := "1a46ea2d6adbfb6d54e3c9a8f1404450ae7908167833c896adf8bbb0d255cc95", func := "loop.example/measuredsorts/laws.FnExactSortedKeys", spec := "fnExactSortedKeys", apart := false }
def FnExactSortedKeysSaid : Prop := fnExactSortedKeysRow.holds Try.pinned (OpenSpec.ofChange fnExactSortedKeysSpec)

/-- ITS FALSE NEIGHBOUR: 'it returns false'. Refute it at one input. -/
def fnExactSortedKeysWrong : ChangeSpec := { name := "fnExactSortedKeys", fn := fun _ => fun
  | [d] => { results := [.lit (.bool false)], args := [d] }
  | _ => none }
def FnExactSortedKeysWrongFalsely : Prop := fnExactSortedKeysRow.holds Try.pinned (OpenSpec.ofChange fnExactSortedKeysWrong)

/-- 'laws.FnExactInversionsOf': WHATEVER THE INPUT: true; the input reads as it did. -/
def fnExactInversionsOfSpec : ChangeSpec := { name := "fnExactInversionsOf", fn := fun _ => fun
  | [d] => { results := [.lit (.bool true)], args := [d] }
  | _ => none }
def fnExactInversionsOfRow : OpenClaim := { program := "ytbidbopjalojaaa", sum := "1a46ea2d6adbfb6d54e3c9a8f1404450ae7908167833c896adf8bbb0d255cc95", func := "loop.example/measuredsorts/laws.FnExactInversionsOf", spec := "fnExactInversionsOf", apart := false }
def FnExactInversionsOfSaid : Prop := fnExactInversionsOfRow.holds Try.pinned (OpenSpec.ofChange fnExactInversionsOfSpec)

/-- ITS FALSE NEIGHBOUR: 'it returns false'. Refute it at one input. -/
def fnExactInversionsOfWrong : ChangeSpec := { name := "fnExactInversionsOf", fn := fun _ => fun
  | [d] => { results := [.lit (.bool false)], args := [d] }
  | _ => none }
def FnExactInversionsOfWrongFalsely : Prop := fnExactInversionsOfRow.holds Try.pinned (OpenSpec.ofChange fnExactInversionsOfWrong)

/-- 'laws.FnExactRunsOf': WHATEVER THE INPUT: true; the input reads as it did. -/
def fnExactRunsOfSpec : ChangeSpec := { name := "fnExactRunsOf", fn := fun _ => fun
  | [d] => { results := [.lit (.bool true)], args := [d] }
  | _ => none }
def fnExactRunsOfRow : OpenClaim := { program := "ytbidbopjalojaaa", sum := "1a46ea2d6adbfb6d54e3c9a8f1404450ae7908167833c896adf8bbb0d255cc95", func := "loop.example/measuredsorts/laws.FnExactRunsOf", spec := "fnExactRunsOf", apart := false }
def FnExactRunsOfSaid : Prop := fnExactRunsOfRow.holds Try.pinned (OpenSpec.ofChange fnExactRunsOfSpec)

/-- ITS FALSE NEIGHBOUR: 'it returns false'. Refute it at one input. -/
def fnExactRunsOfWrong : ChangeSpec := { name := "fnExactRunsOf", fn := fun _ => fun
  | [d] => { results := [.lit (.bool false)], args := [d] }
  | _ => none }
def FnExactRunsOfWrongFalsely : Prop := fnExactRunsOfRow.holds Try.pinned (OpenSpec.ofChange fnExactRunsOfWrong)

/-- 'laws.FnExactLongestRise': WHATEVER THE INPUT: true; the input reads as it did. -/
def fnExactLongestRiseSpec : ChangeSpec := { name := "fnExactLongestRise", fn := fun _ => fun
  | [d] => { results := [.lit (.bool true)], args := [d] }
  | _ => none }
def fnExactLongestRiseRow : OpenClaim := { program := "ytbidbopjalojaaa", sum := "1a46ea2d6adbfb6d54e3c9a8f1404450ae7908167833c896adf8bbb0d255cc95", func := "loop.example/measuredsorts/laws.FnExactLongestRise", spec := "fnExactLongestRise", unfollowed := true, recurses := true, apart := false }
def FnExactLongestRiseSaid : Prop := fnExactLongestRiseRow.holds Try.pinned (OpenSpec.ofChange fnExactLongestRiseSpec)

/-- ITS FALSE NEIGHBOUR: 'it returns false'. Refute it at one input. -/
def fnExactLongestRiseWrong : ChangeSpec := { name := "fnExactLongestRise", fn := fun _ => fun
  | [d] => { results := [.lit (.bool false)], args := [d] }
  | _ => none }
def FnExactLongestRiseWrongFalsely : Prop := fnExactLongestRiseRow.holds Try.pinned (OpenSpec.ofChange fnExactLongestRiseWrong)

/-- 'laws.FnExactRemovalsOf': WHATEVER THE INPUT: true; the input reads as it did. -/
def fnExactRemovalsOfSpec : ChangeSpec := { name := "fnExactRemovalsOf", fn := fun _ => fun
  | [d] => { results := [.lit (.bool true)], args := [d] }
  | _ => none }
def fnExactRemovalsOfRow : OpenClaim := { program := "ytbidbopjalojaaa", sum := "1a46ea2d6adbfb6d54e3c9a8f1404450ae7908167833c896adf8bbb0d255cc95", func := "loop.example/measuredsorts/laws.FnExactRemovalsOf", spec := "fnExactRemovalsOf", unfollowed := true, recurses := true, apart := false }
def FnExactRemovalsOfSaid : Prop := fnExactRemovalsOfRow.holds Try.pinned (OpenSpec.ofChange fnExactRemovalsOfSpec)

/-- ITS FALSE NEIGHBOUR: 'it returns false'. Refute it at one input. -/
def fnExactRemovalsOfWrong : ChangeSpec := { name := "fnExactRemovalsOf", fn := fun _ => fun
  | [d] => { results := [.lit (.bool false)], args := [d] }
  | _ => none }
def FnExactRemovalsOfWrongFalsely : Prop := fnExactRemovalsOfRow.holds Try.pinned (OpenSpec.ofChange fnExactRemovalsOfWrong)

/-- 'laws.FnExactExchangesOf': WHATEVER THE INPUT: true; the input reads as it did. -/
def fnExactExchangesOfSpec : ChangeSpec := { name := "fnExactExchangesOf", fn := fun _ => fun
  | [d] => { results := [.lit (.bool true)], args := [d] }
  | _ => none }
def fnExactExchangesOfRow : OpenClaim := { program := "ytbidbopjalojaaa", sum := "1a46ea2d6adbfb6d54e3c9a8f1404450ae7908167833c896adf8bbb0d255cc95", func := "loop.example/measuredsorts/laws.FnExactExchangesOf", spec := "fnExactExchangesOf", apart := false }
def FnExactExchangesOfSaid : Prop := fnExactExchangesOfRow.holds Try.pinned (OpenSpec.ofChange fnExactExchangesOfSpec)

/-- ITS FALSE NEIGHBOUR: 'it returns false'. Refute it at one input. -/
def fnExactExchangesOfWrong : ChangeSpec := { name := "fnExactExchangesOf", fn := fun _ => fun
  | [d] => { results := [.lit (.bool false)], args := [d] }
  | _ => none }
def FnExactExchangesOfWrongFalsely : Prop := fnExactExchangesOfRow.holds Try.pinned (OpenSpec.ofChange fnExactExchangesOfWrong)

/- THE SECOND FORM. 'bulk': how many values and letters a reading holds, each counted each time it is reached (what is shared counts as often as it is met; a slice's spare places count too). A statement '..UptoSaid' is the law's where the arguments, and the package variables that the reading takes, are together of bulk at most 1048576: NARROWER than '..Said'. Prove '..Said' where nothing that the law and all that it calls make is longer than what came in: it says more and counts as full. Else prove '..UptoSaid'. A law counts once. -/
mutual
def uptoBulk {H : Type} : DataW H → Nat
  | .lit (.string bytes) => bytes.length + 1
  | .lit _ => 1
  | .nil => 1
  | .ptr d => uptoBulk d + 1
  | .slice elems spare => uptoBulkAll elems + uptoBulkAll spare + 1
  | .agg parts => uptoBulkAll parts + 1
  | .iface _ d => uptoBulk d + 1
  | .map entries => uptoBulkEntries entries + 1
  | .held _ => 1
def uptoBulkAll {H : Type} : List (DataW H) → Nat
  | [] => 0
  | d :: r => uptoBulk d + uptoBulkAll r
def uptoBulkEntries {H : Type} : List (Lit × DataW H) → Nat
  | [] => 0
  | x :: r => uptoBulkEntry x + uptoBulkEntries r
def uptoBulkEntry {H : Type} : Lit × DataW H → Nat
  | (.string bytes, d) => bytes.length + uptoBulk d + 1
  | (_, d) => uptoBulk d + 1
 end
def uptoSmall : (H : Type) → List (DataW H) → Bool := fun _ ds => decide (uptoBulkAll ds ≤ 1048576)
def OpenSpec.upto (s : _root_.Go.ChangeSpec) : _root_.Go.OpenSpec := { _root_.Go.OpenSpec.ofChange s with cond := some uptoSmall }

/-- 'laws.FnExactValidKeys', WHERE WHAT IT READS IS OF BULK AT MOST 1048576: true; the input reads as it did. -/
def fnExactValidKeysUptoRow : OpenClaim := { program := "ytbidbopjalojaaa", sum := "1a46ea2d6adbfb6d54e3c9a8f1404450ae7908167833c896adf8bbb0d255cc95", func := "loop.example/measuredsorts/laws.FnExactValidKeys", spec := "fnExactValidKeys", apart := false, narrowed := true }
def FnExactValidKeysUptoSaid : Prop := fnExactValidKeysUptoRow.holds Try.pinned (OpenSpec.upto fnExactValidKeysSpec)

/-- 'laws.FnExactIsSorted', WHERE WHAT IT READS IS OF BULK AT MOST 1048576: true; the input reads as it did. -/
def fnExactIsSortedUptoRow : OpenClaim := { program := "ytbidbopjalojaaa", sum := "1a46ea2d6adbfb6d54e3c9a8f1404450ae7908167833c896adf8bbb0d255cc95", func := "loop.example/measuredsorts/laws.FnExactIsSorted", spec := "fnExactIsSorted", apart := false, narrowed := true }
def FnExactIsSortedUptoSaid : Prop := fnExactIsSortedUptoRow.holds Try.pinned (OpenSpec.upto fnExactIsSortedSpec)

/-- 'laws.FnExactPlacesOf', WHERE WHAT IT READS IS OF BULK AT MOST 1048576: true; the input reads as it did. -/
def fnExactPlacesOfUptoRow : OpenClaim := { program := "ytbidbopjalojaaa", sum := "1a46ea2d6adbfb6d54e3c9a8f1404450ae7908167833c896adf8bbb0d255cc95", func := "loop.example/measuredsorts/laws.FnExactPlacesOf", spec := "fnExactPlacesOf", apart := false, narrowed := true }
def FnExactPlacesOfUptoSaid : Prop := fnExactPlacesOfUptoRow.holds Try.pinned (OpenSpec.upto fnExactPlacesOfSpec)

/-- 'laws.FnExactSortedKeys', WHERE WHAT IT READS IS OF BULK AT MOST 1048576: true; the input reads as it did. -/
def fnExactSortedKeysUptoRow : OpenClaim := { program := "ytbidbopjalojaaa", sum := "1a46ea2d6adbfb6d54e3c9a8f1404450ae7908167833c896adf8bbb0d255cc95", func := "loop.example/measuredsorts/laws.FnExactSortedKeys", spec := "fnExactSortedKeys", apart := false, narrowed := true }
def FnExactSortedKeysUptoSaid : Prop := fnExactSortedKeysUptoRow.holds Try.pinned (OpenSpec.upto fnExactSortedKeysSpec)

/-- 'laws.FnExactInversionsOf', WHERE WHAT IT READS IS OF BULK AT MOST 1048576: true; the input reads as it did. -/
def fnExactInversionsOfUptoRow : OpenClaim := { program := "ytbidbopjalojaaa", sum := "1a46ea2d6adbfb6d54e3c9a8f1404450ae7908167833c896adf8bbb0d255cc95", func := "loop.example/measuredsorts/laws.FnExactInversionsOf", spec := "fnExactInversionsOf", apart := false, narrowed := true }
def FnExactInversionsOfUptoSaid : Prop := fnExactInversionsOfUptoRow.holds Try.pinned (OpenSpec.upto fnExactInversionsOfSpec)

/-- 'laws.FnExactRunsOf', WHERE WHAT IT READS IS OF BULK AT MOST 1048576: true; the input reads as it did. -/
def fnExactRunsOfUptoRow : OpenClaim := { program := "ytbidbopjalojaaa", sum := "1a46ea2d6adbfb6d54e3c9a8f1404450ae7908167833c896adf8bbb0d255cc95", func := "loop.example/measuredsorts/laws.FnExactRunsOf", spec := "fnExactRunsOf", apart := false, narrowed := true }
def FnExactRunsOfUptoSaid : Prop := fnExactRunsOfUptoRow.holds Try.pinned (OpenSpec.upto fnExactRunsOfSpec)

/-- 'laws.FnExactLongestRise', WHERE WHAT IT READS IS OF BULK AT MOST 1048576: true; the input reads as it did. -/
def fnExactLongestRiseUptoRow : OpenClaim := { program := "ytbidbopjalojaaa", sum := "1a46ea2d6adbfb6d54e3c9a8f1404450ae7908167833c896adf8bbb0d255cc95", func := "loop.example/measuredsorts/laws.FnExactLongestRise", spec := "fnExactLongestRise", unfollowed := true, recurses := true, apart := false, narrowed := true }
def FnExactLongestRiseUptoSaid : Prop := fnExactLongestRiseUptoRow.holds Try.pinned (OpenSpec.upto fnExactLongestRiseSpec)

/-- 'laws.FnExactRemovalsOf', WHERE WHAT IT READS IS OF BULK AT MOST 1048576: true; the input reads as it did. -/
def fnExactRemovalsOfUptoRow : OpenClaim := { program := "ytbidbopjalojaaa", sum := "1a46ea2d6adbfb6d54e3c9a8f1404450ae7908167833c896adf8bbb0d255cc95", func := "loop.example/measuredsorts/laws.FnExactRemovalsOf", spec := "fnExactRemovalsOf", unfollowed := true, recurses := true, apart := false, narrowed := true }
def FnExactRemovalsOfUptoSaid : Prop := fnExactRemovalsOfUptoRow.holds Try.pinned (OpenSpec.upto fnExactRemovalsOfSpec)

/-- 'laws.FnExactExchangesOf', WHERE WHAT IT READS IS OF BULK AT MOST 1048576: true; the input reads as it did. -/
def fnExactExchangesOfUptoRow : OpenClaim := { program := "ytbidbopjalojaaa", sum := "1a46ea2d6adbfb6d54e3c9a8f1404450ae7908167833c896adf8bbb0d255cc95", func := "loop.example/measuredsorts/laws.FnExactExchangesOf", spec := "fnExactExchangesOf", apart := false, narrowed := true }
def FnExactExchangesOfUptoSaid : Prop := fnExactExchangesOfUptoRow.holds Try.pinned (OpenSpec.upto fnExactExchangesOfSpec)

end Rows
end Go.Proofs.Ytbidbopjalojaaa
