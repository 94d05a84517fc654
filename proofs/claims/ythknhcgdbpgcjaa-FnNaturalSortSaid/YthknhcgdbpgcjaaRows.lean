/-
  No cell of these rows narrows 'for every input' (looked for: loops, veiled, ifaces, maps, wideKeys, modest, calm, conditions, laid).
  DERIVED. THE GIVEN ROWS OF THIS SEAT. 6 by the template 'for every input the law returns true; each argument reads behind the call as it read before'; 0 by the template 'total and deterministic' (their statements: YthknhcgdbpgcjaaTotals.lean).
  GIVEN WITH THE SEED: the statements are not yours to turn. If you find one false, say at which input.
  Laid BY PROGRAM, IN A SANDBOX (cutbox-rows.mjs): the forced cells as the released guide's own fill.sh prints them over the translation c1beb5820e2a4e59… (all of the seat's roots in one cut). By AI agents, Wed Nov 11 2026. No macro, syntax, notation, axiom, sorry.
-/
import Derived.Test.YthknhcgdbpgcjaaChecked
import GoSem.Claim
import GoSem.ClaimJoined
import GoSem.ClaimMapViews
import Derived.JoinedTies
import Derived.KernelRfl
namespace Go.Proofs.Ythknhcgdbpgcjaa
/- THE CELL 'sum', in the pinned program and in every row, IS THE sha256 OF THE DUMP (.gsa) THAT YthknhcgdbpgcjaaProg.lean LOADS. Nothing in Lean hashes anything: it is a label: what it is worth is what the hold of that sum in a sandbox is worth. -/
noncomputable def Try.pinned : Pinned := { name := "ythknhcgdbpgcjaa", sum := "c1beb5820e2a4e59f164eeeafce5bd89789c6e7f6dcd065df1e60c6bb9a17260", checked := Try.checked }
namespace Rows
def none {H : Type} : Left H := { results := [], args := [] }

/-- 'laws.FnNaturalSort': WHATEVER THE INPUT: true; the input reads as it did. -/
def fnNaturalSortSpec : ChangeSpec := { name := "fnNaturalSort", fn := fun _ => fun
  | [d] => { results := [.lit (.bool true)], args := [d] }
  | _ => none }
def fnNaturalSortRow : OpenClaim := { program := "ythknhcgdbpgcjaa", sum := "c1beb5820e2a4e59f164eeeafce5bd89789c6e7f6dcd065df1e60c6bb9a17260", func := "loop.example/measuredsorts/laws.FnNaturalSort", spec := "fnNaturalSort", unfollowed := true, recurses := true, apart := false }
def FnNaturalSortSaid : Prop := fnNaturalSortRow.holds Try.pinned (OpenSpec.ofChange fnNaturalSortSpec)

/-- ITS FALSE NEIGHBOUR: 'it returns false'. Refute it at one input. -/
def fnNaturalSortWrong : ChangeSpec := { name := "fnNaturalSort", fn := fun _ => fun
  | [d] => { results := [.lit (.bool false)], args := [d] }
  | _ => none }
def FnNaturalSortWrongFalsely : Prop := fnNaturalSortRow.holds Try.pinned (OpenSpec.ofChange fnNaturalSortWrong)

/-- 'laws.FnCupOf': WHATEVER THE INPUT: true; the input reads as it did. -/
def fnCupOfSpec : ChangeSpec := { name := "fnCupOf", fn := fun _ => fun
  | [d] => { results := [.lit (.bool true)], args := [d] }
  | _ => none }
def fnCupOfRow : OpenClaim := { program := "ythknhcgdbpgcjaa", sum := "c1beb5820e2a4e59f164eeeafce5bd89789c6e7f6dcd065df1e60c6bb9a17260", func := "loop.example/measuredsorts/laws.FnCupOf", spec := "fnCupOf", unfollowed := true, recurses := true, apart := false }
def FnCupOfSaid : Prop := fnCupOfRow.holds Try.pinned (OpenSpec.ofChange fnCupOfSpec)

/-- ITS FALSE NEIGHBOUR: 'it returns false'. Refute it at one input. -/
def fnCupOfWrong : ChangeSpec := { name := "fnCupOf", fn := fun _ => fun
  | [d] => { results := [.lit (.bool false)], args := [d] }
  | _ => none }
def FnCupOfWrongFalsely : Prop := fnCupOfRow.holds Try.pinned (OpenSpec.ofChange fnCupOfWrong)

/-- 'laws.FnSecondOf': WHATEVER THE INPUT: true; the input reads as it did. -/
def fnSecondOfSpec : ChangeSpec := { name := "fnSecondOf", fn := fun _ => fun
  | [d] => { results := [.lit (.bool true)], args := [d] }
  | _ => none }
def fnSecondOfRow : OpenClaim := { program := "ythknhcgdbpgcjaa", sum := "c1beb5820e2a4e59f164eeeafce5bd89789c6e7f6dcd065df1e60c6bb9a17260", func := "loop.example/measuredsorts/laws.FnSecondOf", spec := "fnSecondOf", unfollowed := true, recurses := true, apart := false }
def FnSecondOfSaid : Prop := fnSecondOfRow.holds Try.pinned (OpenSpec.ofChange fnSecondOfSpec)

/-- ITS FALSE NEIGHBOUR: 'it returns false'. Refute it at one input. -/
def fnSecondOfWrong : ChangeSpec := { name := "fnSecondOf", fn := fun _ => fun
  | [d] => { results := [.lit (.bool false)], args := [d] }
  | _ => none }
def FnSecondOfWrongFalsely : Prop := fnSecondOfRow.holds Try.pinned (OpenSpec.ofChange fnSecondOfWrong)

/-- 'laws.FnExactNaturalSort': WHATEVER THE INPUT: true; the input reads as it did. -/
def fnExactNaturalSortSpec : ChangeSpec := { name := "fnExactNaturalSort", fn := fun _ => fun
  | [d] => { results := [.lit (.bool true)], args := [d] }
  | _ => none }
def fnExactNaturalSortRow : OpenClaim := { program := "ythknhcgdbpgcjaa", sum := "c1beb5820e2a4e59f164eeeafce5bd89789c6e7f6dcd065df1e60c6bb9a17260", func := "loop.example/measuredsorts/laws.FnExactNaturalSort", spec := "fnExactNaturalSort", unfollowed := true, recurses := true, apart := false }
def FnExactNaturalSortSaid : Prop := fnExactNaturalSortRow.holds Try.pinned (OpenSpec.ofChange fnExactNaturalSortSpec)

/-- ITS FALSE NEIGHBOUR: 'it returns false'. Refute it at one input. -/
def fnExactNaturalSortWrong : ChangeSpec := { name := "fnExactNaturalSort", fn := fun _ => fun
  | [d] => { results := [.lit (.bool false)], args := [d] }
  | _ => none }
def FnExactNaturalSortWrongFalsely : Prop := fnExactNaturalSortRow.holds Try.pinned (OpenSpec.ofChange fnExactNaturalSortWrong)

/-- 'laws.FnExactCupOf': WHATEVER THE INPUT: true; the input reads as it did. -/
def fnExactCupOfSpec : ChangeSpec := { name := "fnExactCupOf", fn := fun _ => fun
  | [d] => { results := [.lit (.bool true)], args := [d] }
  | _ => none }
def fnExactCupOfRow : OpenClaim := { program := "ythknhcgdbpgcjaa", sum := "c1beb5820e2a4e59f164eeeafce5bd89789c6e7f6dcd065df1e60c6bb9a17260", func := "loop.example/measuredsorts/laws.FnExactCupOf", spec := "fnExactCupOf", unfollowed := true, recurses := true, apart := false }
def FnExactCupOfSaid : Prop := fnExactCupOfRow.holds Try.pinned (OpenSpec.ofChange fnExactCupOfSpec)

/-- ITS FALSE NEIGHBOUR: 'it returns false'. Refute it at one input. -/
def fnExactCupOfWrong : ChangeSpec := { name := "fnExactCupOf", fn := fun _ => fun
  | [d] => { results := [.lit (.bool false)], args := [d] }
  | _ => none }
def FnExactCupOfWrongFalsely : Prop := fnExactCupOfRow.holds Try.pinned (OpenSpec.ofChange fnExactCupOfWrong)

/-- 'laws.FnExactSecondOf': WHATEVER THE INPUT: true; the input reads as it did. -/
def fnExactSecondOfSpec : ChangeSpec := { name := "fnExactSecondOf", fn := fun _ => fun
  | [d] => { results := [.lit (.bool true)], args := [d] }
  | _ => none }
def fnExactSecondOfRow : OpenClaim := { program := "ythknhcgdbpgcjaa", sum := "c1beb5820e2a4e59f164eeeafce5bd89789c6e7f6dcd065df1e60c6bb9a17260", func := "loop.example/measuredsorts/laws.FnExactSecondOf", spec := "fnExactSecondOf", unfollowed := true, recurses := true, apart := false }
def FnExactSecondOfSaid : Prop := fnExactSecondOfRow.holds Try.pinned (OpenSpec.ofChange fnExactSecondOfSpec)

/-- ITS FALSE NEIGHBOUR: 'it returns false'. Refute it at one input. -/
def fnExactSecondOfWrong : ChangeSpec := { name := "fnExactSecondOf", fn := fun _ => fun
  | [d] => { results := [.lit (.bool false)], args := [d] }
  | _ => none }
def FnExactSecondOfWrongFalsely : Prop := fnExactSecondOfRow.holds Try.pinned (OpenSpec.ofChange fnExactSecondOfWrong)

/- THE SECOND FORM. 'bulk': how many values and letters a reading holds, each counted each time it is reached (what is shared counts as often as it is met; a slice's spare places count too). A statement '..UptoSaid' is the law's where the arguments, and the package variables that the reading takes, are together of bulk at most 1048576: NARROWER than '..Said'. Prove '..Said' where nothing that the law and all that it calls make is longer than what came in: it says more and counts as full. Else prove '..UptoSaid'. A law counts once. -/
mutual
def uptoBulk {H : Type} : DataW H → Nat
  | .lit (.string bytes) => bytes.length + 1
  | .lit _ => 1
  | .nil => 1
  | .ptr d => uptoBulk d + 1
  | .slice elems spare => uptoBulkAll elems + uptoBulkAll spare + 1
  | .agg parts => uptoBulkAll parts + 1
  | .iface _ d => uptoBulk d + 1
  | .map entries => uptoBulkEntries entries + 1
  | .held _ => 1
def uptoBulkAll {H : Type} : List (DataW H) → Nat
  | [] => 0
  | d :: r => uptoBulk d + uptoBulkAll r
def uptoBulkEntries {H : Type} : List (Lit × DataW H) → Nat
  | [] => 0
  | x :: r => uptoBulkEntry x + uptoBulkEntries r
def uptoBulkEntry {H : Type} : Lit × DataW H → Nat
  | (.string bytes, d) => bytes.length + uptoBulk d + 1
  | (_, d) => uptoBulk d + 1
 end
def uptoSmall : (H : Type) → List (DataW H) → Bool := fun _ ds => decide (uptoBulkAll ds ≤ 1048576)
def OpenSpec.upto (s : _root_.Go.ChangeSpec) : _root_.Go.OpenSpec := { _root_.Go.OpenSpec.ofChange s with cond := some uptoSmall }

/-- 'laws.FnNaturalSort', WHERE WHAT IT READS IS OF BULK AT MOST 1048576: true; the input reads as it did. -/
def fnNaturalSortUptoRow : OpenClaim := { program := "ythknhcgdbpgcjaa", sum := "c1beb5820e2a4e59f164eeeafce5bd89789c6e7f6dcd065df1e60c6bb9a17260", func := "loop.example/measuredsorts/laws.FnNaturalSort", spec := "fnNaturalSort", unfollowed := true, recurses := true, apart := false, narrowed := true }
def FnNaturalSortUptoSaid : Prop := fnNaturalSortUptoRow.holds Try.pinned (OpenSpec.upto fnNaturalSortSpec)

/-- 'laws.FnCupOf', WHERE WHAT IT READS IS OF BULK AT MOST 1048576: true; the input reads as it did. -/
def fnCupOfUptoRow : OpenClaim := { program := "ythknhcgdbpgcjaa", sum := "c1beb5820e2a4e59f164eeeafce5bd89789c6e7f6dcd065df1e60c6bb9a17260", func := "loop.example/measuredsorts/laws.FnCupOf", spec := "fnCupOf", unfollowed := true, recurses := true, apart := false, narrowed := true }
def FnCupOfUptoSaid : Prop := fnCupOfUptoRow.holds Try.pinned (OpenSpec.upto fnCupOfSpec)

/-- 'laws.FnSecondOf', WHERE WHAT IT READS IS OF BULK AT MOST 1048576: true; the input reads as it did. -/
def fnSecondOfUptoRow : OpenClaim := { program := "ythknhcgdbpgcjaa", sum := "c1beb5820e2a4e59f164eeeafce5bd89789c6e7f6dcd065df1e60c6bb9a17260", func := "loop.example/measuredsorts/laws.FnSecondOf", spec := "fnSecondOf", unfollowed := true, recurses := true, apart := false, narrowed := true }
def FnSecondOfUptoSaid : Prop := fnSecondOfUptoRow.holds Try.pinned (OpenSpec.upto fnSecondOfSpec)

/-- 'laws.FnExactNaturalSort', WHERE WHAT IT READS IS OF BULK AT MOST 1048576: true; the input reads as it did. -/
def fnExactNaturalSortUptoRow : OpenClaim := { program := "ythknhcgdbpgcjaa", sum := "c1beb5820e2a4e59f164eeeafce5bd89789c6e7f6dcd065df1e60c6bb9a17260", func := "loop.example/measuredsorts/laws.FnExactNaturalSort", spec := "fnExactNaturalSort", unfollowed := true, recurses := true, apart := false, narrowed := true }
def FnExactNaturalSortUptoSaid : Prop := fnExactNaturalSortUptoRow.holds Try.pinned (OpenSpec.upto fnExactNaturalSortSpec)

/-- 'laws.FnExactCupOf', WHERE WHAT IT READS IS OF BULK AT MOST 1048576: true; the input reads as it did. -/
def fnExactCupOfUptoRow : OpenClaim := { program := "ythknhcgdbpgcjaa", sum := "c1beb5820e2a4e59f164eeeafce5bd89789c6e7f6dcd065df1e60c6bb9a17260", func := "loop.example/measuredsorts/laws.FnExactCupOf", spec := "fnExactCupOf", unfollowed := true, recurses := true, apart := false, narrowed := true }
def FnExactCupOfUptoSaid : Prop := fnExactCupOfUptoRow.holds Try.pinned (OpenSpec.upto fnExactCupOfSpec)

/-- 'laws.FnExactSecondOf', WHERE WHAT IT READS IS OF BULK AT MOST 1048576: true; the input reads as it did. -/
def fnExactSecondOfUptoRow : OpenClaim := { program := "ythknhcgdbpgcjaa", sum := "c1beb5820e2a4e59f164eeeafce5bd89789c6e7f6dcd065df1e60c6bb9a17260", func := "loop.example/measuredsorts/laws.FnExactSecondOf", spec := "fnExactSecondOf", unfollowed := true, recurses := true, apart := false, narrowed := true }
def FnExactSecondOfUptoSaid : Prop := fnExactSecondOfUptoRow.holds Try.pinned (OpenSpec.upto fnExactSecondOfSpec)

end Rows
end Go.Proofs.Ythknhcgdbpgcjaa
