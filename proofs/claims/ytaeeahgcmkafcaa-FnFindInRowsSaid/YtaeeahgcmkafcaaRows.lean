/-
  No cell of these rows narrows 'for every input' (looked for: loops, veiled, ifaces, maps, wideKeys, modest, calm, conditions, laid).
  DERIVED. THE GIVEN ROWS OF THIS SEAT. 12 by the template 'for every input the law returns true; each argument reads behind the call as it read before'; 0 by the template 'total and deterministic' (their statements: YtaeeahgcmkafcaaTotals.lean).
  GIVEN WITH THE SEED: the statements are not yours to turn. If you find one false, say at which input.
  Laid BY PROGRAM, IN A SANDBOX (cutbox-rows.mjs): the forced cells as the released guide's own fill.sh prints them over the translation 3ea17d791f0b208d… (all of the seat's roots in one cut). By AI agents, Wed Nov 11 2026. No macro, syntax, notation, axiom, sorry.
-/
import Derived.Test.YtaeeahgcmkafcaaChecked
import GoSem.Claim
import GoSem.ClaimJoined
import GoSem.ClaimMapViews
import Derived.JoinedTies
import Derived.KernelRfl
namespace Go.Proofs.Ytaeeahgcmkafcaa
/- THE CELL 'sum', in the pinned program and in every row, IS THE sha256 OF THE DUMP (.gsa) THAT YtaeeahgcmkafcaaProg.lean LOADS. Nothing in Lean hashes anything: it is a label: what it is worth is what the hold of that sum in a sandbox is worth. -/
noncomputable def Try.pinned : Pinned := { name := "ytaeeahgcmkafcaa", sum := "3ea17d791f0b208de15cff850ef3131c4469061a06004ca0b16935e95c875f3d", checked := Try.checked }
namespace Rows
def none {H : Type} : Left H := { results := [], args := [] }

/-- 'laws.FnCupOf': WHATEVER THE INPUT: true; the input reads as it did. -/
def fnCupOfSpec : ChangeSpec := { name := "fnCupOf", fn := fun _ => fun
  | [d] => { results := [.lit (.bool true)], args := [d] }
  | _ => none }
def fnCupOfRow : OpenClaim := { program := "ytaeeahgcmkafcaa", sum := "3ea17d791f0b208de15cff850ef3131c4469061a06004ca0b16935e95c875f3d", func := "loop.example/measuredsorts/laws.FnCupOf", spec := "fnCupOf", unfollowed := true, recurses := true, apart := false }
def FnCupOfSaid : Prop := fnCupOfRow.holds Try.pinned (OpenSpec.ofChange fnCupOfSpec)

/-- ITS FALSE NEIGHBOUR: 'it returns false'. Refute it at one input. -/
def fnCupOfWrong : ChangeSpec := { name := "fnCupOf", fn := fun _ => fun
  | [d] => { results := [.lit (.bool false)], args := [d] }
  | _ => none }
def FnCupOfWrongFalsely : Prop := fnCupOfRow.holds Try.pinned (OpenSpec.ofChange fnCupOfWrong)

/-- 'laws.FnSecondOf': WHATEVER THE INPUT: true; the input reads as it did. -/
def fnSecondOfSpec : ChangeSpec := { name := "fnSecondOf", fn := fun _ => fun
  | [d] => { results := [.lit (.bool true)], args := [d] }
  | _ => none }
def fnSecondOfRow : OpenClaim := { program := "ytaeeahgcmkafcaa", sum := "3ea17d791f0b208de15cff850ef3131c4469061a06004ca0b16935e95c875f3d", func := "loop.example/measuredsorts/laws.FnSecondOf", spec := "fnSecondOf", unfollowed := true, recurses := true, apart := false }
def FnSecondOfSaid : Prop := fnSecondOfRow.holds Try.pinned (OpenSpec.ofChange fnSecondOfSpec)

/-- ITS FALSE NEIGHBOUR: 'it returns false'. Refute it at one input. -/
def fnSecondOfWrong : ChangeSpec := { name := "fnSecondOf", fn := fun _ => fun
  | [d] => { results := [.lit (.bool false)], args := [d] }
  | _ => none }
def FnSecondOfWrongFalsely : Prop := fnSecondOfRow.holds Try.pinned (OpenSpec.ofChange fnSecondOfWrong)

/-- 'laws.FnEndsOf': WHATEVER THE INPUT: true; the input reads as it did. -/
def fnEndsOfSpec : ChangeSpec := { name := "fnEndsOf", fn := fun _ => fun
  | [d] => { results := [.lit (.bool true)], args := [d] }
  | _ => none }
def fnEndsOfRow : OpenClaim := { program := "ytaeeahgcmkafcaa", sum := "3ea17d791f0b208de15cff850ef3131c4469061a06004ca0b16935e95c875f3d", func := "loop.example/measuredsorts/laws.FnEndsOf", spec := "fnEndsOf", unfollowed := true, recurses := true, apart := false }
def FnEndsOfSaid : Prop := fnEndsOfRow.holds Try.pinned (OpenSpec.ofChange fnEndsOfSpec)

/-- ITS FALSE NEIGHBOUR: 'it returns false'. Refute it at one input. -/
def fnEndsOfWrong : ChangeSpec := { name := "fnEndsOf", fn := fun _ => fun
  | [d] => { results := [.lit (.bool false)], args := [d] }
  | _ => none }
def FnEndsOfWrongFalsely : Prop := fnEndsOfRow.holds Try.pinned (OpenSpec.ofChange fnEndsOfWrong)

/-- 'laws.FnValidRows': WHATEVER THE INPUT: true; the input reads as it did. -/
def fnValidRowsSpec : ChangeSpec := { name := "fnValidRows", fn := fun _ => fun
  | [d] => { results := [.lit (.bool true)], args := [d] }
  | _ => none }
def fnValidRowsRow : OpenClaim := { program := "ytaeeahgcmkafcaa", sum := "3ea17d791f0b208de15cff850ef3131c4469061a06004ca0b16935e95c875f3d", func := "loop.example/measuredsorts/laws.FnValidRows", spec := "fnValidRows", unfollowed := true, recurses := true, apart := false }
def FnValidRowsSaid : Prop := fnValidRowsRow.holds Try.pinned (OpenSpec.ofChange fnValidRowsSpec)

/-- ITS FALSE NEIGHBOUR: 'it returns false'. Refute it at one input. -/
def fnValidRowsWrong : ChangeSpec := { name := "fnValidRows", fn := fun _ => fun
  | [d] => { results := [.lit (.bool false)], args := [d] }
  | _ => none }
def FnValidRowsWrongFalsely : Prop := fnValidRowsRow.holds Try.pinned (OpenSpec.ofChange fnValidRowsWrong)

/-- 'laws.FnFindInRows': WHATEVER THE INPUT: true; the input reads as it did. -/
def fnFindInRowsSpec : ChangeSpec := { name := "fnFindInRows", fn := fun _ => fun
  | [d] => { results := [.lit (.bool true)], args := [d] }
  | _ => none }
def fnFindInRowsRow : OpenClaim := { program := "ytaeeahgcmkafcaa", sum := "3ea17d791f0b208de15cff850ef3131c4469061a06004ca0b16935e95c875f3d", func := "loop.example/measuredsorts/laws.FnFindInRows", spec := "fnFindInRows", unfollowed := true, recurses := true, apart := false }
def FnFindInRowsSaid : Prop := fnFindInRowsRow.holds Try.pinned (OpenSpec.ofChange fnFindInRowsSpec)

/-- ITS FALSE NEIGHBOUR: 'it returns false'. Refute it at one input. -/
def fnFindInRowsWrong : ChangeSpec := { name := "fnFindInRows", fn := fun _ => fun
  | [d] => { results := [.lit (.bool false)], args := [d] }
  | _ => none }
def FnFindInRowsWrongFalsely : Prop := fnFindInRowsRow.holds Try.pinned (OpenSpec.ofChange fnFindInRowsWrong)

/-- 'laws.FnCountInRows': WHATEVER THE INPUT: true; the input reads as it did. -/
def fnCountInRowsSpec : ChangeSpec := { name := "fnCountInRows", fn := fun _ => fun
  | [d] => { results := [.lit (.bool true)], args := [d] }
  | _ => none }
def fnCountInRowsRow : OpenClaim := { program := "ytaeeahgcmkafcaa", sum := "3ea17d791f0b208de15cff850ef3131c4469061a06004ca0b16935e95c875f3d", func := "loop.example/measuredsorts/laws.FnCountInRows", spec := "fnCountInRows", unfollowed := true, recurses := true, apart := false }
def FnCountInRowsSaid : Prop := fnCountInRowsRow.holds Try.pinned (OpenSpec.ofChange fnCountInRowsSpec)

/-- ITS FALSE NEIGHBOUR: 'it returns false'. Refute it at one input. -/
def fnCountInRowsWrong : ChangeSpec := { name := "fnCountInRows", fn := fun _ => fun
  | [d] => { results := [.lit (.bool false)], args := [d] }
  | _ => none }
def FnCountInRowsWrongFalsely : Prop := fnCountInRowsRow.holds Try.pinned (OpenSpec.ofChange fnCountInRowsWrong)

/-- 'laws.FnExactCupOf': WHATEVER THE INPUT: true; the input reads as it did. -/
def fnExactCupOfSpec : ChangeSpec := { name := "fnExactCupOf", fn := fun _ => fun
  | [d] => { results := [.lit (.bool true)], args := [d] }
  | _ => none }
def fnExactCupOfRow : OpenClaim := { program := "ytaeeahgcmkafcaa", sum := "3ea17d791f0b208de15cff850ef3131c4469061a06004ca0b16935e95c875f3d", func := "loop.example/measuredsorts/laws.FnExactCupOf", spec := "fnExactCupOf", unfollowed := true, recurses := true, apart := false }
def FnExactCupOfSaid : Prop := fnExactCupOfRow.holds Try.pinned (OpenSpec.ofChange fnExactCupOfSpec)

/-- ITS FALSE NEIGHBOUR: 'it returns false'. Refute it at one input. -/
def fnExactCupOfWrong : ChangeSpec := { name := "fnExactCupOf", fn := fun _ => fun
  | [d] => { results := [.lit (.bool false)], args := [d] }
  | _ => none }
def FnExactCupOfWrongFalsely : Prop := fnExactCupOfRow.holds Try.pinned (OpenSpec.ofChange fnExactCupOfWrong)

/-- 'laws.FnExactSecondOf': WHATEVER THE INPUT: true; the input reads as it did. -/
def fnExactSecondOfSpec : ChangeSpec := { name := "fnExactSecondOf", fn := fun _ => fun
  | [d] => { results := [.lit (.bool true)], args := [d] }
  | _ => none }
def fnExactSecondOfRow : OpenClaim := { program := "ytaeeahgcmkafcaa", sum := "3ea17d791f0b208de15cff850ef3131c4469061a06004ca0b16935e95c875f3d", func := "loop.example/measuredsorts/laws.FnExactSecondOf", spec := "fnExactSecondOf", unfollowed := true, recurses := true, apart := false }
def FnExactSecondOfSaid : Prop := fnExactSecondOfRow.holds Try.pinned (OpenSpec.ofChange fnExactSecondOfSpec)

/-- ITS FALSE NEIGHBOUR: 'it returns false'. Refute it at one input. -/
def fnExactSecondOfWrong : ChangeSpec := { name := "fnExactSecondOf", fn := fun _ => fun
  | [d] => { results := [.lit (.bool false)], args := [d] }
  | _ => none }
def FnExactSecondOfWrongFalsely : Prop := fnExactSecondOfRow.holds Try.pinned (OpenSpec.ofChange fnExactSecondOfWrong)

/-- 'laws.FnExactEndsOf': WHATEVER THE INPUT: true; the input reads as it did. -/
def fnExactEndsOfSpec : ChangeSpec := { name := "fnExactEndsOf", fn := fun _ => fun
  | [d] => { results := [.lit (.bool true)], args := [d] }
  | _ => none }
def fnExactEndsOfRow : OpenClaim := { program := "ytaeeahgcmkafcaa", sum := "3ea17d791f0b208de15cff850ef3131c4469061a06004ca0b16935e95c875f3d", func := "loop.example/measuredsorts/laws.FnExactEndsOf", spec := "fnExactEndsOf", unfollowed := true, recurses := true, apart := false }
def FnExactEndsOfSaid : Prop := fnExactEndsOfRow.holds Try.pinned (OpenSpec.ofChange fnExactEndsOfSpec)

/-- ITS FALSE NEIGHBOUR: 'it returns false'. Refute it at one input. -/
def fnExactEndsOfWrong : ChangeSpec := { name := "fnExactEndsOf", fn := fun _ => fun
  | [d] => { results := [.lit (.bool false)], args := [d] }
  | _ => none }
def FnExactEndsOfWrongFalsely : Prop := fnExactEndsOfRow.holds Try.pinned (OpenSpec.ofChange fnExactEndsOfWrong)

/-- 'laws.FnExactValidRows': WHATEVER THE INPUT: true; the input reads as it did. -/
def fnExactValidRowsSpec : ChangeSpec := { name := "fnExactValidRows", fn := fun _ => fun
  | [d] => { results := [.lit (.bool true)], args := [d] }
  | _ => none }
def fnExactValidRowsRow : OpenClaim := { program := "ytaeeahgcmkafcaa", sum := "3ea17d791f0b208de15cff850ef3131c4469061a06004ca0b16935e95c875f3d", func := "loop.example/measuredsorts/laws.FnExactValidRows", spec := "fnExactValidRows", unfollowed := true, recurses := true, apart := false }
def FnExactValidRowsSaid : Prop := fnExactValidRowsRow.holds Try.pinned (OpenSpec.ofChange fnExactValidRowsSpec)

/-- ITS FALSE NEIGHBOUR: 'it returns false'. Refute it at one input. -/
def fnExactValidRowsWrong : ChangeSpec := { name := "fnExactValidRows", fn := fun _ => fun
  | [d] => { results := [.lit (.bool false)], args := [d] }
  | _ => none }
def FnExactValidRowsWrongFalsely : Prop := fnExactValidRowsRow.holds Try.pinned (OpenSpec.ofChange fnExactValidRowsWrong)

/-- 'laws.FnExactFindInRows': WHATEVER THE INPUT: true; the input reads as it did. -/
def fnExactFindInRowsSpec : ChangeSpec := { name := "fnExactFindInRows", fn := fun _ => fun
  | [d1, d2] => { results := [.lit (.bool true)], args := [d1, d2] }
  | _ => none }
def fnExactFindInRowsRow : OpenClaim := { program := "ytaeeahgcmkafcaa", sum := "3ea17d791f0b208de15cff850ef3131c4469061a06004ca0b16935e95c875f3d", func := "loop.example/measuredsorts/laws.FnExactFindInRows", spec := "fnExactFindInRows", unfollowed := true, recurses := true, apart := false }
def FnExactFindInRowsSaid : Prop := fnExactFindInRowsRow.holds Try.pinned (OpenSpec.ofChange fnExactFindInRowsSpec)

/-- ITS FALSE NEIGHBOUR: 'it returns false'. Refute it at one input. -/
def fnExactFindInRowsWrong : ChangeSpec := { name := "fnExactFindInRows", fn := fun _ => fun
  | [d1, d2] => { results := [.lit (.bool false)], args := [d1, d2] }
  | _ => none }
def FnExactFindInRowsWrongFalsely : Prop := fnExactFindInRowsRow.holds Try.pinned (OpenSpec.ofChange fnExactFindInRowsWrong)

/-- 'laws.FnExactCountInRows': WHATEVER THE INPUT: true; the input reads as it did. -/
def fnExactCountInRowsSpec : ChangeSpec := { name := "fnExactCountInRows", fn := fun _ => fun
  | [d1, d2] => { results := [.lit (.bool true)], args := [d1, d2] }
  | _ => none }
def fnExactCountInRowsRow : OpenClaim := { program := "ytaeeahgcmkafcaa", sum := "3ea17d791f0b208de15cff850ef3131c4469061a06004ca0b16935e95c875f3d", func := "loop.example/measuredsorts/laws.FnExactCountInRows", spec := "fnExactCountInRows", unfollowed := true, recurses := true, apart := false }
def FnExactCountInRowsSaid : Prop := fnExactCountInRowsRow.holds Try.pinned (OpenSpec.ofChange fnExactCountInRowsSpec)

/-- ITS FALSE NEIGHBOUR: 'it returns false'. Refute it at one input. -/
def fnExactCountInRowsWrong : ChangeSpec := { name := "fnExactCountInRows", fn := fun _ => fun
  | [d1, d2] => { results := [.lit (.bool false)], args := [d1, d2] }
  | _ => none }
def FnExactCountInRowsWrongFalsely : Prop := fnExactCountInRowsRow.holds Try.pinned (OpenSpec.ofChange fnExactCountInRowsWrong)

/- THE SECOND FORM. 'bulk': how many values and letters a reading holds, each counted each time it is reached (what is shared counts as often as it is met; a slice's spare places count too). A statement '..UptoSaid' is the law's where the arguments, and the package variables that the reading takes, are together of bulk at most 1048576: NARROWER than '..Said'. Prove '..Said' where nothing that the law and all that it calls make is longer than what came in: it says more and counts as full. Else prove '..UptoSaid'. A law counts once. -/
mutual
def uptoBulk {H : Type} : DataW H → Nat
  | .lit (.string bytes) => bytes.length + 1
  | .lit _ => 1
  | .nil => 1
  | .ptr d => uptoBulk d + 1
  | .slice elems spare => uptoBulkAll elems + uptoBulkAll spare + 1
  | .agg parts => uptoBulkAll parts + 1
  | .iface _ d => uptoBulk d + 1
  | .map entries => uptoBulkEntries entries + 1
  | .held _ => 1
def uptoBulkAll {H : Type} : List (DataW H) → Nat
  | [] => 0
  | d :: r => uptoBulk d + uptoBulkAll r
def uptoBulkEntries {H : Type} : List (Lit × DataW H) → Nat
  | [] => 0
  | x :: r => uptoBulkEntry x + uptoBulkEntries r
def uptoBulkEntry {H : Type} : Lit × DataW H → Nat
  | (.string bytes, d) => bytes.length + uptoBulk d + 1
  | (_, d) => uptoBulk d + 1
 end
def uptoSmall : (H : Type) → List (DataW H) → Bool := fun _ ds => decide (uptoBulkAll ds ≤ 1048576)
def OpenSpec.upto (s : _root_.Go.ChangeSpec) : _root_.Go.OpenSpec := { _root_.Go.OpenSpec.ofChange s with cond := some uptoSmall }

/-- 'laws.FnCupOf', WHERE WHAT IT READS IS OF BULK AT MOST 1048576: true; the input reads as it did. -/
def fnCupOfUptoRow : OpenClaim := { program := "ytaeeahgcmkafcaa", sum := "3ea17d791f0b208de15cff850ef3131c4469061a06004ca0b16935e95c875f3d", func := "loop.example/measuredsorts/laws.FnCupOf", spec := "fnCupOf", unfollowed := true, recurses := true, apart := false, narrowed := true }
def FnCupOfUptoSaid : Prop := fnCupOfUptoRow.holds Try.pinned (OpenSpec.upto fnCupOfSpec)

/-- 'laws.FnSecondOf', WHERE WHAT IT READS IS OF BULK AT MOST 1048576: true; the input reads as it did. -/
def fnSecondOfUptoRow : OpenClaim := { program := "ytaeeahgcmkafcaa", sum := "3ea17d791f0b208de15cff850ef3131c4469061a06004ca0b16935e95c875f3d", func := "loop.example/measuredsorts/laws.FnSecondOf", spec := "fnSecondOf", unfollowed := true, recurses := true, apart := false, narrowed := true }
def FnSecondOfUptoSaid : Prop := fnSecondOfUptoRow.holds Try.pinned (OpenSpec.upto fnSecondOfSpec)

/-- 'laws.FnEndsOf', WHERE WHAT IT READS IS OF BULK AT MOST 1048576: true; the input reads as it did. -/
def fnEndsOfUptoRow : OpenClaim := { program := "ytaeeahgcmkafcaa", sum := "3ea17d791f0b208de15cff850ef3131c4469061a06004ca0b16935e95c875f3d", func := "loop.example/measuredsorts/laws.FnEndsOf", spec := "fnEndsOf", unfollowed := true, recurses := true, apart := false, narrowed := true }
def FnEndsOfUptoSaid : Prop := fnEndsOfUptoRow.holds Try.pinned (OpenSpec.upto fnEndsOfSpec)

/-- 'laws.FnValidRows', WHERE WHAT IT READS IS OF BULK AT MOST 1048576: true; the input reads as it did. -/
def fnValidRowsUptoRow : OpenClaim := { program := "ytaeeahgcmkafcaa", sum := "3ea17d791f0b208de15cff850ef3131c4469061a06004ca0b16935e95c875f3d", func := "loop.example/measuredsorts/laws.FnValidRows", spec := "fnValidRows", unfollowed := true, recurses := true, apart := false, narrowed := true }
def FnValidRowsUptoSaid : Prop := fnValidRowsUptoRow.holds Try.pinned (OpenSpec.upto fnValidRowsSpec)

/-- 'laws.FnFindInRows', WHERE WHAT IT READS IS OF BULK AT MOST 1048576: true; the input reads as it did. -/
def fnFindInRowsUptoRow : OpenClaim := { program := "ytaeeahgcmkafcaa", sum := "3ea17d791f0b208de15cff850ef3131c4469061a06004ca0b16935e95c875f3d", func := "loop.example/measuredsorts/laws.FnFindInRows", spec := "fnFindInRows", unfollowed := true, recurses := true, apart := false, narrowed := true }
def FnFindInRowsUptoSaid : Prop := fnFindInRowsUptoRow.holds Try.pinned (OpenSpec.upto fnFindInRowsSpec)

/-- 'laws.FnCountInRows', WHERE WHAT IT READS IS OF BULK AT MOST 1048576: true; the input reads as it did. -/
def fnCountInRowsUptoRow : OpenClaim := { program := "ytaeeahgcmkafcaa", sum := "3ea17d791f0b208de15cff850ef3131c4469061a06004ca0b16935e95c875f3d", func := "loop.example/measuredsorts/laws.FnCountInRows", spec := "fnCountInRows", unfollowed := true, recurses := true, apart := false, narrowed := true }
def FnCountInRowsUptoSaid : Prop := fnCountInRowsUptoRow.holds Try.pinned (OpenSpec.upto fnCountInRowsSpec)

/-- 'laws.FnExactCupOf', WHERE WHAT IT READS IS OF BULK AT MOST 1048576: true; the input reads as it did. -/
def fnExactCupOfUptoRow : OpenClaim := { program := "ytaeeahgcmkafcaa", sum := "3ea17d791f0b208de15cff850ef3131c4469061a06004ca0b16935e95c875f3d", func := "loop.example/measuredsorts/laws.FnExactCupOf", spec := "fnExactCupOf", unfollowed := true, recurses := true, apart := false, narrowed := true }
def FnExactCupOfUptoSaid : Prop := fnExactCupOfUptoRow.holds Try.pinned (OpenSpec.upto fnExactCupOfSpec)

/-- 'laws.FnExactSecondOf', WHERE WHAT IT READS IS OF BULK AT MOST 1048576: true; the input reads as it did. -/
def fnExactSecondOfUptoRow : OpenClaim := { program := "ytaeeahgcmkafcaa", sum := "3ea17d791f0b208de15cff850ef3131c4469061a06004ca0b16935e95c875f3d", func := "loop.example/measuredsorts/laws.FnExactSecondOf", spec := "fnExactSecondOf", unfollowed := true, recurses := true, apart := false, narrowed := true }
def FnExactSecondOfUptoSaid : Prop := fnExactSecondOfUptoRow.holds Try.pinned (OpenSpec.upto fnExactSecondOfSpec)

/-- 'laws.FnExactEndsOf', WHERE WHAT IT READS IS OF BULK AT MOST 1048576: true; the input reads as it did. -/
def fnExactEndsOfUptoRow : OpenClaim := { program := "ytaeeahgcmkafcaa", sum := "3ea17d791f0b208de15cff850ef3131c4469061a06004ca0b16935e95c875f3d", func := "loop.example/measuredsorts/laws.FnExactEndsOf", spec := "fnExactEndsOf", unfollowed := true, recurses := true, apart := false, narrowed := true }
def FnExactEndsOfUptoSaid : Prop := fnExactEndsOfUptoRow.holds Try.pinned (OpenSpec.upto fnExactEndsOfSpec)

/-- 'laws.FnExactValidRows', WHERE WHAT IT READS IS OF BULK AT MOST 1048576: true; the input reads as it did. -/
def fnExactValidRowsUptoRow : OpenClaim := { program := "ytaeeahgcmkafcaa", sum := "3ea17d791f0b208de15cff850ef3131c4469061a06004ca0b16935e95c875f3d", func := "loop.example/measuredsorts/laws.FnExactValidRows", spec := "fnExactValidRows", unfollowed := true, recurses := true, apart := false, narrowed := true }
def FnExactValidRowsUptoSaid : Prop := fnExactValidRowsUptoRow.holds Try.pinned (OpenSpec.upto fnExactValidRowsSpec)

/-- 'laws.FnExactFindInRows', WHERE WHAT IT READS IS OF BULK AT MOST 1048576: true; the input reads as it did. -/
def fnExactFindInRowsUptoRow : OpenClaim := { program := "ytaeeahgcmkafcaa", sum := "3ea17d791f0b208de15cff850ef3131c4469061a06004ca0b16935e95c875f3d", func := "loop.example/measuredsorts/laws.FnExactFindInRows", spec := "fnExactFindInRows", unfollowed := true, recurses := true, apart := false, narrowed := true }
def FnExactFindInRowsUptoSaid : Prop := fnExactFindInRowsUptoRow.holds Try.pinned (OpenSpec.upto fnExactFindInRowsSpec)

/-- 'laws.FnExactCountInRows', WHERE WHAT IT READS IS OF BULK AT MOST 1048576: true; the input reads as it did. -/
def fnExactCountInRowsUptoRow : OpenClaim := { program := "ytaeeahgcmkafcaa", sum := "3ea17d791f0b208de15cff850ef3131c4469061a06004ca0b16935e95c875f3d", func := "loop.example/measuredsorts/laws.FnExactCountInRows", spec := "fnExactCountInRows", unfollowed := true, recurses := true, apart := false, narrowed := true }
def FnExactCountInRowsUptoSaid : Prop := fnExactCountInRowsUptoRow.holds Try.pinned (OpenSpec.upto fnExactCountInRowsSpec)

end Rows
end Go.Proofs.Ytaeeahgcmkafcaa
