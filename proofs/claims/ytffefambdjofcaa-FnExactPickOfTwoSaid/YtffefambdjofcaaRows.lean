/-
  No cell of these rows narrows 'for every input' (looked for: loops, veiled, ifaces, maps, wideKeys, modest, calm, conditions, laid).
  DERIVED. THE GIVEN ROWS OF THIS SEAT. 10 by the template 'for every input the law returns true; each argument reads behind the call as it read before'; 0 by the template 'total and deterministic' (their statements: YtffefambdjofcaaTotals.lean).
  GIVEN WITH THE SEED: the statements are not yours to turn. If you find one false, say at which input.
  Laid BY PROGRAM, IN A SANDBOX (cutbox-rows.mjs): the forced cells as the released guide's own fill.sh prints them over the translation d572a122e96774eb… (all of the seat's roots in one cut). By AI agents, Wed Nov 11 2026. No macro, syntax, notation, axiom, sorry.
-/
import Derived.Test.YtffefambdjofcaaChecked
import GoSem.Claim
import GoSem.ClaimJoined
import GoSem.ClaimMapViews
import Derived.JoinedTies
import Derived.KernelRfl
namespace Go.Proofs.Ytffefambdjofcaa
/- THE CELL 'sum', in the pinned program and in every row, IS THE sha256 OF THE DUMP (.gsa) THAT YtffefambdjofcaaProg.lean LOADS. Nothing in Lean hashes anything: it is a label: what it is worth is what the hold of that sum in a sandbox is worth. -/
noncomputable def Try.pinned : Pinned := { name := "ytffefambdjofcaa", sum := "d572a122e96774ebf7393ae11d16588f9657bb8091e885e4625e4c35104c7a25", checked := Try.checked }
namespace Rows
def none {H : Type} : Left H := { results := [], args := [] }

/-- 'laws.FnExactBinarySort': WHATEVER THE INPUT: true; the input reads as it did. -/
def fnExactBinarySortSpec : ChangeSpec := { name := "fnExactBinarySort", fn := fun _ => fun
  | [d] => { results := [.lit (.bool true)], args := [d] }
  | _ => none }
def fnExactBinarySortRow : OpenClaim := { program := "ytffefambdjofcaa", sum := "d572a122e96774ebf7393ae11d16588f9657bb8091e885e4625e4c35104c7a25", func := "loop.example/measuredsorts/laws.FnExactBinarySort", spec := "fnExactBinarySort", unfollowed := true, recurses := true, apart := false }
def FnExactBinarySortSaid : Prop := fnExactBinarySortRow.holds Try.pinned (OpenSpec.ofChange fnExactBinarySortSpec)

/-- ITS FALSE NEIGHBOUR: 'it returns false'. Refute it at one input. -/
def fnExactBinarySortWrong : ChangeSpec := { name := "fnExactBinarySort", fn := fun _ => fun
  | [d] => { results := [.lit (.bool false)], args := [d] }
  | _ => none }
def FnExactBinarySortWrongFalsely : Prop := fnExactBinarySortRow.holds Try.pinned (OpenSpec.ofChange fnExactBinarySortWrong)

/-- 'laws.FnExactMergeKeys': WHATEVER THE INPUT: true; the input reads as it did. -/
def fnExactMergeKeysSpec : ChangeSpec := { name := "fnExactMergeKeys", fn := fun _ => fun
  | [d1, d2] => { results := [.lit (.bool true)], args := [d1, d2] }
  | _ => none }
def fnExactMergeKeysRow : OpenClaim := { program := "ytffefambdjofcaa", sum := "d572a122e96774ebf7393ae11d16588f9657bb8091e885e4625e4c35104c7a25", func := "loop.example/measuredsorts/laws.FnExactMergeKeys", spec := "fnExactMergeKeys", apart := false }
def FnExactMergeKeysSaid : Prop := fnExactMergeKeysRow.holds Try.pinned (OpenSpec.ofChange fnExactMergeKeysSpec)

/-- ITS FALSE NEIGHBOUR: 'it returns false'. Refute it at one input. -/
def fnExactMergeKeysWrong : ChangeSpec := { name := "fnExactMergeKeys", fn := fun _ => fun
  | [d1, d2] => { results := [.lit (.bool false)], args := [d1, d2] }
  | _ => none }
def FnExactMergeKeysWrongFalsely : Prop := fnExactMergeKeysRow.holds Try.pinned (OpenSpec.ofChange fnExactMergeKeysWrong)

/-- 'laws.FnExactMergeOrders': WHATEVER THE INPUT: true; the input reads as it did. -/
def fnExactMergeOrdersSpec : ChangeSpec := { name := "fnExactMergeOrders", fn := fun _ => fun
  | [d1, d2] => { results := [.lit (.bool true)], args := [d1, d2] }
  | _ => none }
def fnExactMergeOrdersRow : OpenClaim := { program := "ytffefambdjofcaa", sum := "d572a122e96774ebf7393ae11d16588f9657bb8091e885e4625e4c35104c7a25", func := "loop.example/measuredsorts/laws.FnExactMergeOrders", spec := "fnExactMergeOrders", apart := false }
def FnExactMergeOrdersSaid : Prop := fnExactMergeOrdersRow.holds Try.pinned (OpenSpec.ofChange fnExactMergeOrdersSpec)

/-- ITS FALSE NEIGHBOUR: 'it returns false'. Refute it at one input. -/
def fnExactMergeOrdersWrong : ChangeSpec := { name := "fnExactMergeOrders", fn := fun _ => fun
  | [d1, d2] => { results := [.lit (.bool false)], args := [d1, d2] }
  | _ => none }
def FnExactMergeOrdersWrongFalsely : Prop := fnExactMergeOrdersRow.holds Try.pinned (OpenSpec.ofChange fnExactMergeOrdersWrong)

/-- 'laws.FnExactFirstAt': WHATEVER THE INPUT: true; the input reads as it did. -/
def fnExactFirstAtSpec : ChangeSpec := { name := "fnExactFirstAt", fn := fun _ => fun
  | [d1, d2] => { results := [.lit (.bool true)], args := [d1, d2] }
  | _ => none }
def fnExactFirstAtRow : OpenClaim := { program := "ytffefambdjofcaa", sum := "d572a122e96774ebf7393ae11d16588f9657bb8091e885e4625e4c35104c7a25", func := "loop.example/measuredsorts/laws.FnExactFirstAt", spec := "fnExactFirstAt", unfollowed := true, recurses := true, apart := false }
def FnExactFirstAtSaid : Prop := fnExactFirstAtRow.holds Try.pinned (OpenSpec.ofChange fnExactFirstAtSpec)

/-- ITS FALSE NEIGHBOUR: 'it returns false'. Refute it at one input. -/
def fnExactFirstAtWrong : ChangeSpec := { name := "fnExactFirstAt", fn := fun _ => fun
  | [d1, d2] => { results := [.lit (.bool false)], args := [d1, d2] }
  | _ => none }
def FnExactFirstAtWrongFalsely : Prop := fnExactFirstAtRow.holds Try.pinned (OpenSpec.ofChange fnExactFirstAtWrong)

/-- 'laws.FnExactLastAt': WHATEVER THE INPUT: true; the input reads as it did. -/
def fnExactLastAtSpec : ChangeSpec := { name := "fnExactLastAt", fn := fun _ => fun
  | [d1, d2] => { results := [.lit (.bool true)], args := [d1, d2] }
  | _ => none }
def fnExactLastAtRow : OpenClaim := { program := "ytffefambdjofcaa", sum := "d572a122e96774ebf7393ae11d16588f9657bb8091e885e4625e4c35104c7a25", func := "loop.example/measuredsorts/laws.FnExactLastAt", spec := "fnExactLastAt", unfollowed := true, recurses := true, apart := false }
def FnExactLastAtSaid : Prop := fnExactLastAtRow.holds Try.pinned (OpenSpec.ofChange fnExactLastAtSpec)

/-- ITS FALSE NEIGHBOUR: 'it returns false'. Refute it at one input. -/
def fnExactLastAtWrong : ChangeSpec := { name := "fnExactLastAt", fn := fun _ => fun
  | [d1, d2] => { results := [.lit (.bool false)], args := [d1, d2] }
  | _ => none }
def FnExactLastAtWrongFalsely : Prop := fnExactLastAtRow.holds Try.pinned (OpenSpec.ofChange fnExactLastAtWrong)

/-- 'laws.FnExactPickKey': WHATEVER THE INPUT: true; the input reads as it did. -/
def fnExactPickKeySpec : ChangeSpec := { name := "fnExactPickKey", fn := fun _ => fun
  | [d1, d2] => { results := [.lit (.bool true)], args := [d1, d2] }
  | _ => none }
def fnExactPickKeyRow : OpenClaim := { program := "ytffefambdjofcaa", sum := "d572a122e96774ebf7393ae11d16588f9657bb8091e885e4625e4c35104c7a25", func := "loop.example/measuredsorts/laws.FnExactPickKey", spec := "fnExactPickKey", recurses := true, apart := false }
def FnExactPickKeySaid : Prop := fnExactPickKeyRow.holds Try.pinned (OpenSpec.ofChange fnExactPickKeySpec)

/-- ITS FALSE NEIGHBOUR: 'it returns false'. Refute it at one input. -/
def fnExactPickKeyWrong : ChangeSpec := { name := "fnExactPickKey", fn := fun _ => fun
  | [d1, d2] => { results := [.lit (.bool false)], args := [d1, d2] }
  | _ => none }
def FnExactPickKeyWrongFalsely : Prop := fnExactPickKeyRow.holds Try.pinned (OpenSpec.ofChange fnExactPickKeyWrong)

/-- 'laws.FnExactCupOf': WHATEVER THE INPUT: true; the input reads as it did. -/
def fnExactCupOfSpec : ChangeSpec := { name := "fnExactCupOf", fn := fun _ => fun
  | [d] => { results := [.lit (.bool true)], args := [d] }
  | _ => none }
def fnExactCupOfRow : OpenClaim := { program := "ytffefambdjofcaa", sum := "d572a122e96774ebf7393ae11d16588f9657bb8091e885e4625e4c35104c7a25", func := "loop.example/measuredsorts/laws.FnExactCupOf", spec := "fnExactCupOf", unfollowed := true, recurses := true, apart := false }
def FnExactCupOfSaid : Prop := fnExactCupOfRow.holds Try.pinned (OpenSpec.ofChange fnExactCupOfSpec)

/-- ITS FALSE NEIGHBOUR: 'it returns false'. Refute it at one input. -/
def fnExactCupOfWrong : ChangeSpec := { name := "fnExactCupOf", fn := fun _ => fun
  | [d] => { results := [.lit (.bool false)], args := [d] }
  | _ => none }
def FnExactCupOfWrongFalsely : Prop := fnExactCupOfRow.holds Try.pinned (OpenSpec.ofChange fnExactCupOfWrong)

/-- 'laws.FnExactSecondOf': WHATEVER THE INPUT: true; the input reads as it did. -/
def fnExactSecondOfSpec : ChangeSpec := { name := "fnExactSecondOf", fn := fun _ => fun
  | [d] => { results := [.lit (.bool true)], args := [d] }
  | _ => none }
def fnExactSecondOfRow : OpenClaim := { program := "ytffefambdjofcaa", sum := "d572a122e96774ebf7393ae11d16588f9657bb8091e885e4625e4c35104c7a25", func := "loop.example/measuredsorts/laws.FnExactSecondOf", spec := "fnExactSecondOf", unfollowed := true, recurses := true, apart := false }
def FnExactSecondOfSaid : Prop := fnExactSecondOfRow.holds Try.pinned (OpenSpec.ofChange fnExactSecondOfSpec)

/-- ITS FALSE NEIGHBOUR: 'it returns false'. Refute it at one input. -/
def fnExactSecondOfWrong : ChangeSpec := { name := "fnExactSecondOf", fn := fun _ => fun
  | [d] => { results := [.lit (.bool false)], args := [d] }
  | _ => none }
def FnExactSecondOfWrongFalsely : Prop := fnExactSecondOfRow.holds Try.pinned (OpenSpec.ofChange fnExactSecondOfWrong)

/-- 'laws.FnExactEndsOf': WHATEVER THE INPUT: true; the input reads as it did. -/
def fnExactEndsOfSpec : ChangeSpec := { name := "fnExactEndsOf", fn := fun _ => fun
  | [d] => { results := [.lit (.bool true)], args := [d] }
  | _ => none }
def fnExactEndsOfRow : OpenClaim := { program := "ytffefambdjofcaa", sum := "d572a122e96774ebf7393ae11d16588f9657bb8091e885e4625e4c35104c7a25", func := "loop.example/measuredsorts/laws.FnExactEndsOf", spec := "fnExactEndsOf", unfollowed := true, recurses := true, apart := false }
def FnExactEndsOfSaid : Prop := fnExactEndsOfRow.holds Try.pinned (OpenSpec.ofChange fnExactEndsOfSpec)

/-- ITS FALSE NEIGHBOUR: 'it returns false'. Refute it at one input. -/
def fnExactEndsOfWrong : ChangeSpec := { name := "fnExactEndsOf", fn := fun _ => fun
  | [d] => { results := [.lit (.bool false)], args := [d] }
  | _ => none }
def FnExactEndsOfWrongFalsely : Prop := fnExactEndsOfRow.holds Try.pinned (OpenSpec.ofChange fnExactEndsOfWrong)

/-- 'laws.FnExactPickOfTwo': WHATEVER THE INPUT: true; the input reads as it did. -/
def fnExactPickOfTwoSpec : ChangeSpec := { name := "fnExactPickOfTwo", fn := fun _ => fun
  | [d1, d2, d3] => { results := [.lit (.bool true)], args := [d1, d2, d3] }
  | _ => none }
def fnExactPickOfTwoRow : OpenClaim := { program := "ytffefambdjofcaa", sum := "d572a122e96774ebf7393ae11d16588f9657bb8091e885e4625e4c35104c7a25", func := "loop.example/measuredsorts/laws.FnExactPickOfTwo", spec := "fnExactPickOfTwo", apart := false }
def FnExactPickOfTwoSaid : Prop := fnExactPickOfTwoRow.holds Try.pinned (OpenSpec.ofChange fnExactPickOfTwoSpec)

/-- ITS FALSE NEIGHBOUR: 'it returns false'. Refute it at one input. -/
def fnExactPickOfTwoWrong : ChangeSpec := { name := "fnExactPickOfTwo", fn := fun _ => fun
  | [d1, d2, d3] => { results := [.lit (.bool false)], args := [d1, d2, d3] }
  | _ => none }
def FnExactPickOfTwoWrongFalsely : Prop := fnExactPickOfTwoRow.holds Try.pinned (OpenSpec.ofChange fnExactPickOfTwoWrong)

/- THE SECOND FORM. 'bulk': how many values and letters a reading holds, each counted each time it is reached (what is shared counts as often as it is met; a slice's spare places count too). A statement '..UptoSaid' is the law's where the arguments, and the package variables that the reading takes, are together of bulk at most 1048576: NARROWER than '..Said'. Prove '..Said' where nothing that the law and all that it calls make is longer than what came in: it says more and counts as full. Else prove '..UptoSaid'. A law counts once. -/
mutual
def uptoBulk {H : Type} : DataW H → Nat
  | .lit (.string bytes) => bytes.length + 1
  | .lit _ => 1
  | .nil => 1
  | .ptr d => uptoBulk d + 1
  | .slice elems spare => uptoBulkAll elems + uptoBulkAll spare + 1
  | .agg parts => uptoBulkAll parts + 1
  | .iface _ d => uptoBulk d + 1
  | .map entries => uptoBulkEntries entries + 1
  | .held _ => 1
def uptoBulkAll {H : Type} : List (DataW H) → Nat
  | [] => 0
  | d :: r => uptoBulk d + uptoBulkAll r
def uptoBulkEntries {H : Type} : List (Lit × DataW H) → Nat
  | [] => 0
  | x :: r => uptoBulkEntry x + uptoBulkEntries r
def uptoBulkEntry {H : Type} : Lit × DataW H → Nat
  | (.string bytes, d) => bytes.length + uptoBulk d + 1
  | (_, d) => uptoBulk d + 1
 end
def uptoSmall : (H : Type) → List (DataW H) → Bool := fun _ ds => decide (uptoBulkAll ds ≤ 1048576)
def OpenSpec.upto (s : _root_.Go.ChangeSpec) : _root_.Go.OpenSpec := { _root_.Go.OpenSpec.ofChange s with cond := some uptoSmall }

/-- 'laws.FnExactBinarySort', WHERE WHAT IT READS IS OF BULK AT MOST 1048576: true; the input reads as it did. -/
def fnExactBinarySortUptoRow : OpenClaim := { program := "ytffefambdjofcaa", sum := "d572a122e96774ebf7393ae11d16588f9657bb8091e885e4625e4c35104c7a25", func := "loop.example/measuredsorts/laws.FnExactBinarySort", spec := "fnExactBinarySort", unfollowed := true, recurses := true, apart := false, narrowed := true }
def FnExactBinarySortUptoSaid : Prop := fnExactBinarySortUptoRow.holds Try.pinned (OpenSpec.upto fnExactBinarySortSpec)

/-- 'laws.FnExactMergeKeys', WHERE WHAT IT READS IS OF BULK AT MOST 1048576: true; the input reads as it did. -/
def fnExactMergeKeysUptoRow : OpenClaim := { program := "ytffefambdjofcaa", sum := "d572a122e96774ebf7393ae11d16588f9657bb8091e885e4625e4c35104c7a25", func := "loop.example/measuredsorts/laws.FnExactMergeKeys", spec := "fnExactMergeKeys", apart := false, narrowed := true }
def FnExactMergeKeysUptoSaid : Prop := fnExactMergeKeysUptoRow.holds Try.pinned (OpenSpec.upto fnExactMergeKeysSpec)

/-- 'laws.FnExactMergeOrders', WHERE WHAT IT READS IS OF BULK AT MOST 1048576: true; the input reads as it did. -/
def fnExactMergeOrdersUptoRow : OpenClaim := { program := "ytffefambdjofcaa", sum := "d572a122e96774ebf7393ae11d16588f9657bb8091e885e4625e4c35104c7a25", func := "loop.example/measuredsorts/laws.FnExactMergeOrders", spec := "fnExactMergeOrders", apart := false, narrowed := true }
def FnExactMergeOrdersUptoSaid : Prop := fnExactMergeOrdersUptoRow.holds Try.pinned (OpenSpec.upto fnExactMergeOrdersSpec)

/-- 'laws.FnExactFirstAt', WHERE WHAT IT READS IS OF BULK AT MOST 1048576: true; the input reads as it did. -/
def fnExactFirstAtUptoRow : OpenClaim := { program := "ytffefambdjofcaa", sum := "d572a122e96774ebf7393ae11d16588f9657bb8091e885e4625e4c35104c7a25", func := "loop.example/measuredsorts/laws.FnExactFirstAt", spec := "fnExactFirstAt", unfollowed := true, recurses := true, apart := false, narrowed := true }
def FnExactFirstAtUptoSaid : Prop := fnExactFirstAtUptoRow.holds Try.pinned (OpenSpec.upto fnExactFirstAtSpec)

/-- 'laws.FnExactLastAt', WHERE WHAT IT READS IS OF BULK AT MOST 1048576: true; the input reads as it did. -/
def fnExactLastAtUptoRow : OpenClaim := { program := "ytffefambdjofcaa", sum := "d572a122e96774ebf7393ae11d16588f9657bb8091e885e4625e4c35104c7a25", func := "loop.example/measuredsorts/laws.FnExactLastAt", spec := "fnExactLastAt", unfollowed := true, recurses := true, apart := false, narrowed := true }
def FnExactLastAtUptoSaid : Prop := fnExactLastAtUptoRow.holds Try.pinned (OpenSpec.upto fnExactLastAtSpec)

/-- 'laws.FnExactPickKey', WHERE WHAT IT READS IS OF BULK AT MOST 1048576: true; the input reads as it did. -/
def fnExactPickKeyUptoRow : OpenClaim := { program := "ytffefambdjofcaa", sum := "d572a122e96774ebf7393ae11d16588f9657bb8091e885e4625e4c35104c7a25", func := "loop.example/measuredsorts/laws.FnExactPickKey", spec := "fnExactPickKey", recurses := true, apart := false, narrowed := true }
def FnExactPickKeyUptoSaid : Prop := fnExactPickKeyUptoRow.holds Try.pinned (OpenSpec.upto fnExactPickKeySpec)

/-- 'laws.FnExactCupOf', WHERE WHAT IT READS IS OF BULK AT MOST 1048576: true; the input reads as it did. -/
def fnExactCupOfUptoRow : OpenClaim := { program := "ytffefambdjofcaa", sum := "d572a122e96774ebf7393ae11d16588f9657bb8091e885e4625e4c35104c7a25", func := "loop.example/measuredsorts/laws.FnExactCupOf", spec := "fnExactCupOf", unfollowed := true, recurses := true, apart := false, narrowed := true }
def FnExactCupOfUptoSaid : Prop := fnExactCupOfUptoRow.holds Try.pinned (OpenSpec.upto fnExactCupOfSpec)

/-- 'laws.FnExactSecondOf', WHERE WHAT IT READS IS OF BULK AT MOST 1048576: true; the input reads as it did. -/
def fnExactSecondOfUptoRow : OpenClaim := { program := "ytffefambdjofcaa", sum := "d572a122e96774ebf7393ae11d16588f9657bb8091e885e4625e4c35104c7a25", func := "loop.example/measuredsorts/laws.FnExactSecondOf", spec := "fnExactSecondOf", unfollowed := true, recurses := true, apart := false, narrowed := true }
def FnExactSecondOfUptoSaid : Prop := fnExactSecondOfUptoRow.holds Try.pinned (OpenSpec.upto fnExactSecondOfSpec)

/-- 'laws.FnExactEndsOf', WHERE WHAT IT READS IS OF BULK AT MOST 1048576: true; the input reads as it did. -/
def fnExactEndsOfUptoRow : OpenClaim := { program := "ytffefambdjofcaa", sum := "d572a122e96774ebf7393ae11d16588f9657bb8091e885e4625e4c35104c7a25", func := "loop.example/measuredsorts/laws.FnExactEndsOf", spec := "fnExactEndsOf", unfollowed := true, recurses := true, apart := false, narrowed := true }
def FnExactEndsOfUptoSaid : Prop := fnExactEndsOfUptoRow.holds Try.pinned (OpenSpec.upto fnExactEndsOfSpec)

/-- 'laws.FnExactPickOfTwo', WHERE WHAT IT READS IS OF BULK AT MOST 1048576: true; the input reads as it did. -/
def fnExactPickOfTwoUptoRow : OpenClaim := { program := "ytffefambdjofcaa", sum := "d572a122e96774ebf7393ae11d16588f9657bb8091e885e4625e4c35104c7a25", func := "loop.example/measuredsorts/laws.FnExactPickOfTwo", spec := "fnExactPickOfTwo", apart := false, narrowed := true }
def FnExactPickOfTwoUptoSaid : Prop := fnExactPickOfTwoUptoRow.holds Try.pinned (OpenSpec.upto fnExactPickOfTwoSpec)

end Rows
end Go.Proofs.Ytffefambdjofcaa
