/-
  No cell of these rows narrows 'for every input' (looked for: loops, veiled, ifaces, maps, wideKeys, modest, calm, conditions, laid).
  DERIVED. THE GIVEN ROWS OF THIS SEAT. 10 by the template 'for every input the law returns true; each argument reads behind the call as it read before'; 0 by the template 'total and deterministic' (their statements: YtjfadbmcfgpolaaTotals.lean).
  GIVEN WITH THE SEED: the statements are not yours to turn. If you find one false, say at which input.
  Laid BY PROGRAM, IN A SANDBOX (cutbox-rows.mjs): the forced cells as the released guide's own fill.sh prints them over the translation 5fc0b2fb33ed3350… (all of the seat's roots in one cut). By AI agents, Wed Nov 11 2026. No macro, syntax, notation, axiom, sorry.
-/
import Derived.Test.YtjfadbmcfgpolaaChecked
import GoSem.Claim
import GoSem.ClaimJoined
import GoSem.ClaimMapViews
import Derived.JoinedTies
import Derived.KernelRfl
namespace Go.Proofs.Ytjfadbmcfgpolaa
/- THE CELL 'sum', in the pinned program and in every row, IS THE sha256 OF THE DUMP (.gsa) THAT YtjfadbmcfgpolaaProg.lean LOADS. Nothing in Lean hashes anything: it is a label: what it is worth is what the hold of that sum in a sandbox is worth. -/
noncomputable def Try.pinned : Pinned := { name := "ytjfadbmcfgpolaa", sum := "5fc0b2fb33ed3350948d4335c5b7ac8c30dfedb04e3ddcccd8c0b7f482309af1", checked := Try.checked }
namespace Rows
def none {H : Type} : Left H := { results := [], args := [] }

/-- 'laws.FnBinarySort': WHATEVER THE INPUT: true; the input reads as it did. -/
def fnBinarySortSpec : ChangeSpec := { name := "fnBinarySort", fn := fun _ => fun
  | [d] => { results := [.lit (.bool true)], args := [d] }
  | _ => none }
def fnBinarySortRow : OpenClaim := { program := "ytjfadbmcfgpolaa", sum := "5fc0b2fb33ed3350948d4335c5b7ac8c30dfedb04e3ddcccd8c0b7f482309af1", func := "loop.example/measuredsorts/laws.FnBinarySort", spec := "fnBinarySort", unfollowed := true, recurses := true, apart := false }
def FnBinarySortSaid : Prop := fnBinarySortRow.holds Try.pinned (OpenSpec.ofChange fnBinarySortSpec)

/-- ITS FALSE NEIGHBOUR: 'it returns false'. Refute it at one input. -/
def fnBinarySortWrong : ChangeSpec := { name := "fnBinarySort", fn := fun _ => fun
  | [d] => { results := [.lit (.bool false)], args := [d] }
  | _ => none }
def FnBinarySortWrongFalsely : Prop := fnBinarySortRow.holds Try.pinned (OpenSpec.ofChange fnBinarySortWrong)

/-- 'laws.FnMergeKeys': WHATEVER THE INPUT: true; the input reads as it did. -/
def fnMergeKeysSpec : ChangeSpec := { name := "fnMergeKeys", fn := fun _ => fun
  | [d] => { results := [.lit (.bool true)], args := [d] }
  | _ => none }
def fnMergeKeysRow : OpenClaim := { program := "ytjfadbmcfgpolaa", sum := "5fc0b2fb33ed3350948d4335c5b7ac8c30dfedb04e3ddcccd8c0b7f482309af1", func := "loop.example/measuredsorts/laws.FnMergeKeys", spec := "fnMergeKeys", apart := false }
def FnMergeKeysSaid : Prop := fnMergeKeysRow.holds Try.pinned (OpenSpec.ofChange fnMergeKeysSpec)

/-- ITS FALSE NEIGHBOUR: 'it returns false'. Refute it at one input. -/
def fnMergeKeysWrong : ChangeSpec := { name := "fnMergeKeys", fn := fun _ => fun
  | [d] => { results := [.lit (.bool false)], args := [d] }
  | _ => none }
def FnMergeKeysWrongFalsely : Prop := fnMergeKeysRow.holds Try.pinned (OpenSpec.ofChange fnMergeKeysWrong)

/-- 'laws.FnMergeOrders': WHATEVER THE INPUT: true; the input reads as it did. -/
def fnMergeOrdersSpec : ChangeSpec := { name := "fnMergeOrders", fn := fun _ => fun
  | [d] => { results := [.lit (.bool true)], args := [d] }
  | _ => none }
def fnMergeOrdersRow : OpenClaim := { program := "ytjfadbmcfgpolaa", sum := "5fc0b2fb33ed3350948d4335c5b7ac8c30dfedb04e3ddcccd8c0b7f482309af1", func := "loop.example/measuredsorts/laws.FnMergeOrders", spec := "fnMergeOrders", apart := false }
def FnMergeOrdersSaid : Prop := fnMergeOrdersRow.holds Try.pinned (OpenSpec.ofChange fnMergeOrdersSpec)

/-- ITS FALSE NEIGHBOUR: 'it returns false'. Refute it at one input. -/
def fnMergeOrdersWrong : ChangeSpec := { name := "fnMergeOrders", fn := fun _ => fun
  | [d] => { results := [.lit (.bool false)], args := [d] }
  | _ => none }
def FnMergeOrdersWrongFalsely : Prop := fnMergeOrdersRow.holds Try.pinned (OpenSpec.ofChange fnMergeOrdersWrong)

/-- 'laws.FnFirstAt': WHATEVER THE INPUT: true; the input reads as it did. -/
def fnFirstAtSpec : ChangeSpec := { name := "fnFirstAt", fn := fun _ => fun
  | [d] => { results := [.lit (.bool true)], args := [d] }
  | _ => none }
def fnFirstAtRow : OpenClaim := { program := "ytjfadbmcfgpolaa", sum := "5fc0b2fb33ed3350948d4335c5b7ac8c30dfedb04e3ddcccd8c0b7f482309af1", func := "loop.example/measuredsorts/laws.FnFirstAt", spec := "fnFirstAt", unfollowed := true, recurses := true, apart := false }
def FnFirstAtSaid : Prop := fnFirstAtRow.holds Try.pinned (OpenSpec.ofChange fnFirstAtSpec)

/-- ITS FALSE NEIGHBOUR: 'it returns false'. Refute it at one input. -/
def fnFirstAtWrong : ChangeSpec := { name := "fnFirstAt", fn := fun _ => fun
  | [d] => { results := [.lit (.bool false)], args := [d] }
  | _ => none }
def FnFirstAtWrongFalsely : Prop := fnFirstAtRow.holds Try.pinned (OpenSpec.ofChange fnFirstAtWrong)

/-- 'laws.FnLastAt': WHATEVER THE INPUT: true; the input reads as it did. -/
def fnLastAtSpec : ChangeSpec := { name := "fnLastAt", fn := fun _ => fun
  | [d] => { results := [.lit (.bool true)], args := [d] }
  | _ => none }
def fnLastAtRow : OpenClaim := { program := "ytjfadbmcfgpolaa", sum := "5fc0b2fb33ed3350948d4335c5b7ac8c30dfedb04e3ddcccd8c0b7f482309af1", func := "loop.example/measuredsorts/laws.FnLastAt", spec := "fnLastAt", unfollowed := true, recurses := true, apart := false }
def FnLastAtSaid : Prop := fnLastAtRow.holds Try.pinned (OpenSpec.ofChange fnLastAtSpec)

/-- ITS FALSE NEIGHBOUR: 'it returns false'. Refute it at one input. -/
def fnLastAtWrong : ChangeSpec := { name := "fnLastAt", fn := fun _ => fun
  | [d] => { results := [.lit (.bool false)], args := [d] }
  | _ => none }
def FnLastAtWrongFalsely : Prop := fnLastAtRow.holds Try.pinned (OpenSpec.ofChange fnLastAtWrong)

/-- 'laws.FnPickKey': WHATEVER THE INPUT: true; the input reads as it did. -/
def fnPickKeySpec : ChangeSpec := { name := "fnPickKey", fn := fun _ => fun
  | [d] => { results := [.lit (.bool true)], args := [d] }
  | _ => none }
def fnPickKeyRow : OpenClaim := { program := "ytjfadbmcfgpolaa", sum := "5fc0b2fb33ed3350948d4335c5b7ac8c30dfedb04e3ddcccd8c0b7f482309af1", func := "loop.example/measuredsorts/laws.FnPickKey", spec := "fnPickKey", recurses := true, apart := false }
def FnPickKeySaid : Prop := fnPickKeyRow.holds Try.pinned (OpenSpec.ofChange fnPickKeySpec)

/-- ITS FALSE NEIGHBOUR: 'it returns false'. Refute it at one input. -/
def fnPickKeyWrong : ChangeSpec := { name := "fnPickKey", fn := fun _ => fun
  | [d] => { results := [.lit (.bool false)], args := [d] }
  | _ => none }
def FnPickKeyWrongFalsely : Prop := fnPickKeyRow.holds Try.pinned (OpenSpec.ofChange fnPickKeyWrong)

/-- 'laws.FnCupOf': WHATEVER THE INPUT: true; the input reads as it did. -/
def fnCupOfSpec : ChangeSpec := { name := "fnCupOf", fn := fun _ => fun
  | [d] => { results := [.lit (.bool true)], args := [d] }
  | _ => none }
def fnCupOfRow : OpenClaim := { program := "ytjfadbmcfgpolaa", sum := "5fc0b2fb33ed3350948d4335c5b7ac8c30dfedb04e3ddcccd8c0b7f482309af1", func := "loop.example/measuredsorts/laws.FnCupOf", spec := "fnCupOf", unfollowed := true, recurses := true, apart := false }
def FnCupOfSaid : Prop := fnCupOfRow.holds Try.pinned (OpenSpec.ofChange fnCupOfSpec)

/-- ITS FALSE NEIGHBOUR: 'it returns false'. Refute it at one input. -/
def fnCupOfWrong : ChangeSpec := { name := "fnCupOf", fn := fun _ => fun
  | [d] => { results := [.lit (.bool false)], args := [d] }
  | _ => none }
def FnCupOfWrongFalsely : Prop := fnCupOfRow.holds Try.pinned (OpenSpec.ofChange fnCupOfWrong)

/-- 'laws.FnSecondOf': WHATEVER THE INPUT: true; the input reads as it did. -/
def fnSecondOfSpec : ChangeSpec := { name := "fnSecondOf", fn := fun _ => fun
  | [d] => { results := [.lit (.bool true)], args := [d] }
  | _ => none }
def fnSecondOfRow : OpenClaim := { program := "ytjfadbmcfgpolaa", sum := "5fc0b2fb33ed3350948d4335c5b7ac8c30dfedb04e3ddcccd8c0b7f482309af1", func := "loop.example/measuredsorts/laws.FnSecondOf", spec := "fnSecondOf", unfollowed := true, recurses := true, apart := false }
def FnSecondOfSaid : Prop := fnSecondOfRow.holds Try.pinned (OpenSpec.ofChange fnSecondOfSpec)

/-- ITS FALSE NEIGHBOUR: 'it returns false'. Refute it at one input. -/
def fnSecondOfWrong : ChangeSpec := { name := "fnSecondOf", fn := fun _ => fun
  | [d] => { results := [.lit (.bool false)], args := [d] }
  | _ => none }
def FnSecondOfWrongFalsely : Prop := fnSecondOfRow.holds Try.pinned (OpenSpec.ofChange fnSecondOfWrong)

/-- 'laws.FnEndsOf': WHATEVER THE INPUT: true; the input reads as it did. -/
def fnEndsOfSpec : ChangeSpec := { name := "fnEndsOf", fn := fun _ => fun
  | [d] => { results := [.lit (.bool true)], args := [d] }
  | _ => none }
def fnEndsOfRow : OpenClaim := { program := "ytjfadbmcfgpolaa", sum := "5fc0b2fb33ed3350948d4335c5b7ac8c30dfedb04e3ddcccd8c0b7f482309af1", func := "loop.example/measuredsorts/laws.FnEndsOf", spec := "fnEndsOf", unfollowed := true, recurses := true, apart := false }
def FnEndsOfSaid : Prop := fnEndsOfRow.holds Try.pinned (OpenSpec.ofChange fnEndsOfSpec)

/-- ITS FALSE NEIGHBOUR: 'it returns false'. Refute it at one input. -/
def fnEndsOfWrong : ChangeSpec := { name := "fnEndsOf", fn := fun _ => fun
  | [d] => { results := [.lit (.bool false)], args := [d] }
  | _ => none }
def FnEndsOfWrongFalsely : Prop := fnEndsOfRow.holds Try.pinned (OpenSpec.ofChange fnEndsOfWrong)

/-- 'laws.FnPickOfTwo': WHATEVER THE INPUT: true; the input reads as it did. -/
def fnPickOfTwoSpec : ChangeSpec := { name := "fnPickOfTwo", fn := fun _ => fun
  | [d] => { results := [.lit (.bool true)], args := [d] }
  | _ => none }
def fnPickOfTwoRow : OpenClaim := { program := "ytjfadbmcfgpolaa", sum := "5fc0b2fb33ed3350948d4335c5b7ac8c30dfedb04e3ddcccd8c0b7f482309af1", func := "loop.example/measuredsorts/laws.FnPickOfTwo", spec := "fnPickOfTwo", apart := false }
def FnPickOfTwoSaid : Prop := fnPickOfTwoRow.holds Try.pinned (OpenSpec.ofChange fnPickOfTwoSpec)

/-- ITS FALSE NEIGHBOUR: 'it returns false'. Refute it at one input. -/
def fnPickOfTwoWrong : ChangeSpec := { name := "fnPickOfTwo", fn := fun _ => fun
  | [d] => { results := [.lit (.bool false)], args := [d] }
  | _ => none }
def FnPickOfTwoWrongFalsely : Prop := fnPickOfTwoRow.holds Try.pinned (OpenSpec.ofChange fnPickOfTwoWrong)

/- THE SECOND FORM. 'bulk': how many values and letters a reading holds, each counted each time it is reached (what is shared counts as often as it is met; a slice's spare places count too). A statement '..UptoSaid' is the law's where the arguments, and the package variables that the reading takes, are together of bulk at most 1048576: NARROWER than '..Said'. Prove '..Said' where nothing that the law and all that it calls make is longer than what came in: it says more and counts as full. Else prove '..UptoSaid'. A law counts once. -/
mutual
def uptoBulk {H : Type} : DataW H → Nat
  | .lit (.string bytes) => bytes.length + 1
  | .lit _ => 1
  | .nil => 1
  | .ptr d => uptoBulk d + 1
  | .slice elems spare => uptoBulkAll elems + uptoBulkAll spare + 1
  | .agg parts => uptoBulkAll parts + 1
  | .iface _ d => uptoBulk d + 1
  | .map entries => uptoBulkEntries entries + 1
  | .held _ => 1
def uptoBulkAll {H : Type} : List (DataW H) → Nat
  | [] => 0
  | d :: r => uptoBulk d + uptoBulkAll r
def uptoBulkEntries {H : Type} : List (Lit × DataW H) → Nat
  | [] => 0
  | x :: r => uptoBulkEntry x + uptoBulkEntries r
def uptoBulkEntry {H : Type} : Lit × DataW H → Nat
  | (.string bytes, d) => bytes.length + uptoBulk d + 1
  | (_, d) => uptoBulk d + 1
 end
def uptoSmall : (H : Type) → List (DataW H) → Bool := fun _ ds => decide (uptoBulkAll ds ≤ 1048576)
def OpenSpec.upto (s : _root_.Go.ChangeSpec) : _root_.Go.OpenSpec := { _root_.Go.OpenSpec.ofChange s with cond := some uptoSmall }

/-- 'laws.FnBinarySort', WHERE WHAT IT READS IS OF BULK AT MOST 1048576: true; the input reads as it did. -/
def fnBinarySortUptoRow : OpenClaim := { program := "ytjfadbmcfgpolaa", sum := "5fc0b2fb33ed3350948d4335c5b7ac8c30dfedb04e3ddcccd8c0b7f482309af1", func := "loop.example/measuredsorts/laws.FnBinarySort", spec := "fnBinarySort", unfollowed := true, recurses := true, apart := false, narrowed := true }
def FnBinarySortUptoSaid : Prop := fnBinarySortUptoRow.holds Try.pinned (OpenSpec.upto fnBinarySortSpec)

/-- 'laws.FnMergeKeys', WHERE WHAT IT READS IS OF BULK AT MOST 1048576: true; the input reads as it did. -/
def fnMergeKeysUptoRow : OpenClaim := { program := "ytjfadbmcfgpolaa", sum := "5fc0b2fb33ed3350948d4335c5b7ac8c30dfedb04e3ddcccd8c0b7f482309af1", func := "loop.example/measuredsorts/laws.FnMergeKeys", spec := "fnMergeKeys", apart := false, narrowed := true }
def FnMergeKeysUptoSaid : Prop := fnMergeKeysUptoRow.holds Try.pinned (OpenSpec.upto fnMergeKeysSpec)

/-- 'laws.FnMergeOrders', WHERE WHAT IT READS IS OF BULK AT MOST 1048576: true; the input reads as it did. -/
def fnMergeOrdersUptoRow : OpenClaim := { program := "ytjfadbmcfgpolaa", sum := "5fc0b2fb33ed3350948d4335c5b7ac8c30dfedb04e3ddcccd8c0b7f482309af1", func := "loop.example/measuredsorts/laws.FnMergeOrders", spec := "fnMergeOrders", apart := false, narrowed := true }
def FnMergeOrdersUptoSaid : Prop := fnMergeOrdersUptoRow.holds Try.pinned (OpenSpec.upto fnMergeOrdersSpec)

/-- 'laws.FnFirstAt', WHERE WHAT IT READS IS OF BULK AT MOST 1048576: true; the input reads as it did. -/
def fnFirstAtUptoRow : OpenClaim := { program := "ytjfadbmcfgpolaa", sum := "5fc0b2fb33ed3350948d4335c5b7ac8c30dfedb04e3ddcccd8c0b7f482309af1", func := "loop.example/measuredsorts/laws.FnFirstAt", spec := "fnFirstAt", unfollowed := true, recurses := true, apart := false, narrowed := true }
def FnFirstAtUptoSaid : Prop := fnFirstAtUptoRow.holds Try.pinned (OpenSpec.upto fnFirstAtSpec)

/-- 'laws.FnLastAt', WHERE WHAT IT READS IS OF BULK AT MOST 1048576: true; the input reads as it did. -/
def fnLastAtUptoRow : OpenClaim := { program := "ytjfadbmcfgpolaa", sum := "5fc0b2fb33ed3350948d4335c5b7ac8c30dfedb04e3ddcccd8c0b7f482309af1", func := "loop.example/measuredsorts/laws.FnLastAt", spec := "fnLastAt", unfollowed := true, recurses := true, apart := false, narrowed := true }
def FnLastAtUptoSaid : Prop := fnLastAtUptoRow.holds Try.pinned (OpenSpec.upto fnLastAtSpec)

/-- 'laws.FnPickKey', WHERE WHAT IT READS IS OF BULK AT MOST 1048576: true; the input reads as it did. -/
def fnPickKeyUptoRow : OpenClaim := { program := "ytjfadbmcfgpolaa", sum := "5fc0b2fb33ed3350948d4335c5b7ac8c30dfedb04e3ddcccd8c0b7f482309af1", func := "loop.example/measuredsorts/laws.FnPickKey", spec := "fnPickKey", recurses := true, apart := false, narrowed := true }
def FnPickKeyUptoSaid : Prop := fnPickKeyUptoRow.holds Try.pinned (OpenSpec.upto fnPickKeySpec)

/-- 'laws.FnCupOf', WHERE WHAT IT READS IS OF BULK AT MOST 1048576: true; the input reads as it did. -/
def fnCupOfUptoRow : OpenClaim := { program := "ytjfadbmcfgpolaa", sum := "5fc0b2fb33ed3350948d4335c5b7ac8c30dfedb04e3ddcccd8c0b7f482309af1", func := "loop.example/measuredsorts/laws.FnCupOf", spec := "fnCupOf", unfollowed := true, recurses := true, apart := false, narrowed := true }
def FnCupOfUptoSaid : Prop := fnCupOfUptoRow.holds Try.pinned (OpenSpec.upto fnCupOfSpec)

/-- 'laws.FnSecondOf', WHERE WHAT IT READS IS OF BULK AT MOST 1048576: true; the input reads as it did. -/
def fnSecondOfUptoRow : OpenClaim := { program := "ytjfadbmcfgpolaa", sum := "5fc0b2fb33ed3350948d4335c5b7ac8c30dfedb04e3ddcccd8c0b7f482309af1", func := "loop.example/measuredsorts/laws.FnSecondOf", spec := "fnSecondOf", unfollowed := true, recurses := true, apart := false, narrowed := true }
def FnSecondOfUptoSaid : Prop := fnSecondOfUptoRow.holds Try.pinned (OpenSpec.upto fnSecondOfSpec)

/-- 'laws.FnEndsOf', WHERE WHAT IT READS IS OF BULK AT MOST 1048576: true; the input reads as it did. -/
def fnEndsOfUptoRow : OpenClaim := { program := "ytjfadbmcfgpolaa", sum := "5fc0b2fb33ed3350948d4335c5b7ac8c30dfedb04e3ddcccd8c0b7f482309af1", func := "loop.example/measuredsorts/laws.FnEndsOf", spec := "fnEndsOf", unfollowed := true, recurses := true, apart := false, narrowed := true }
def FnEndsOfUptoSaid : Prop := fnEndsOfUptoRow.holds Try.pinned (OpenSpec.upto fnEndsOfSpec)

/-- 'laws.FnPickOfTwo', WHERE WHAT IT READS IS OF BULK AT MOST 1048576: true; the input reads as it did. -/
def fnPickOfTwoUptoRow : OpenClaim := { program := "ytjfadbmcfgpolaa", sum := "5fc0b2fb33ed3350948d4335c5b7ac8c30dfedb04e3ddcccd8c0b7f482309af1", func := "loop.example/measuredsorts/laws.FnPickOfTwo", spec := "fnPickOfTwo", apart := false, narrowed := true }
def FnPickOfTwoUptoSaid : Prop := fnPickOfTwoUptoRow.holds Try.pinned (OpenSpec.upto fnPickOfTwoSpec)

end Rows
end Go.Proofs.Ytjfadbmcfgpolaa
