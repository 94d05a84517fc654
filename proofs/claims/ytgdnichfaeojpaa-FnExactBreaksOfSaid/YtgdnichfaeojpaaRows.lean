/-
  No cell of these rows narrows 'for every input' (looked for: loops, veiled, ifaces, maps, wideKeys, modest, calm, conditions, laid).
  DERIVED. THE GIVEN ROWS OF THIS SEAT. 9 by the template 'for every input the law returns true; each argument reads behind the call as it read before'; 0 by the template 'total and deterministic' (their statements: YtgdnichfaeojpaaTotals.lean).
  GIVEN WITH THE SEED: the statements are not yours to turn. If you find one false, say at which input.
  Laid BY PROGRAM, IN A SANDBOX (cutbox-rows.mjs): the forced cells as the released guide's own fill.sh prints them over the translation 56729179534bd3e6… (all of the seat's roots in one cut). By AI agents, Wed Nov 11 2026. No macro, syntax, notation, axiom, sorry.
-/
import Derived.Test.YtgdnichfaeojpaaChecked
import GoSem.Claim
import GoSem.ClaimJoined
import GoSem.ClaimMapViews
import Derived.JoinedTies
import Derived.KernelRfl
namespace Go.Proofs.Ytgdnichfaeojpaa
/- THE CELL 'sum', in the pinned program and in every row, IS THE sha256 OF THE DUMP (.gsa) THAT YtgdnichfaeojpaaProg.lean LOADS. Nothing in Lean hashes anything: it is a label: what it is worth is what the hold of that sum in a sandbox is worth. -/
noncomputable def Try.pinned : Pinned := { name := "ytgdnichfaeojpaa", sum := "56729179534bd3e68d787a0ffac884a1d70d4f808d1a924cad9d331de320557a", checked := Try.checked }
namespace Rows
def none {H : Type} : Left H := { results := [], args := [] }

/-- 'laws.FnLongestRise': WHATEVER THE INPUT: true; the input reads as it did. -/
def fnLongestRiseSpec : ChangeSpec := { name := "fnLongestRise", fn := fun _ => fun
  | [d] => { results := [.lit (.bool true)], args := [d] }
  | _ => none }
def fnLongestRiseRow : OpenClaim := { program := "ytgdnichfaeojpaa", sum := "56729179534bd3e68d787a0ffac884a1d70d4f808d1a924cad9d331de320557a", func := "loop.example/measuredsorts/laws.FnLongestRise", spec := "fnLongestRise", unfollowed := true, recurses := true, apart := false }
def FnLongestRiseSaid : Prop := fnLongestRiseRow.holds Try.pinned (OpenSpec.ofChange fnLongestRiseSpec)

/-- ITS FALSE NEIGHBOUR: 'it returns false'. Refute it at one input. -/
def fnLongestRiseWrong : ChangeSpec := { name := "fnLongestRise", fn := fun _ => fun
  | [d] => { results := [.lit (.bool false)], args := [d] }
  | _ => none }
def FnLongestRiseWrongFalsely : Prop := fnLongestRiseRow.holds Try.pinned (OpenSpec.ofChange fnLongestRiseWrong)

/-- 'laws.FnRemovalsOf': WHATEVER THE INPUT: true; the input reads as it did. -/
def fnRemovalsOfSpec : ChangeSpec := { name := "fnRemovalsOf", fn := fun _ => fun
  | [d] => { results := [.lit (.bool true)], args := [d] }
  | _ => none }
def fnRemovalsOfRow : OpenClaim := { program := "ytgdnichfaeojpaa", sum := "56729179534bd3e68d787a0ffac884a1d70d4f808d1a924cad9d331de320557a", func := "loop.example/measuredsorts/laws.FnRemovalsOf", spec := "fnRemovalsOf", unfollowed := true, recurses := true, apart := false }
def FnRemovalsOfSaid : Prop := fnRemovalsOfRow.holds Try.pinned (OpenSpec.ofChange fnRemovalsOfSpec)

/-- ITS FALSE NEIGHBOUR: 'it returns false'. Refute it at one input. -/
def fnRemovalsOfWrong : ChangeSpec := { name := "fnRemovalsOf", fn := fun _ => fun
  | [d] => { results := [.lit (.bool false)], args := [d] }
  | _ => none }
def FnRemovalsOfWrongFalsely : Prop := fnRemovalsOfRow.holds Try.pinned (OpenSpec.ofChange fnRemovalsOfWrong)

/-- 'laws.FnExchangesOf': WHATEVER THE INPUT: true; the input reads as it did. -/
def fnExchangesOfSpec : ChangeSpec := { name := "fnExchangesOf", fn := fun _ => fun
  | [d] => { results := [.lit (.bool true)], args := [d] }
  | _ => none }
def fnExchangesOfRow : OpenClaim := { program := "ytgdnichfaeojpaa", sum := "56729179534bd3e68d787a0ffac884a1d70d4f808d1a924cad9d331de320557a", func := "loop.example/measuredsorts/laws.FnExchangesOf", spec := "fnExchangesOf", apart := false }
def FnExchangesOfSaid : Prop := fnExchangesOfRow.holds Try.pinned (OpenSpec.ofChange fnExchangesOfSpec)

/-- ITS FALSE NEIGHBOUR: 'it returns false'. Refute it at one input. -/
def fnExchangesOfWrong : ChangeSpec := { name := "fnExchangesOf", fn := fun _ => fun
  | [d] => { results := [.lit (.bool false)], args := [d] }
  | _ => none }
def FnExchangesOfWrongFalsely : Prop := fnExchangesOfRow.holds Try.pinned (OpenSpec.ofChange fnExchangesOfWrong)

/-- 'laws.FnFarthestOf': WHATEVER THE INPUT: true; the input reads as it did. -/
def fnFarthestOfSpec : ChangeSpec := { name := "fnFarthestOf", fn := fun _ => fun
  | [d] => { results := [.lit (.bool true)], args := [d] }
  | _ => none }
def fnFarthestOfRow : OpenClaim := { program := "ytgdnichfaeojpaa", sum := "56729179534bd3e68d787a0ffac884a1d70d4f808d1a924cad9d331de320557a", func := "loop.example/measuredsorts/laws.FnFarthestOf", spec := "fnFarthestOf", apart := false }
def FnFarthestOfSaid : Prop := fnFarthestOfRow.holds Try.pinned (OpenSpec.ofChange fnFarthestOfSpec)

/-- ITS FALSE NEIGHBOUR: 'it returns false'. Refute it at one input. -/
def fnFarthestOfWrong : ChangeSpec := { name := "fnFarthestOf", fn := fun _ => fun
  | [d] => { results := [.lit (.bool false)], args := [d] }
  | _ => none }
def FnFarthestOfWrongFalsely : Prop := fnFarthestOfRow.holds Try.pinned (OpenSpec.ofChange fnFarthestOfWrong)

/-- 'laws.FnWidestOf': WHATEVER THE INPUT: true; the input reads as it did. -/
def fnWidestOfSpec : ChangeSpec := { name := "fnWidestOf", fn := fun _ => fun
  | [d] => { results := [.lit (.bool true)], args := [d] }
  | _ => none }
def fnWidestOfRow : OpenClaim := { program := "ytgdnichfaeojpaa", sum := "56729179534bd3e68d787a0ffac884a1d70d4f808d1a924cad9d331de320557a", func := "loop.example/measuredsorts/laws.FnWidestOf", spec := "fnWidestOf", apart := false }
def FnWidestOfSaid : Prop := fnWidestOfRow.holds Try.pinned (OpenSpec.ofChange fnWidestOfSpec)

/-- ITS FALSE NEIGHBOUR: 'it returns false'. Refute it at one input. -/
def fnWidestOfWrong : ChangeSpec := { name := "fnWidestOf", fn := fun _ => fun
  | [d] => { results := [.lit (.bool false)], args := [d] }
  | _ => none }
def FnWidestOfWrongFalsely : Prop := fnWidestOfRow.holds Try.pinned (OpenSpec.ofChange fnWidestOfWrong)

/-- 'laws.FnLongestFall': WHATEVER THE INPUT: true; the input reads as it did. -/
def fnLongestFallSpec : ChangeSpec := { name := "fnLongestFall", fn := fun _ => fun
  | [d] => { results := [.lit (.bool true)], args := [d] }
  | _ => none }
def fnLongestFallRow : OpenClaim := { program := "ytgdnichfaeojpaa", sum := "56729179534bd3e68d787a0ffac884a1d70d4f808d1a924cad9d331de320557a", func := "loop.example/measuredsorts/laws.FnLongestFall", spec := "fnLongestFall", unfollowed := true, recurses := true, apart := false }
def FnLongestFallSaid : Prop := fnLongestFallRow.holds Try.pinned (OpenSpec.ofChange fnLongestFallSpec)

/-- ITS FALSE NEIGHBOUR: 'it returns false'. Refute it at one input. -/
def fnLongestFallWrong : ChangeSpec := { name := "fnLongestFall", fn := fun _ => fun
  | [d] => { results := [.lit (.bool false)], args := [d] }
  | _ => none }
def FnLongestFallWrongFalsely : Prop := fnLongestFallRow.holds Try.pinned (OpenSpec.ofChange fnLongestFallWrong)

/-- 'laws.FnSwingsOf': WHATEVER THE INPUT: true; the input reads as it did. -/
def fnSwingsOfSpec : ChangeSpec := { name := "fnSwingsOf", fn := fun _ => fun
  | [d] => { results := [.lit (.bool true)], args := [d] }
  | _ => none }
def fnSwingsOfRow : OpenClaim := { program := "ytgdnichfaeojpaa", sum := "56729179534bd3e68d787a0ffac884a1d70d4f808d1a924cad9d331de320557a", func := "loop.example/measuredsorts/laws.FnSwingsOf", spec := "fnSwingsOf", apart := false }
def FnSwingsOfSaid : Prop := fnSwingsOfRow.holds Try.pinned (OpenSpec.ofChange fnSwingsOfSpec)

/-- ITS FALSE NEIGHBOUR: 'it returns false'. Refute it at one input. -/
def fnSwingsOfWrong : ChangeSpec := { name := "fnSwingsOf", fn := fun _ => fun
  | [d] => { results := [.lit (.bool false)], args := [d] }
  | _ => none }
def FnSwingsOfWrongFalsely : Prop := fnSwingsOfRow.holds Try.pinned (OpenSpec.ofChange fnSwingsOfWrong)

/-- 'laws.FnBreaksOf': WHATEVER THE INPUT: true; the input reads as it did. -/
def fnBreaksOfSpec : ChangeSpec := { name := "fnBreaksOf", fn := fun _ => fun
  | [d] => { results := [.lit (.bool true)], args := [d] }
  | _ => none }
def fnBreaksOfRow : OpenClaim := { program := "ytgdnichfaeojpaa", sum := "56729179534bd3e68d787a0ffac884a1d70d4f808d1a924cad9d331de320557a", func := "loop.example/measuredsorts/laws.FnBreaksOf", spec := "fnBreaksOf", unfollowed := true, recurses := true, apart := false }
def FnBreaksOfSaid : Prop := fnBreaksOfRow.holds Try.pinned (OpenSpec.ofChange fnBreaksOfSpec)

/-- ITS FALSE NEIGHBOUR: 'it returns false'. Refute it at one input. -/
def fnBreaksOfWrong : ChangeSpec := { name := "fnBreaksOf", fn := fun _ => fun
  | [d] => { results := [.lit (.bool false)], args := [d] }
  | _ => none }
def FnBreaksOfWrongFalsely : Prop := fnBreaksOfRow.holds Try.pinned (OpenSpec.ofChange fnBreaksOfWrong)

/-- 'laws.FnExactBreaksOf': WHATEVER THE INPUT: true; the input reads as it did. -/
def fnExactBreaksOfSpec : ChangeSpec := { name := "fnExactBreaksOf", fn := fun _ => fun
  | [d] => { results := [.lit (.bool true)], args := [d] }
  | _ => none }
def fnExactBreaksOfRow : OpenClaim := { program := "ytgdnichfaeojpaa", sum := "56729179534bd3e68d787a0ffac884a1d70d4f808d1a924cad9d331de320557a", func := "loop.example/measuredsorts/laws.FnExactBreaksOf", spec := "fnExactBreaksOf", unfollowed := true, recurses := true, apart := false }
def FnExactBreaksOfSaid : Prop := fnExactBreaksOfRow.holds Try.pinned (OpenSpec.ofChange fnExactBreaksOfSpec)

/-- ITS FALSE NEIGHBOUR: 'it returns false'. Refute it at one input. -/
def fnExactBreaksOfWrong : ChangeSpec := { name := "fnExactBreaksOf", fn := fun _ => fun
  | [d] => { results := [.lit (.bool false)], args := [d] }
  | _ => none }
def FnExactBreaksOfWrongFalsely : Prop := fnExactBreaksOfRow.holds Try.pinned (OpenSpec.ofChange fnExactBreaksOfWrong)

/- THE SECOND FORM. 'bulk': how many values and letters a reading holds, each counted each time it is reached (what is shared counts as often as it is met; a slice's spare places count too). A statement '..UptoSaid' is the law's where the arguments, and the package variables that the reading takes, are together of bulk at most 1048576: NARROWER than '..Said'. Prove '..Said' where nothing that the law and all that it calls make is longer than what came in: it says more and counts as full. Else prove '..UptoSaid'. A law counts once. -/
mutual
def uptoBulk {H : Type} : DataW H → Nat
  | .lit (.string bytes) => bytes.length + 1
  | .lit _ => 1
  | .nil => 1
  | .ptr d => uptoBulk d + 1
  | .slice elems spare => uptoBulkAll elems + uptoBulkAll spare + 1
  | .agg parts => uptoBulkAll parts + 1
  | .iface _ d => uptoBulk d + 1
  | .map entries => uptoBulkEntries entries + 1
  | .held _ => 1
def uptoBulkAll {H : Type} : List (DataW H) → Nat
  | [] => 0
  | d :: r => uptoBulk d + uptoBulkAll r
def uptoBulkEntries {H : Type} : List (Lit × DataW H) → Nat
  | [] => 0
  | x :: r => uptoBulkEntry x + uptoBulkEntries r
def uptoBulkEntry {H : Type} : Lit × DataW H → Nat
  | (.string bytes, d) => bytes.length + uptoBulk d + 1
  | (_, d) => uptoBulk d + 1
 end
def uptoSmall : (H : Type) → List (DataW H) → Bool := fun _ ds => decide (uptoBulkAll ds ≤ 1048576)
def OpenSpec.upto (s : _root_.Go.ChangeSpec) : _root_.Go.OpenSpec := { _root_.Go.OpenSpec.ofChange s with cond := some uptoSmall }

/-- 'laws.FnLongestRise', WHERE WHAT IT READS IS OF BULK AT MOST 1048576: true; the input reads as it did. -/
def fnLongestRiseUptoRow : OpenClaim := { program := "ytgdnichfaeojpaa", sum := "56729179534bd3e68d787a0ffac884a1d70d4f808d1a924cad9d331de320557a", func := "loop.example/measuredsorts/laws.FnLongestRise", spec := "fnLongestRise", unfollowed := true, recurses := true, apart := false, narrowed := true }
def FnLongestRiseUptoSaid : Prop := fnLongestRiseUptoRow.holds Try.pinned (OpenSpec.upto fnLongestRiseSpec)

/-- 'laws.FnRemovalsOf', WHERE WHAT IT READS IS OF BULK AT MOST 1048576: true; the input reads as it did. -/
def fnRemovalsOfUptoRow : OpenClaim := { program := "ytgdnichfaeojpaa", sum := "56729179534bd3e68d787a0ffac884a1d70d4f808d1a924cad9d331de320557a", func := "loop.example/measuredsorts/laws.FnRemovalsOf", spec := "fnRemovalsOf", unfollowed := true, recurses := true, apart := false, narrowed := true }
def FnRemovalsOfUptoSaid : Prop := fnRemovalsOfUptoRow.holds Try.pinned (OpenSpec.upto fnRemovalsOfSpec)

/-- 'laws.FnExchangesOf', WHERE WHAT IT READS IS OF BULK AT MOST 1048576: true; the input reads as it did. -/
def fnExchangesOfUptoRow : OpenClaim := { program := "ytgdnichfaeojpaa", sum := "56729179534bd3e68d787a0ffac884a1d70d4f808d1a924cad9d331de320557a", func := "loop.example/measuredsorts/laws.FnExchangesOf", spec := "fnExchangesOf", apart := false, narrowed := true }
def FnExchangesOfUptoSaid : Prop := fnExchangesOfUptoRow.holds Try.pinned (OpenSpec.upto fnExchangesOfSpec)

/-- 'laws.FnFarthestOf', WHERE WHAT IT READS IS OF BULK AT MOST 1048576: true; the input reads as it did. -/
def fnFarthestOfUptoRow : OpenClaim := { program := "ytgdnichfaeojpaa", sum := "56729179534bd3e68d787a0ffac884a1d70d4f808d1a924cad9d331de320557a", func := "loop.example/measuredsorts/laws.FnFarthestOf", spec := "fnFarthestOf", apart := false, narrowed := true }
def FnFarthestOfUptoSaid : Prop := fnFarthestOfUptoRow.holds Try.pinned (OpenSpec.upto fnFarthestOfSpec)

/-- 'laws.FnWidestOf', WHERE WHAT IT READS IS OF BULK AT MOST 1048576: true; the input reads as it did. -/
def fnWidestOfUptoRow : OpenClaim := { program := "ytgdnichfaeojpaa", sum := "56729179534bd3e68d787a0ffac884a1d70d4f808d1a924cad9d331de320557a", func := "loop.example/measuredsorts/laws.FnWidestOf", spec := "fnWidestOf", apart := false, narrowed := true }
def FnWidestOfUptoSaid : Prop := fnWidestOfUptoRow.holds Try.pinned (OpenSpec.upto fnWidestOfSpec)

/-- 'laws.FnLongestFall', WHERE WHAT IT READS IS OF BULK AT MOST 1048576: true; the input reads as it did. -/
def fnLongestFallUptoRow : OpenClaim := { program := "ytgdnichfaeojpaa", sum := "56729179534bd3e68d787a0ffac884a1d70d4f808d1a924cad9d331de320557a", func := "loop.example/measuredsorts/laws.FnLongestFall", spec := "fnLongestFall", unfollowed := true, recurses := true, apart := false, narrowed := true }
def FnLongestFallUptoSaid : Prop := fnLongestFallUptoRow.holds Try.pinned (OpenSpec.upto fnLongestFallSpec)

/-- 'laws.FnSwingsOf', WHERE WHAT IT READS IS OF BULK AT MOST 1048576: true; the input reads as it did. -/
def fnSwingsOfUptoRow : OpenClaim := { program := "ytgdnichfaeojpaa", sum := "56729179534bd3e68d787a0ffac884a1d70d4f808d1a924cad9d331de320557a", func := "loop.example/measuredsorts/laws.FnSwingsOf", spec := "fnSwingsOf", apart := false, narrowed := true }
def FnSwingsOfUptoSaid : Prop := fnSwingsOfUptoRow.holds Try.pinned (OpenSpec.upto fnSwingsOfSpec)

/-- 'laws.FnBreaksOf', WHERE WHAT IT READS IS OF BULK AT MOST 1048576: true; the input reads as it did. -/
def fnBreaksOfUptoRow : OpenClaim := { program := "ytgdnichfaeojpaa", sum := "56729179534bd3e68d787a0ffac884a1d70d4f808d1a924cad9d331de320557a", func := "loop.example/measuredsorts/laws.FnBreaksOf", spec := "fnBreaksOf", unfollowed := true, recurses := true, apart := false, narrowed := true }
def FnBreaksOfUptoSaid : Prop := fnBreaksOfUptoRow.holds Try.pinned (OpenSpec.upto fnBreaksOfSpec)

/-- 'laws.FnExactBreaksOf', WHERE WHAT IT READS IS OF BULK AT MOST 1048576: true; the input reads as it did. -/
def fnExactBreaksOfUptoRow : OpenClaim := { program := "ytgdnichfaeojpaa", sum := "56729179534bd3e68d787a0ffac884a1d70d4f808d1a924cad9d331de320557a", func := "loop.example/measuredsorts/laws.FnExactBreaksOf", spec := "fnExactBreaksOf", unfollowed := true, recurses := true, apart := false, narrowed := true }
def FnExactBreaksOfUptoSaid : Prop := fnExactBreaksOfUptoRow.holds Try.pinned (OpenSpec.upto fnExactBreaksOfSpec)

end Rows
end Go.Proofs.Ytgdnichfaeojpaa
