/-
  No cell of these rows narrows 'for every input' (looked for: loops, veiled, ifaces, maps, wideKeys, modest, calm, conditions, laid).
  DERIVED. THE GIVEN ROWS OF THIS SEAT. 10 by the template 'for every input the law returns true; each argument reads behind the call as it read before'; 0 by the template 'total and deterministic' (their statements: YtbjbehphdkaahaaTotals.lean).
  GIVEN WITH THE SEED: the statements are not yours to turn. If you find one false, say at which input.
  Laid BY PROGRAM, IN A SANDBOX (cutbox-rows.mjs): the forced cells as the released guide's own fill.sh prints them over the translation 9babe9fbded232ec… (all of the seat's roots in one cut). By AI agents, Wed Nov 11 2026. No macro, syntax, notation, axiom, sorry.
-/
import Derived.Test.YtbjbehphdkaahaaChecked
import GoSem.Claim
import GoSem.ClaimJoined
import GoSem.ClaimMapViews
import Derived.JoinedTies
import Derived.KernelRfl
namespace Go.Proofs.Ytbjbehphdkaahaa
/- THE CELL 'sum', in the pinned program and in every row, IS THE sha256 OF THE DUMP (.gsa) THAT YtbjbehphdkaahaaProg.lean LOADS. Nothing in Lean hashes anything: it is a label: what it is worth is what the hold of that sum in a sandbox is worth. -/
noncomputable def Try.pinned : Pinned := { name := "ytbjbehphdkaahaa", sum := "9babe9fbded232ecc07b63af9598890cd0e483b9abc9efc766601ec89dd7da96", checked := Try.checked }
namespace Rows
def none {H : Type} : Left H := { results := [], args := [] }

/-- 'laws.FnSets': WHATEVER THE INPUT: true; the input reads as it did. -/
def fnSetsSpec : ChangeSpec := { name := "fnSets", fn := fun _ => fun
  | [d] => { results := [.lit (.bool true)], args := [d] }
  | _ => none }
def fnSetsRow : OpenClaim := { program := "ytbjbehphdkaahaa", sum := "9babe9fbded232ecc07b63af9598890cd0e483b9abc9efc766601ec89dd7da96", func := "loop.example/g00391/laws.FnSets", spec := "fnSets", unfollowed := true, recurses := true, apart := false }
def FnSetsSaid : Prop := fnSetsRow.holds Try.pinned (OpenSpec.ofChange fnSetsSpec)

/-- ITS FALSE NEIGHBOUR: 'it returns false'. Refute it at one input. -/
def fnSetsWrong : ChangeSpec := { name := "fnSets", fn := fun _ => fun
  | [d] => { results := [.lit (.bool false)], args := [d] }
  | _ => none }
def FnSetsWrongFalsely : Prop := fnSetsRow.holds Try.pinned (OpenSpec.ofChange fnSetsWrong)

/-- 'laws.FnAddDrop': WHATEVER THE INPUT: true; the input reads as it did. -/
def fnAddDropSpec : ChangeSpec := { name := "fnAddDrop", fn := fun _ => fun
  | [d] => { results := [.lit (.bool true)], args := [d] }
  | _ => none }
def fnAddDropRow : OpenClaim := { program := "ytbjbehphdkaahaa", sum := "9babe9fbded232ecc07b63af9598890cd0e483b9abc9efc766601ec89dd7da96", func := "loop.example/g00391/laws.FnAddDrop", spec := "fnAddDrop", unfollowed := true, recurses := true, apart := false }
def FnAddDropSaid : Prop := fnAddDropRow.holds Try.pinned (OpenSpec.ofChange fnAddDropSpec)

/-- ITS FALSE NEIGHBOUR: 'it returns false'. Refute it at one input. -/
def fnAddDropWrong : ChangeSpec := { name := "fnAddDrop", fn := fun _ => fun
  | [d] => { results := [.lit (.bool false)], args := [d] }
  | _ => none }
def FnAddDropWrongFalsely : Prop := fnAddDropRow.holds Try.pinned (OpenSpec.ofChange fnAddDropWrong)

/-- 'laws.FnExactRelOk': WHATEVER THE INPUT: true; the input reads as it did. -/
def fnExactRelOkSpec : ChangeSpec := { name := "fnExactRelOk", fn := fun _ => fun
  | [d] => { results := [.lit (.bool true)], args := [d] }
  | _ => none }
def fnExactRelOkRow : OpenClaim := { program := "ytbjbehphdkaahaa", sum := "9babe9fbded232ecc07b63af9598890cd0e483b9abc9efc766601ec89dd7da96", func := "loop.example/g00391/laws.FnExactRelOk", spec := "fnExactRelOk", unfollowed := true, recurses := true, apart := false }
def FnExactRelOkSaid : Prop := fnExactRelOkRow.holds Try.pinned (OpenSpec.ofChange fnExactRelOkSpec)

/-- ITS FALSE NEIGHBOUR: 'it returns false'. Refute it at one input. -/
def fnExactRelOkWrong : ChangeSpec := { name := "fnExactRelOk", fn := fun _ => fun
  | [d] => { results := [.lit (.bool false)], args := [d] }
  | _ => none }
def FnExactRelOkWrongFalsely : Prop := fnExactRelOkRow.holds Try.pinned (OpenSpec.ofChange fnExactRelOkWrong)

/-- 'laws.FnExactRelHas': WHATEVER THE INPUT: true; the input reads as it did. -/
def fnExactRelHasSpec : ChangeSpec := { name := "fnExactRelHas", fn := fun _ => fun
  | [d1, d2] => { results := [.lit (.bool true)], args := [d1, d2] }
  | _ => none }
def fnExactRelHasRow : OpenClaim := { program := "ytbjbehphdkaahaa", sum := "9babe9fbded232ecc07b63af9598890cd0e483b9abc9efc766601ec89dd7da96", func := "loop.example/g00391/laws.FnExactRelHas", spec := "fnExactRelHas", unfollowed := true, recurses := true, apart := false }
def FnExactRelHasSaid : Prop := fnExactRelHasRow.holds Try.pinned (OpenSpec.ofChange fnExactRelHasSpec)

/-- ITS FALSE NEIGHBOUR: 'it returns false'. Refute it at one input. -/
def fnExactRelHasWrong : ChangeSpec := { name := "fnExactRelHas", fn := fun _ => fun
  | [d1, d2] => { results := [.lit (.bool false)], args := [d1, d2] }
  | _ => none }
def FnExactRelHasWrongFalsely : Prop := fnExactRelHasRow.holds Try.pinned (OpenSpec.ofChange fnExactRelHasWrong)

/-- 'laws.FnExactRelAdd': WHATEVER THE INPUT: true; the input reads as it did. -/
def fnExactRelAddSpec : ChangeSpec := { name := "fnExactRelAdd", fn := fun _ => fun
  | [d1, d2] => { results := [.lit (.bool true)], args := [d1, d2] }
  | _ => none }
def fnExactRelAddRow : OpenClaim := { program := "ytbjbehphdkaahaa", sum := "9babe9fbded232ecc07b63af9598890cd0e483b9abc9efc766601ec89dd7da96", func := "loop.example/g00391/laws.FnExactRelAdd", spec := "fnExactRelAdd", unfollowed := true, recurses := true, apart := false }
def FnExactRelAddSaid : Prop := fnExactRelAddRow.holds Try.pinned (OpenSpec.ofChange fnExactRelAddSpec)

/-- ITS FALSE NEIGHBOUR: 'it returns false'. Refute it at one input. -/
def fnExactRelAddWrong : ChangeSpec := { name := "fnExactRelAdd", fn := fun _ => fun
  | [d1, d2] => { results := [.lit (.bool false)], args := [d1, d2] }
  | _ => none }
def FnExactRelAddWrongFalsely : Prop := fnExactRelAddRow.holds Try.pinned (OpenSpec.ofChange fnExactRelAddWrong)

/-- 'laws.FnExactRelDrop': WHATEVER THE INPUT: true; the input reads as it did. -/
def fnExactRelDropSpec : ChangeSpec := { name := "fnExactRelDrop", fn := fun _ => fun
  | [d1, d2] => { results := [.lit (.bool true)], args := [d1, d2] }
  | _ => none }
def fnExactRelDropRow : OpenClaim := { program := "ytbjbehphdkaahaa", sum := "9babe9fbded232ecc07b63af9598890cd0e483b9abc9efc766601ec89dd7da96", func := "loop.example/g00391/laws.FnExactRelDrop", spec := "fnExactRelDrop", unfollowed := true, recurses := true, apart := false }
def FnExactRelDropSaid : Prop := fnExactRelDropRow.holds Try.pinned (OpenSpec.ofChange fnExactRelDropSpec)

/-- ITS FALSE NEIGHBOUR: 'it returns false'. Refute it at one input. -/
def fnExactRelDropWrong : ChangeSpec := { name := "fnExactRelDrop", fn := fun _ => fun
  | [d1, d2] => { results := [.lit (.bool false)], args := [d1, d2] }
  | _ => none }
def FnExactRelDropWrongFalsely : Prop := fnExactRelDropRow.holds Try.pinned (OpenSpec.ofChange fnExactRelDropWrong)

/-- 'laws.FnExactRelUnion': WHATEVER THE INPUT: true; the input reads as it did. -/
def fnExactRelUnionSpec : ChangeSpec := { name := "fnExactRelUnion", fn := fun _ => fun
  | [d1, d2] => { results := [.lit (.bool true)], args := [d1, d2] }
  | _ => none }
def fnExactRelUnionRow : OpenClaim := { program := "ytbjbehphdkaahaa", sum := "9babe9fbded232ecc07b63af9598890cd0e483b9abc9efc766601ec89dd7da96", func := "loop.example/g00391/laws.FnExactRelUnion", spec := "fnExactRelUnion", unfollowed := true, recurses := true, apart := false }
def FnExactRelUnionSaid : Prop := fnExactRelUnionRow.holds Try.pinned (OpenSpec.ofChange fnExactRelUnionSpec)

/-- ITS FALSE NEIGHBOUR: 'it returns false'. Refute it at one input. -/
def fnExactRelUnionWrong : ChangeSpec := { name := "fnExactRelUnion", fn := fun _ => fun
  | [d1, d2] => { results := [.lit (.bool false)], args := [d1, d2] }
  | _ => none }
def FnExactRelUnionWrongFalsely : Prop := fnExactRelUnionRow.holds Try.pinned (OpenSpec.ofChange fnExactRelUnionWrong)

/-- 'laws.FnExactRelMinus': WHATEVER THE INPUT: true; the input reads as it did. -/
def fnExactRelMinusSpec : ChangeSpec := { name := "fnExactRelMinus", fn := fun _ => fun
  | [d1, d2] => { results := [.lit (.bool true)], args := [d1, d2] }
  | _ => none }
def fnExactRelMinusRow : OpenClaim := { program := "ytbjbehphdkaahaa", sum := "9babe9fbded232ecc07b63af9598890cd0e483b9abc9efc766601ec89dd7da96", func := "loop.example/g00391/laws.FnExactRelMinus", spec := "fnExactRelMinus", unfollowed := true, recurses := true, apart := false }
def FnExactRelMinusSaid : Prop := fnExactRelMinusRow.holds Try.pinned (OpenSpec.ofChange fnExactRelMinusSpec)

/-- ITS FALSE NEIGHBOUR: 'it returns false'. Refute it at one input. -/
def fnExactRelMinusWrong : ChangeSpec := { name := "fnExactRelMinus", fn := fun _ => fun
  | [d1, d2] => { results := [.lit (.bool false)], args := [d1, d2] }
  | _ => none }
def FnExactRelMinusWrongFalsely : Prop := fnExactRelMinusRow.holds Try.pinned (OpenSpec.ofChange fnExactRelMinusWrong)

/-- 'laws.FnExactRelBoth': WHATEVER THE INPUT: true; the input reads as it did. -/
def fnExactRelBothSpec : ChangeSpec := { name := "fnExactRelBoth", fn := fun _ => fun
  | [d1, d2] => { results := [.lit (.bool true)], args := [d1, d2] }
  | _ => none }
def fnExactRelBothRow : OpenClaim := { program := "ytbjbehphdkaahaa", sum := "9babe9fbded232ecc07b63af9598890cd0e483b9abc9efc766601ec89dd7da96", func := "loop.example/g00391/laws.FnExactRelBoth", spec := "fnExactRelBoth", unfollowed := true, recurses := true, apart := false }
def FnExactRelBothSaid : Prop := fnExactRelBothRow.holds Try.pinned (OpenSpec.ofChange fnExactRelBothSpec)

/-- ITS FALSE NEIGHBOUR: 'it returns false'. Refute it at one input. -/
def fnExactRelBothWrong : ChangeSpec := { name := "fnExactRelBoth", fn := fun _ => fun
  | [d1, d2] => { results := [.lit (.bool false)], args := [d1, d2] }
  | _ => none }
def FnExactRelBothWrongFalsely : Prop := fnExactRelBothRow.holds Try.pinned (OpenSpec.ofChange fnExactRelBothWrong)

/-- 'laws.FnExactSameRel': WHATEVER THE INPUT: true; the input reads as it did. -/
def fnExactSameRelSpec : ChangeSpec := { name := "fnExactSameRel", fn := fun _ => fun
  | [d1, d2] => { results := [.lit (.bool true)], args := [d1, d2] }
  | _ => none }
def fnExactSameRelRow : OpenClaim := { program := "ytbjbehphdkaahaa", sum := "9babe9fbded232ecc07b63af9598890cd0e483b9abc9efc766601ec89dd7da96", func := "loop.example/g00391/laws.FnExactSameRel", spec := "fnExactSameRel", unfollowed := true, recurses := true, apart := false }
def FnExactSameRelSaid : Prop := fnExactSameRelRow.holds Try.pinned (OpenSpec.ofChange fnExactSameRelSpec)

/-- ITS FALSE NEIGHBOUR: 'it returns false'. Refute it at one input. -/
def fnExactSameRelWrong : ChangeSpec := { name := "fnExactSameRel", fn := fun _ => fun
  | [d1, d2] => { results := [.lit (.bool false)], args := [d1, d2] }
  | _ => none }
def FnExactSameRelWrongFalsely : Prop := fnExactSameRelRow.holds Try.pinned (OpenSpec.ofChange fnExactSameRelWrong)

/- THE SECOND FORM. 'bulk': how many values and letters a reading holds, each counted each time it is reached (what is shared counts as often as it is met; a slice's spare places count too). A statement '..UptoSaid' is the law's where the arguments, and the package variables that the reading takes, are together of bulk at most 1048576: NARROWER than '..Said'. Prove '..Said' where nothing that the law and all that it calls make is longer than what came in: it says more and counts as full. Else prove '..UptoSaid'. A law counts once. -/
mutual
def uptoBulk {H : Type} : DataW H → Nat
  | .lit (.string bytes) => bytes.length + 1
  | .lit _ => 1
  | .nil => 1
  | .ptr d => uptoBulk d + 1
  | .slice elems spare => uptoBulkAll elems + uptoBulkAll spare + 1
  | .agg parts => uptoBulkAll parts + 1
  | .iface _ d => uptoBulk d + 1
  | .map entries => uptoBulkEntries entries + 1
  | .held _ => 1
def uptoBulkAll {H : Type} : List (DataW H) → Nat
  | [] => 0
  | d :: r => uptoBulk d + uptoBulkAll r
def uptoBulkEntries {H : Type} : List (Lit × DataW H) → Nat
  | [] => 0
  | x :: r => uptoBulkEntry x + uptoBulkEntries r
def uptoBulkEntry {H : Type} : Lit × DataW H → Nat
  | (.string bytes, d) => bytes.length + uptoBulk d + 1
  | (_, d) => uptoBulk d + 1
 end
def uptoSmall : (H : Type) → List (DataW H) → Bool := fun _ ds => decide (uptoBulkAll ds ≤ 1048576)
def OpenSpec.upto (s : _root_.Go.ChangeSpec) : _root_.Go.OpenSpec := { _root_.Go.OpenSpec.ofChange s with cond := some uptoSmall }

/-- 'laws.FnSets', WHERE WHAT IT READS IS OF BULK AT MOST 1048576: true; the input reads as it did. -/
def fnSetsUptoRow : OpenClaim := { program := "ytbjbehphdkaahaa", sum := "9babe9fbded232ecc07b63af9598890cd0e483b9abc9efc766601ec89dd7da96", func := "loop.example/g00391/laws.FnSets", spec := "fnSets", unfollowed := true, recurses := true, apart := false, narrowed := true }
def FnSetsUptoSaid : Prop := fnSetsUptoRow.holds Try.pinned (OpenSpec.upto fnSetsSpec)

/-- 'laws.FnAddDrop', WHERE WHAT IT READS IS OF BULK AT MOST 1048576: true; the input reads as it did. -/
def fnAddDropUptoRow : OpenClaim := { program := "ytbjbehphdkaahaa", sum := "9babe9fbded232ecc07b63af9598890cd0e483b9abc9efc766601ec89dd7da96", func := "loop.example/g00391/laws.FnAddDrop", spec := "fnAddDrop", unfollowed := true, recurses := true, apart := false, narrowed := true }
def FnAddDropUptoSaid : Prop := fnAddDropUptoRow.holds Try.pinned (OpenSpec.upto fnAddDropSpec)

/-- 'laws.FnExactRelOk', WHERE WHAT IT READS IS OF BULK AT MOST 1048576: true; the input reads as it did. -/
def fnExactRelOkUptoRow : OpenClaim := { program := "ytbjbehphdkaahaa", sum := "9babe9fbded232ecc07b63af9598890cd0e483b9abc9efc766601ec89dd7da96", func := "loop.example/g00391/laws.FnExactRelOk", spec := "fnExactRelOk", unfollowed := true, recurses := true, apart := false, narrowed := true }
def FnExactRelOkUptoSaid : Prop := fnExactRelOkUptoRow.holds Try.pinned (OpenSpec.upto fnExactRelOkSpec)

/-- 'laws.FnExactRelHas', WHERE WHAT IT READS IS OF BULK AT MOST 1048576: true; the input reads as it did. -/
def fnExactRelHasUptoRow : OpenClaim := { program := "ytbjbehphdkaahaa", sum := "9babe9fbded232ecc07b63af9598890cd0e483b9abc9efc766601ec89dd7da96", func := "loop.example/g00391/laws.FnExactRelHas", spec := "fnExactRelHas", unfollowed := true, recurses := true, apart := false, narrowed := true }
def FnExactRelHasUptoSaid : Prop := fnExactRelHasUptoRow.holds Try.pinned (OpenSpec.upto fnExactRelHasSpec)

/-- 'laws.FnExactRelAdd', WHERE WHAT IT READS IS OF BULK AT MOST 1048576: true; the input reads as it did. -/
def fnExactRelAddUptoRow : OpenClaim := { program := "ytbjbehphdkaahaa", sum := "9babe9fbded232ecc07b63af9598890cd0e483b9abc9efc766601ec89dd7da96", func := "loop.example/g00391/laws.FnExactRelAdd", spec := "fnExactRelAdd", unfollowed := true, recurses := true, apart := false, narrowed := true }
def FnExactRelAddUptoSaid : Prop := fnExactRelAddUptoRow.holds Try.pinned (OpenSpec.upto fnExactRelAddSpec)

/-- 'laws.FnExactRelDrop', WHERE WHAT IT READS IS OF BULK AT MOST 1048576: true; the input reads as it did. -/
def fnExactRelDropUptoRow : OpenClaim := { program := "ytbjbehphdkaahaa", sum := "9babe9fbded232ecc07b63af9598890cd0e483b9abc9efc766601ec89dd7da96", func := "loop.example/g00391/laws.FnExactRelDrop", spec := "fnExactRelDrop", unfollowed := true, recurses := true, apart := false, narrowed := true }
def FnExactRelDropUptoSaid : Prop := fnExactRelDropUptoRow.holds Try.pinned (OpenSpec.upto fnExactRelDropSpec)

/-- 'laws.FnExactRelUnion', WHERE WHAT IT READS IS OF BULK AT MOST 1048576: true; the input reads as it did. -/
def fnExactRelUnionUptoRow : OpenClaim := { program := "ytbjbehphdkaahaa", sum := "9babe9fbded232ecc07b63af9598890cd0e483b9abc9efc766601ec89dd7da96", func := "loop.example/g00391/laws.FnExactRelUnion", spec := "fnExactRelUnion", unfollowed := true, recurses := true, apart := false, narrowed := true }
def FnExactRelUnionUptoSaid : Prop := fnExactRelUnionUptoRow.holds Try.pinned (OpenSpec.upto fnExactRelUnionSpec)

/-- 'laws.FnExactRelMinus', WHERE WHAT IT READS IS OF BULK AT MOST 1048576: true; the input reads as it did. -/
def fnExactRelMinusUptoRow : OpenClaim := { program := "ytbjbehphdkaahaa", sum := "9babe9fbded232ecc07b63af9598890cd0e483b9abc9efc766601ec89dd7da96", func := "loop.example/g00391/laws.FnExactRelMinus", spec := "fnExactRelMinus", unfollowed := true, recurses := true, apart := false, narrowed := true }
def FnExactRelMinusUptoSaid : Prop := fnExactRelMinusUptoRow.holds Try.pinned (OpenSpec.upto fnExactRelMinusSpec)

/-- 'laws.FnExactRelBoth', WHERE WHAT IT READS IS OF BULK AT MOST 1048576: true; the input reads as it did. -/
def fnExactRelBothUptoRow : OpenClaim := { program := "ytbjbehphdkaahaa", sum := "9babe9fbded232ecc07b63af9598890cd0e483b9abc9efc766601ec89dd7da96", func := "loop.example/g00391/laws.FnExactRelBoth", spec := "fnExactRelBoth", unfollowed := true, recurses := true, apart := false, narrowed := true }
def FnExactRelBothUptoSaid : Prop := fnExactRelBothUptoRow.holds Try.pinned (OpenSpec.upto fnExactRelBothSpec)

/-- 'laws.FnExactSameRel', WHERE WHAT IT READS IS OF BULK AT MOST 1048576: true; the input reads as it did. -/
def fnExactSameRelUptoRow : OpenClaim := { program := "ytbjbehphdkaahaa", sum := "9babe9fbded232ecc07b63af9598890cd0e483b9abc9efc766601ec89dd7da96", func := "loop.example/g00391/laws.FnExactSameRel", spec := "fnExactSameRel", unfollowed := true, recurses := true, apart := false, narrowed := true }
def FnExactSameRelUptoSaid : Prop := fnExactSameRelUptoRow.holds Try.pinned (OpenSpec.upto fnExactSameRelSpec)

end Rows
end Go.Proofs.Ytbjbehphdkaahaa
