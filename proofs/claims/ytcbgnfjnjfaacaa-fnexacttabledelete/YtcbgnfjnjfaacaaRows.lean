/-
  No cell of these rows narrows 'for every input' (looked for: loops, veiled, ifaces, maps, wideKeys, modest, calm, conditions, laid).
  DERIVED. THE GIVEN ROWS OF THIS SEAT. 11 by the template 'for every input the law returns true; each argument reads behind the call as it read before'; 0 by the template 'total and deterministic' (their statements: YtcbgnfjnjfaacaaTotals.lean).
  GIVEN WITH THE SEED: the statements are not yours to turn. If you find one false, say at which input.
  Laid BY PROGRAM, IN A SANDBOX (cutbox-rows.mjs): the forced cells as the released guide's own fill.sh prints them over the translation 4b66b1a0441fb557… (all of the seat's roots in one cut). By AI agents, Wed Nov 11 2026. No macro, syntax, notation, axiom, sorry.
-/
import Derived.Test.YtcbgnfjnjfaacaaChecked
import GoSem.Claim
import GoSem.ClaimJoined
import GoSem.ClaimMapViews
import Derived.JoinedTies
import Derived.KernelRfl
namespace Go.Proofs.Ytcbgnfjnjfaacaa
/- THE CELL 'sum', in the pinned program and in every row, IS THE sha256 OF THE DUMP (.gsa) THAT YtcbgnfjnjfaacaaProg.lean LOADS. Nothing in Lean hashes anything: it is a label: what it is worth is what the hold of that sum in a sandbox is worth. -/
noncomputable def Try.pinned : Pinned := { name := "ytcbgnfjnjfaacaa", sum := "4b66b1a0441fb557afa09676b023ab4ee3d324ac337316122e235e72894b5af5", checked := Try.checked }
namespace Rows
def none {H : Type} : Left H := { results := [], args := [] }

/-- 'laws.FnCovers': WHATEVER THE INPUT: true; the input reads as it did. -/
def fnCoversSpec : ChangeSpec := { name := "fnCovers", fn := fun _ => fun
  | [d] => { results := [.lit (.bool true)], args := [d] }
  | _ => none }
def fnCoversRow : OpenClaim := { program := "ytcbgnfjnjfaacaa", sum := "4b66b1a0441fb557afa09676b023ab4ee3d324ac337316122e235e72894b5af5", func := "loop.example/g00391/laws.FnCovers", spec := "fnCovers", unfollowed := true, recurses := true, plainKeys := false, apart := false }
def FnCoversSaid : Prop := fnCoversRow.holds Try.pinned (OpenSpec.ofChange fnCoversSpec)

/-- ITS FALSE NEIGHBOUR: 'it returns false'. Refute it at one input. -/
def fnCoversWrong : ChangeSpec := { name := "fnCovers", fn := fun _ => fun
  | [d] => { results := [.lit (.bool false)], args := [d] }
  | _ => none }
def FnCoversWrongFalsely : Prop := fnCoversRow.holds Try.pinned (OpenSpec.ofChange fnCoversWrong)

/-- 'laws.FnAdd': WHATEVER THE INPUT: true; the input reads as it did. -/
def fnAddSpec : ChangeSpec := { name := "fnAdd", fn := fun _ => fun
  | [d] => { results := [.lit (.bool true)], args := [d] }
  | _ => none }
def fnAddRow : OpenClaim := { program := "ytcbgnfjnjfaacaa", sum := "4b66b1a0441fb557afa09676b023ab4ee3d324ac337316122e235e72894b5af5", func := "loop.example/g00391/laws.FnAdd", spec := "fnAdd", inPlace := ["slices.overlaps[loop.example/g00391/impl.Entry]"], unfollowed := true, recurses := true, plainKeys := false, apart := false }
def FnAddSaid : Prop := fnAddRow.holds Try.pinned (OpenSpec.ofChange fnAddSpec)

/-- ITS FALSE NEIGHBOUR: 'it returns false'. Refute it at one input. -/
def fnAddWrong : ChangeSpec := { name := "fnAdd", fn := fun _ => fun
  | [d] => { results := [.lit (.bool false)], args := [d] }
  | _ => none }
def FnAddWrongFalsely : Prop := fnAddRow.holds Try.pinned (OpenSpec.ofChange fnAddWrong)

/-- 'laws.FnHidden': WHATEVER THE INPUT: true; the input reads as it did. -/
def fnHiddenSpec : ChangeSpec := { name := "fnHidden", fn := fun _ => fun
  | [d] => { results := [.lit (.bool true)], args := [d] }
  | _ => none }
def fnHiddenRow : OpenClaim := { program := "ytcbgnfjnjfaacaa", sum := "4b66b1a0441fb557afa09676b023ab4ee3d324ac337316122e235e72894b5af5", func := "loop.example/g00391/laws.FnHidden", spec := "fnHidden", unfollowed := true, recurses := true, plainKeys := false, apart := false }
def FnHiddenSaid : Prop := fnHiddenRow.holds Try.pinned (OpenSpec.ofChange fnHiddenSpec)

/-- ITS FALSE NEIGHBOUR: 'it returns false'. Refute it at one input. -/
def fnHiddenWrong : ChangeSpec := { name := "fnHidden", fn := fun _ => fun
  | [d] => { results := [.lit (.bool false)], args := [d] }
  | _ => none }
def FnHiddenWrongFalsely : Prop := fnHiddenRow.holds Try.pinned (OpenSpec.ofChange fnHiddenWrong)

/-- 'laws.FnExactEntryOk': WHATEVER THE INPUT: true; the input reads as it did. -/
def fnExactEntryOkSpec : ChangeSpec := { name := "fnExactEntryOk", fn := fun _ => fun
  | [d] => { results := [.lit (.bool true)], args := [d] }
  | _ => none }
def fnExactEntryOkRow : OpenClaim := { program := "ytcbgnfjnjfaacaa", sum := "4b66b1a0441fb557afa09676b023ab4ee3d324ac337316122e235e72894b5af5", func := "loop.example/g00391/laws.FnExactEntryOk", spec := "fnExactEntryOk", unfollowed := true, recurses := true, plainKeys := false, apart := false }
def FnExactEntryOkSaid : Prop := fnExactEntryOkRow.holds Try.pinned (OpenSpec.ofChange fnExactEntryOkSpec)

/-- ITS FALSE NEIGHBOUR: 'it returns false'. Refute it at one input. -/
def fnExactEntryOkWrong : ChangeSpec := { name := "fnExactEntryOk", fn := fun _ => fun
  | [d] => { results := [.lit (.bool false)], args := [d] }
  | _ => none }
def FnExactEntryOkWrongFalsely : Prop := fnExactEntryOkRow.holds Try.pinned (OpenSpec.ofChange fnExactEntryOkWrong)

/-- 'laws.FnExactTableOk': WHATEVER THE INPUT: true; the input reads as it did. -/
def fnExactTableOkSpec : ChangeSpec := { name := "fnExactTableOk", fn := fun _ => fun
  | [d] => { results := [.lit (.bool true)], args := [d] }
  | _ => none }
def fnExactTableOkRow : OpenClaim := { program := "ytcbgnfjnjfaacaa", sum := "4b66b1a0441fb557afa09676b023ab4ee3d324ac337316122e235e72894b5af5", func := "loop.example/g00391/laws.FnExactTableOk", spec := "fnExactTableOk", unfollowed := true, recurses := true, plainKeys := false, apart := false }
def FnExactTableOkSaid : Prop := fnExactTableOkRow.holds Try.pinned (OpenSpec.ofChange fnExactTableOkSpec)

/-- ITS FALSE NEIGHBOUR: 'it returns false'. Refute it at one input. -/
def fnExactTableOkWrong : ChangeSpec := { name := "fnExactTableOk", fn := fun _ => fun
  | [d] => { results := [.lit (.bool false)], args := [d] }
  | _ => none }
def FnExactTableOkWrongFalsely : Prop := fnExactTableOkRow.holds Try.pinned (OpenSpec.ofChange fnExactTableOkWrong)

/-- 'laws.FnExactTableAdd': WHATEVER THE INPUT: true; the input reads as it did. -/
def fnExactTableAddSpec : ChangeSpec := { name := "fnExactTableAdd", fn := fun _ => fun
  | [d1, d2] => { results := [.lit (.bool true)], args := [d1, d2] }
  | _ => none }
def fnExactTableAddRow : OpenClaim := { program := "ytcbgnfjnjfaacaa", sum := "4b66b1a0441fb557afa09676b023ab4ee3d324ac337316122e235e72894b5af5", func := "loop.example/g00391/laws.FnExactTableAdd", spec := "fnExactTableAdd", inPlace := ["slices.overlaps[loop.example/g00391/impl.Entry]"], unfollowed := true, recurses := true, plainKeys := false, apart := false }
def FnExactTableAddSaid : Prop := fnExactTableAddRow.holds Try.pinned (OpenSpec.ofChange fnExactTableAddSpec)

/-- ITS FALSE NEIGHBOUR: 'it returns false'. Refute it at one input. -/
def fnExactTableAddWrong : ChangeSpec := { name := "fnExactTableAdd", fn := fun _ => fun
  | [d1, d2] => { results := [.lit (.bool false)], args := [d1, d2] }
  | _ => none }
def FnExactTableAddWrongFalsely : Prop := fnExactTableAddRow.holds Try.pinned (OpenSpec.ofChange fnExactTableAddWrong)

/-- 'laws.FnExactTableKeep': WHATEVER THE INPUT: true; the input reads as it did. -/
def fnExactTableKeepSpec : ChangeSpec := { name := "fnExactTableKeep", fn := fun _ => fun
  | [d1, d2] => { results := [.lit (.bool true)], args := [d1, d2] }
  | _ => none }
def fnExactTableKeepRow : OpenClaim := { program := "ytcbgnfjnjfaacaa", sum := "4b66b1a0441fb557afa09676b023ab4ee3d324ac337316122e235e72894b5af5", func := "loop.example/g00391/laws.FnExactTableKeep", spec := "fnExactTableKeep", unfollowed := true, recurses := true, plainKeys := false, apart := false }
def FnExactTableKeepSaid : Prop := fnExactTableKeepRow.holds Try.pinned (OpenSpec.ofChange fnExactTableKeepSpec)

/-- ITS FALSE NEIGHBOUR: 'it returns false'. Refute it at one input. -/
def fnExactTableKeepWrong : ChangeSpec := { name := "fnExactTableKeep", fn := fun _ => fun
  | [d1, d2] => { results := [.lit (.bool false)], args := [d1, d2] }
  | _ => none }
def FnExactTableKeepWrongFalsely : Prop := fnExactTableKeepRow.holds Try.pinned (OpenSpec.ofChange fnExactTableKeepWrong)

/-- 'laws.FnExactTableDelete': WHATEVER THE INPUT: true; the input reads as it did. -/
def fnExactTableDeleteSpec : ChangeSpec := { name := "fnExactTableDelete", fn := fun _ => fun
  | [d1, d2, d3, d4] => { results := [.lit (.bool true)], args := [d1, d2, d3, d4] }
  | _ => none }
def fnExactTableDeleteRow : OpenClaim := { program := "ytcbgnfjnjfaacaa", sum := "4b66b1a0441fb557afa09676b023ab4ee3d324ac337316122e235e72894b5af5", func := "loop.example/g00391/laws.FnExactTableDelete", spec := "fnExactTableDelete", unfollowed := true, recurses := true, plainKeys := false, apart := false }
def FnExactTableDeleteSaid : Prop := fnExactTableDeleteRow.holds Try.pinned (OpenSpec.ofChange fnExactTableDeleteSpec)

/-- ITS FALSE NEIGHBOUR: 'it returns false'. Refute it at one input. -/
def fnExactTableDeleteWrong : ChangeSpec := { name := "fnExactTableDelete", fn := fun _ => fun
  | [d1, d2, d3, d4] => { results := [.lit (.bool false)], args := [d1, d2, d3, d4] }
  | _ => none }
def FnExactTableDeleteWrongFalsely : Prop := fnExactTableDeleteRow.holds Try.pinned (OpenSpec.ofChange fnExactTableDeleteWrong)

/-- 'laws.FnExactLookup': WHATEVER THE INPUT: true; the input reads as it did. -/
def fnExactLookupSpec : ChangeSpec := { name := "fnExactLookup", fn := fun _ => fun
  | [d1, d2, d3] => { results := [.lit (.bool true)], args := [d1, d2, d3] }
  | _ => none }
def fnExactLookupRow : OpenClaim := { program := "ytcbgnfjnjfaacaa", sum := "4b66b1a0441fb557afa09676b023ab4ee3d324ac337316122e235e72894b5af5", func := "loop.example/g00391/laws.FnExactLookup", spec := "fnExactLookup", unfollowed := true, recurses := true, plainKeys := false, apart := false }
def FnExactLookupSaid : Prop := fnExactLookupRow.holds Try.pinned (OpenSpec.ofChange fnExactLookupSpec)

/-- ITS FALSE NEIGHBOUR: 'it returns false'. Refute it at one input. -/
def fnExactLookupWrong : ChangeSpec := { name := "fnExactLookup", fn := fun _ => fun
  | [d1, d2, d3] => { results := [.lit (.bool false)], args := [d1, d2, d3] }
  | _ => none }
def FnExactLookupWrongFalsely : Prop := fnExactLookupRow.holds Try.pinned (OpenSpec.ofChange fnExactLookupWrong)

/-- 'laws.FnExactTouch': WHATEVER THE INPUT: true; the input reads as it did. -/
def fnExactTouchSpec : ChangeSpec := { name := "fnExactTouch", fn := fun _ => fun
  | [d1, d2] => { results := [.lit (.bool true)], args := [d1, d2] }
  | _ => none }
def fnExactTouchRow : OpenClaim := { program := "ytcbgnfjnjfaacaa", sum := "4b66b1a0441fb557afa09676b023ab4ee3d324ac337316122e235e72894b5af5", func := "loop.example/g00391/laws.FnExactTouch", spec := "fnExactTouch", unfollowed := true, recurses := true, plainKeys := false, apart := false }
def FnExactTouchSaid : Prop := fnExactTouchRow.holds Try.pinned (OpenSpec.ofChange fnExactTouchSpec)

/-- ITS FALSE NEIGHBOUR: 'it returns false'. Refute it at one input. -/
def fnExactTouchWrong : ChangeSpec := { name := "fnExactTouch", fn := fun _ => fun
  | [d1, d2] => { results := [.lit (.bool false)], args := [d1, d2] }
  | _ => none }
def FnExactTouchWrongFalsely : Prop := fnExactTouchRow.holds Try.pinned (OpenSpec.ofChange fnExactTouchWrong)

/-- 'laws.FnExactHidden': WHATEVER THE INPUT: true; the input reads as it did. -/
def fnExactHiddenSpec : ChangeSpec := { name := "fnExactHidden", fn := fun _ => fun
  | [d] => { results := [.lit (.bool true)], args := [d] }
  | _ => none }
def fnExactHiddenRow : OpenClaim := { program := "ytcbgnfjnjfaacaa", sum := "4b66b1a0441fb557afa09676b023ab4ee3d324ac337316122e235e72894b5af5", func := "loop.example/g00391/laws.FnExactHidden", spec := "fnExactHidden", unfollowed := true, recurses := true, plainKeys := false, apart := false }
def FnExactHiddenSaid : Prop := fnExactHiddenRow.holds Try.pinned (OpenSpec.ofChange fnExactHiddenSpec)

/-- ITS FALSE NEIGHBOUR: 'it returns false'. Refute it at one input. -/
def fnExactHiddenWrong : ChangeSpec := { name := "fnExactHidden", fn := fun _ => fun
  | [d] => { results := [.lit (.bool false)], args := [d] }
  | _ => none }
def FnExactHiddenWrongFalsely : Prop := fnExactHiddenRow.holds Try.pinned (OpenSpec.ofChange fnExactHiddenWrong)

/- THE SECOND FORM. 'bulk': how many values and letters a reading holds, each counted each time it is reached (what is shared counts as often as it is met; a slice's spare places count too). A statement '..UptoSaid' is the law's where the arguments, and the package variables that the reading takes, are together of bulk at most 1048576: NARROWER than '..Said'. Prove '..Said' where nothing that the law and all that it calls make is longer than what came in: it says more and counts as full. Else prove '..UptoSaid'. A law counts once. -/
mutual
def uptoBulk {H : Type} : DataW H → Nat
  | .lit (.string bytes) => bytes.length + 1
  | .lit _ => 1
  | .nil => 1
  | .ptr d => uptoBulk d + 1
  | .slice elems spare => uptoBulkAll elems + uptoBulkAll spare + 1
  | .agg parts => uptoBulkAll parts + 1
  | .iface _ d => uptoBulk d + 1
  | .map entries => uptoBulkEntries entries + 1
  | .held _ => 1
def uptoBulkAll {H : Type} : List (DataW H) → Nat
  | [] => 0
  | d :: r => uptoBulk d + uptoBulkAll r
def uptoBulkEntries {H : Type} : List (Lit × DataW H) → Nat
  | [] => 0
  | x :: r => uptoBulkEntry x + uptoBulkEntries r
def uptoBulkEntry {H : Type} : Lit × DataW H → Nat
  | (.string bytes, d) => bytes.length + uptoBulk d + 1
  | (_, d) => uptoBulk d + 1
 end
def uptoSmall : (H : Type) → List (DataW H) → Bool := fun _ ds => decide (uptoBulkAll ds ≤ 1048576)
def OpenSpec.upto (s : _root_.Go.ChangeSpec) : _root_.Go.OpenSpec := { _root_.Go.OpenSpec.ofChange s with cond := some uptoSmall }

/-- 'laws.FnCovers', WHERE WHAT IT READS IS OF BULK AT MOST 1048576: true; the input reads as it did. -/
def fnCoversUptoRow : OpenClaim := { program := "ytcbgnfjnjfaacaa", sum := "4b66b1a0441fb557afa09676b023ab4ee3d324ac337316122e235e72894b5af5", func := "loop.example/g00391/laws.FnCovers", spec := "fnCovers", unfollowed := true, recurses := true, plainKeys := false, apart := false, narrowed := true }
def FnCoversUptoSaid : Prop := fnCoversUptoRow.holds Try.pinned (OpenSpec.upto fnCoversSpec)

/-- 'laws.FnAdd', WHERE WHAT IT READS IS OF BULK AT MOST 1048576: true; the input reads as it did. -/
def fnAddUptoRow : OpenClaim := { program := "ytcbgnfjnjfaacaa", sum := "4b66b1a0441fb557afa09676b023ab4ee3d324ac337316122e235e72894b5af5", func := "loop.example/g00391/laws.FnAdd", spec := "fnAdd", inPlace := ["slices.overlaps[loop.example/g00391/impl.Entry]"], unfollowed := true, recurses := true, plainKeys := false, apart := false, narrowed := true }
def FnAddUptoSaid : Prop := fnAddUptoRow.holds Try.pinned (OpenSpec.upto fnAddSpec)

/-- 'laws.FnHidden', WHERE WHAT IT READS IS OF BULK AT MOST 1048576: true; the input reads as it did. -/
def fnHiddenUptoRow : OpenClaim := { program := "ytcbgnfjnjfaacaa", sum := "4b66b1a0441fb557afa09676b023ab4ee3d324ac337316122e235e72894b5af5", func := "loop.example/g00391/laws.FnHidden", spec := "fnHidden", unfollowed := true, recurses := true, plainKeys := false, apart := false, narrowed := true }
def FnHiddenUptoSaid : Prop := fnHiddenUptoRow.holds Try.pinned (OpenSpec.upto fnHiddenSpec)

/-- 'laws.FnExactEntryOk', WHERE WHAT IT READS IS OF BULK AT MOST 1048576: true; the input reads as it did. -/
def fnExactEntryOkUptoRow : OpenClaim := { program := "ytcbgnfjnjfaacaa", sum := "4b66b1a0441fb557afa09676b023ab4ee3d324ac337316122e235e72894b5af5", func := "loop.example/g00391/laws.FnExactEntryOk", spec := "fnExactEntryOk", unfollowed := true, recurses := true, plainKeys := false, apart := false, narrowed := true }
def FnExactEntryOkUptoSaid : Prop := fnExactEntryOkUptoRow.holds Try.pinned (OpenSpec.upto fnExactEntryOkSpec)

/-- 'laws.FnExactTableOk', WHERE WHAT IT READS IS OF BULK AT MOST 1048576: true; the input reads as it did. -/
def fnExactTableOkUptoRow : OpenClaim := { program := "ytcbgnfjnjfaacaa", sum := "4b66b1a0441fb557afa09676b023ab4ee3d324ac337316122e235e72894b5af5", func := "loop.example/g00391/laws.FnExactTableOk", spec := "fnExactTableOk", unfollowed := true, recurses := true, plainKeys := false, apart := false, narrowed := true }
def FnExactTableOkUptoSaid : Prop := fnExactTableOkUptoRow.holds Try.pinned (OpenSpec.upto fnExactTableOkSpec)

/-- 'laws.FnExactTableAdd', WHERE WHAT IT READS IS OF BULK AT MOST 1048576: true; the input reads as it did. -/
def fnExactTableAddUptoRow : OpenClaim := { program := "ytcbgnfjnjfaacaa", sum := "4b66b1a0441fb557afa09676b023ab4ee3d324ac337316122e235e72894b5af5", func := "loop.example/g00391/laws.FnExactTableAdd", spec := "fnExactTableAdd", inPlace := ["slices.overlaps[loop.example/g00391/impl.Entry]"], unfollowed := true, recurses := true, plainKeys := false, apart := false, narrowed := true }
def FnExactTableAddUptoSaid : Prop := fnExactTableAddUptoRow.holds Try.pinned (OpenSpec.upto fnExactTableAddSpec)

/-- 'laws.FnExactTableKeep', WHERE WHAT IT READS IS OF BULK AT MOST 1048576: true; the input reads as it did. -/
def fnExactTableKeepUptoRow : OpenClaim := { program := "ytcbgnfjnjfaacaa", sum := "4b66b1a0441fb557afa09676b023ab4ee3d324ac337316122e235e72894b5af5", func := "loop.example/g00391/laws.FnExactTableKeep", spec := "fnExactTableKeep", unfollowed := true, recurses := true, plainKeys := false, apart := false, narrowed := true }
def FnExactTableKeepUptoSaid : Prop := fnExactTableKeepUptoRow.holds Try.pinned (OpenSpec.upto fnExactTableKeepSpec)

/-- 'laws.FnExactTableDelete', WHERE WHAT IT READS IS OF BULK AT MOST 1048576: true; the input reads as it did. -/
def fnExactTableDeleteUptoRow : OpenClaim := { program := "ytcbgnfjnjfaacaa", sum := "4b66b1a0441fb557afa09676b023ab4ee3d324ac337316122e235e72894b5af5", func := "loop.example/g00391/laws.FnExactTableDelete", spec := "fnExactTableDelete", unfollowed := true, recurses := true, plainKeys := false, apart := false, narrowed := true }
def FnExactTableDeleteUptoSaid : Prop := fnExactTableDeleteUptoRow.holds Try.pinned (OpenSpec.upto fnExactTableDeleteSpec)

/-- 'laws.FnExactLookup', WHERE WHAT IT READS IS OF BULK AT MOST 1048576: true; the input reads as it did. -/
def fnExactLookupUptoRow : OpenClaim := { program := "ytcbgnfjnjfaacaa", sum := "4b66b1a0441fb557afa09676b023ab4ee3d324ac337316122e235e72894b5af5", func := "loop.example/g00391/laws.FnExactLookup", spec := "fnExactLookup", unfollowed := true, recurses := true, plainKeys := false, apart := false, narrowed := true }
def FnExactLookupUptoSaid : Prop := fnExactLookupUptoRow.holds Try.pinned (OpenSpec.upto fnExactLookupSpec)

/-- 'laws.FnExactTouch', WHERE WHAT IT READS IS OF BULK AT MOST 1048576: true; the input reads as it did. -/
def fnExactTouchUptoRow : OpenClaim := { program := "ytcbgnfjnjfaacaa", sum := "4b66b1a0441fb557afa09676b023ab4ee3d324ac337316122e235e72894b5af5", func := "loop.example/g00391/laws.FnExactTouch", spec := "fnExactTouch", unfollowed := true, recurses := true, plainKeys := false, apart := false, narrowed := true }
def FnExactTouchUptoSaid : Prop := fnExactTouchUptoRow.holds Try.pinned (OpenSpec.upto fnExactTouchSpec)

/-- 'laws.FnExactHidden', WHERE WHAT IT READS IS OF BULK AT MOST 1048576: true; the input reads as it did. -/
def fnExactHiddenUptoRow : OpenClaim := { program := "ytcbgnfjnjfaacaa", sum := "4b66b1a0441fb557afa09676b023ab4ee3d324ac337316122e235e72894b5af5", func := "loop.example/g00391/laws.FnExactHidden", spec := "fnExactHidden", unfollowed := true, recurses := true, plainKeys := false, apart := false, narrowed := true }
def FnExactHiddenUptoSaid : Prop := fnExactHiddenUptoRow.holds Try.pinned (OpenSpec.upto fnExactHiddenSpec)

end Rows
end Go.Proofs.Ytcbgnfjnjfaacaa
