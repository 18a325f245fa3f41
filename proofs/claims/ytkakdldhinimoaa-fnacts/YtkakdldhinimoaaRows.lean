/-
  No cell of these rows narrows 'for every input' (looked for: loops, veiled, ifaces, maps, wideKeys, modest, calm, conditions, laid).
  DERIVED. THE GIVEN ROWS OF THIS SEAT. 9 by the template 'for every input the law returns true; each argument reads behind the call as it read before'; 0 by the template 'total and deterministic' (their statements: YtkakdldhinimoaaTotals.lean).
  GIVEN WITH THE SEED: the statements are not yours to turn. If you find one false, say at which input.
  Laid BY PROGRAM, IN A SANDBOX (cutbox-rows.mjs): the forced cells as the released guide's own fill.sh prints them over the translation 5c61f763cbdb1851… (all of the seat's roots in one cut). By AI agents, Wed Nov 11 2026. No macro, syntax, notation, axiom, sorry.
-/
import Derived.Test.YtkakdldhinimoaaChecked
import GoSem.Claim
import GoSem.ClaimJoined
import GoSem.ClaimMapViews
import Derived.JoinedTies
import Derived.KernelRfl
namespace Go.Proofs.Ytkakdldhinimoaa
/- THE CELL 'sum', in the pinned program and in every row, IS THE sha256 OF THE DUMP (.gsa) THAT YtkakdldhinimoaaProg.lean LOADS. Nothing in Lean hashes anything: it is a label: what it is worth is what the hold of that sum in a sandbox is worth. -/
noncomputable def Try.pinned : Pinned := { name := "ytkakdldhinimoaa", sum := "5c61f763cbdb18511bdfb0e63e840c12a41f6c50bab9b290b89c27dd35a17270", checked := Try.checked }
namespace Rows
def none {H : Type} : Left H := { results := [], args := [] }

/-- 'laws.FnExactPortsOk': WHATEVER THE INPUT: true; the input reads as it did. -/
def fnExactPortsOkSpec : ChangeSpec := { name := "fnExactPortsOk", fn := fun _ => fun
  | [d] => { results := [.lit (.bool true)], args := [d] }
  | _ => none }
def fnExactPortsOkRow : OpenClaim := { program := "ytkakdldhinimoaa", sum := "5c61f763cbdb18511bdfb0e63e840c12a41f6c50bab9b290b89c27dd35a17270", func := "loop.example/g00391/laws.FnExactPortsOk", spec := "fnExactPortsOk", apart := false }
def FnExactPortsOkSaid : Prop := fnExactPortsOkRow.holds Try.pinned (OpenSpec.ofChange fnExactPortsOkSpec)

/-- ITS FALSE NEIGHBOUR: 'it returns false'. Refute it at one input. -/
def fnExactPortsOkWrong : ChangeSpec := { name := "fnExactPortsOk", fn := fun _ => fun
  | [d] => { results := [.lit (.bool false)], args := [d] }
  | _ => none }
def FnExactPortsOkWrongFalsely : Prop := fnExactPortsOkRow.holds Try.pinned (OpenSpec.ofChange fnExactPortsOkWrong)

/-- 'laws.FnExactActsOk': WHATEVER THE INPUT: true; the input reads as it did. -/
def fnExactActsOkSpec : ChangeSpec := { name := "fnExactActsOk", fn := fun _ => fun
  | [d] => { results := [.lit (.bool true)], args := [d] }
  | _ => none }
def fnExactActsOkRow : OpenClaim := { program := "ytkakdldhinimoaa", sum := "5c61f763cbdb18511bdfb0e63e840c12a41f6c50bab9b290b89c27dd35a17270", func := "loop.example/g00391/laws.FnExactActsOk", spec := "fnExactActsOk", unfollowed := true, recurses := true, apart := false }
def FnExactActsOkSaid : Prop := fnExactActsOkRow.holds Try.pinned (OpenSpec.ofChange fnExactActsOkSpec)

/-- ITS FALSE NEIGHBOUR: 'it returns false'. Refute it at one input. -/
def fnExactActsOkWrong : ChangeSpec := { name := "fnExactActsOk", fn := fun _ => fun
  | [d] => { results := [.lit (.bool false)], args := [d] }
  | _ => none }
def FnExactActsOkWrongFalsely : Prop := fnExactActsOkRow.holds Try.pinned (OpenSpec.ofChange fnExactActsOkWrong)

/-- 'laws.FnExactHasAct': WHATEVER THE INPUT: true; the input reads as it did. -/
def fnExactHasActSpec : ChangeSpec := { name := "fnExactHasAct", fn := fun _ => fun
  | [d1, d2] => { results := [.lit (.bool true)], args := [d1, d2] }
  | _ => none }
def fnExactHasActRow : OpenClaim := { program := "ytkakdldhinimoaa", sum := "5c61f763cbdb18511bdfb0e63e840c12a41f6c50bab9b290b89c27dd35a17270", func := "loop.example/g00391/laws.FnExactHasAct", spec := "fnExactHasAct", unfollowed := true, recurses := true, apart := false }
def FnExactHasActSaid : Prop := fnExactHasActRow.holds Try.pinned (OpenSpec.ofChange fnExactHasActSpec)

/-- ITS FALSE NEIGHBOUR: 'it returns false'. Refute it at one input. -/
def fnExactHasActWrong : ChangeSpec := { name := "fnExactHasAct", fn := fun _ => fun
  | [d1, d2] => { results := [.lit (.bool false)], args := [d1, d2] }
  | _ => none }
def FnExactHasActWrongFalsely : Prop := fnExactHasActRow.holds Try.pinned (OpenSpec.ofChange fnExactHasActWrong)

/-- 'laws.FnExactSameActs': WHATEVER THE INPUT: true; the input reads as it did. -/
def fnExactSameActsSpec : ChangeSpec := { name := "fnExactSameActs", fn := fun _ => fun
  | [d1, d2] => { results := [.lit (.bool true)], args := [d1, d2] }
  | _ => none }
def fnExactSameActsRow : OpenClaim := { program := "ytkakdldhinimoaa", sum := "5c61f763cbdb18511bdfb0e63e840c12a41f6c50bab9b290b89c27dd35a17270", func := "loop.example/g00391/laws.FnExactSameActs", spec := "fnExactSameActs", unfollowed := true, recurses := true, apart := false }
def FnExactSameActsSaid : Prop := fnExactSameActsRow.holds Try.pinned (OpenSpec.ofChange fnExactSameActsSpec)

/-- ITS FALSE NEIGHBOUR: 'it returns false'. Refute it at one input. -/
def fnExactSameActsWrong : ChangeSpec := { name := "fnExactSameActs", fn := fun _ => fun
  | [d1, d2] => { results := [.lit (.bool false)], args := [d1, d2] }
  | _ => none }
def FnExactSameActsWrongFalsely : Prop := fnExactSameActsRow.holds Try.pinned (OpenSpec.ofChange fnExactSameActsWrong)

/-- 'laws.FnExactPerform': WHATEVER THE INPUT: true; the input reads as it did. -/
def fnExactPerformSpec : ChangeSpec := { name := "fnExactPerform", fn := fun _ => fun
  | [d1, d2, d3] => { results := [.lit (.bool true)], args := [d1, d2, d3] }
  | _ => none }
def fnExactPerformRow : OpenClaim := { program := "ytkakdldhinimoaa", sum := "5c61f763cbdb18511bdfb0e63e840c12a41f6c50bab9b290b89c27dd35a17270", func := "loop.example/g00391/laws.FnExactPerform", spec := "fnExactPerform", unfollowed := true, recurses := true, apart := false }
def FnExactPerformSaid : Prop := fnExactPerformRow.holds Try.pinned (OpenSpec.ofChange fnExactPerformSpec)

/-- ITS FALSE NEIGHBOUR: 'it returns false'. Refute it at one input. -/
def fnExactPerformWrong : ChangeSpec := { name := "fnExactPerform", fn := fun _ => fun
  | [d1, d2, d3] => { results := [.lit (.bool false)], args := [d1, d2, d3] }
  | _ => none }
def FnExactPerformWrongFalsely : Prop := fnExactPerformRow.holds Try.pinned (OpenSpec.ofChange fnExactPerformWrong)

/-- 'laws.FnExactOutPorts': WHATEVER THE INPUT: true; the input reads as it did. -/
def fnExactOutPortsSpec : ChangeSpec := { name := "fnExactOutPorts", fn := fun _ => fun
  | [d1, d2, d3] => { results := [.lit (.bool true)], args := [d1, d2, d3] }
  | _ => none }
def fnExactOutPortsRow : OpenClaim := { program := "ytkakdldhinimoaa", sum := "5c61f763cbdb18511bdfb0e63e840c12a41f6c50bab9b290b89c27dd35a17270", func := "loop.example/g00391/laws.FnExactOutPorts", spec := "fnExactOutPorts", unfollowed := true, recurses := true, apart := false }
def FnExactOutPortsSaid : Prop := fnExactOutPortsRow.holds Try.pinned (OpenSpec.ofChange fnExactOutPortsSpec)

/-- ITS FALSE NEIGHBOUR: 'it returns false'. Refute it at one input. -/
def fnExactOutPortsWrong : ChangeSpec := { name := "fnExactOutPorts", fn := fun _ => fun
  | [d1, d2, d3] => { results := [.lit (.bool false)], args := [d1, d2, d3] }
  | _ => none }
def FnExactOutPortsWrongFalsely : Prop := fnExactOutPortsRow.holds Try.pinned (OpenSpec.ofChange fnExactOutPortsWrong)

/-- 'laws.FnActs': WHATEVER THE INPUT: true; the input reads as it did. -/
def fnActsSpec : ChangeSpec := { name := "fnActs", fn := fun _ => fun
  | [d] => { results := [.lit (.bool true)], args := [d] }
  | _ => none }
def fnActsRow : OpenClaim := { program := "ytkakdldhinimoaa", sum := "5c61f763cbdb18511bdfb0e63e840c12a41f6c50bab9b290b89c27dd35a17270", func := "loop.example/g00391/laws.FnActs", spec := "fnActs", unfollowed := true, recurses := true, apart := false }
def FnActsSaid : Prop := fnActsRow.holds Try.pinned (OpenSpec.ofChange fnActsSpec)

/-- ITS FALSE NEIGHBOUR: 'it returns false'. Refute it at one input. -/
def fnActsWrong : ChangeSpec := { name := "fnActs", fn := fun _ => fun
  | [d] => { results := [.lit (.bool false)], args := [d] }
  | _ => none }
def FnActsWrongFalsely : Prop := fnActsRow.holds Try.pinned (OpenSpec.ofChange fnActsWrong)

/-- 'laws.FnExactMeetOf': WHATEVER THE INPUT: true; the input reads as it did. -/
def fnExactMeetOfSpec : ChangeSpec := { name := "fnExactMeetOf", fn := fun _ => fun
  | [d1, d2] => { results := [.lit (.bool true)], args := [d1, d2] }
  | _ => none }
def fnExactMeetOfRow : OpenClaim := { program := "ytkakdldhinimoaa", sum := "5c61f763cbdb18511bdfb0e63e840c12a41f6c50bab9b290b89c27dd35a17270", func := "loop.example/g00391/laws.FnExactMeetOf", spec := "fnExactMeetOf", apart := false }
def FnExactMeetOfSaid : Prop := fnExactMeetOfRow.holds Try.pinned (OpenSpec.ofChange fnExactMeetOfSpec)

/-- ITS FALSE NEIGHBOUR: 'it returns false'. Refute it at one input. -/
def fnExactMeetOfWrong : ChangeSpec := { name := "fnExactMeetOf", fn := fun _ => fun
  | [d1, d2] => { results := [.lit (.bool false)], args := [d1, d2] }
  | _ => none }
def FnExactMeetOfWrongFalsely : Prop := fnExactMeetOfRow.holds Try.pinned (OpenSpec.ofChange fnExactMeetOfWrong)

/-- 'laws.FnCovers': WHATEVER THE INPUT: true; the input reads as it did. -/
def fnCoversSpec : ChangeSpec := { name := "fnCovers", fn := fun _ => fun
  | [d] => { results := [.lit (.bool true)], args := [d] }
  | _ => none }
def fnCoversRow : OpenClaim := { program := "ytkakdldhinimoaa", sum := "5c61f763cbdb18511bdfb0e63e840c12a41f6c50bab9b290b89c27dd35a17270", func := "loop.example/g00391/laws.FnCovers", spec := "fnCovers", unfollowed := true, recurses := true, apart := false }
def FnCoversSaid : Prop := fnCoversRow.holds Try.pinned (OpenSpec.ofChange fnCoversSpec)

/-- ITS FALSE NEIGHBOUR: 'it returns false'. Refute it at one input. -/
def fnCoversWrong : ChangeSpec := { name := "fnCovers", fn := fun _ => fun
  | [d] => { results := [.lit (.bool false)], args := [d] }
  | _ => none }
def FnCoversWrongFalsely : Prop := fnCoversRow.holds Try.pinned (OpenSpec.ofChange fnCoversWrong)

/- THE SECOND FORM. 'bulk': how many values and letters a reading holds, each counted each time it is reached (what is shared counts as often as it is met; a slice's spare places count too). A statement '..UptoSaid' is the law's where the arguments, and the package variables that the reading takes, are together of bulk at most 1048576: NARROWER than '..Said'. Prove '..Said' where nothing that the law and all that it calls make is longer than what came in: it says more and counts as full. Else prove '..UptoSaid'. A law counts once. -/
mutual
def uptoBulk {H : Type} : DataW H → Nat
  | .lit (.string bytes) => bytes.length + 1
  | .lit _ => 1
  | .nil => 1
  | .ptr d => uptoBulk d + 1
  | .slice elems spare => uptoBulkAll elems + uptoBulkAll spare + 1
  | .agg parts => uptoBulkAll parts + 1
  | .iface _ d => uptoBulk d + 1
  | .map entries => uptoBulkEntries entries + 1
  | .held _ => 1
def uptoBulkAll {H : Type} : List (DataW H) → Nat
  | [] => 0
  | d :: r => uptoBulk d + uptoBulkAll r
def uptoBulkEntries {H : Type} : List (Lit × DataW H) → Nat
  | [] => 0
  | x :: r => uptoBulkEntry x + uptoBulkEntries r
def uptoBulkEntry {H : Type} : Lit × DataW H → Nat
  | (.string bytes, d) => bytes.length + uptoBulk d + 1
  | (_, d) => uptoBulk d + 1
 end
def uptoSmall : (H : Type) → List (DataW H) → Bool := fun _ ds => decide (uptoBulkAll ds ≤ 1048576)
def OpenSpec.upto (s : _root_.Go.ChangeSpec) : _root_.Go.OpenSpec := { _root_.Go.OpenSpec.ofChange s with cond := some uptoSmall }

/-- 'laws.FnExactPortsOk', WHERE WHAT IT READS IS OF BULK AT MOST 1048576: true; the input reads as it did. -/
def fnExactPortsOkUptoRow : OpenClaim := { program := "ytkakdldhinimoaa", sum := "5c61f763cbdb18511bdfb0e63e840c12a41f6c50bab9b290b89c27dd35a17270", func := "loop.example/g00391/laws.FnExactPortsOk", spec := "fnExactPortsOk", apart := false, narrowed := true }
def FnExactPortsOkUptoSaid : Prop := fnExactPortsOkUptoRow.holds Try.pinned (OpenSpec.upto fnExactPortsOkSpec)

/-- 'laws.FnExactActsOk', WHERE WHAT IT READS IS OF BULK AT MOST 1048576: true; the input reads as it did. -/
def fnExactActsOkUptoRow : OpenClaim := { program := "ytkakdldhinimoaa", sum := "5c61f763cbdb18511bdfb0e63e840c12a41f6c50bab9b290b89c27dd35a17270", func := "loop.example/g00391/laws.FnExactActsOk", spec := "fnExactActsOk", unfollowed := true, recurses := true, apart := false, narrowed := true }
def FnExactActsOkUptoSaid : Prop := fnExactActsOkUptoRow.holds Try.pinned (OpenSpec.upto fnExactActsOkSpec)

/-- 'laws.FnExactHasAct', WHERE WHAT IT READS IS OF BULK AT MOST 1048576: true; the input reads as it did. -/
def fnExactHasActUptoRow : OpenClaim := { program := "ytkakdldhinimoaa", sum := "5c61f763cbdb18511bdfb0e63e840c12a41f6c50bab9b290b89c27dd35a17270", func := "loop.example/g00391/laws.FnExactHasAct", spec := "fnExactHasAct", unfollowed := true, recurses := true, apart := false, narrowed := true }
def FnExactHasActUptoSaid : Prop := fnExactHasActUptoRow.holds Try.pinned (OpenSpec.upto fnExactHasActSpec)

/-- 'laws.FnExactSameActs', WHERE WHAT IT READS IS OF BULK AT MOST 1048576: true; the input reads as it did. -/
def fnExactSameActsUptoRow : OpenClaim := { program := "ytkakdldhinimoaa", sum := "5c61f763cbdb18511bdfb0e63e840c12a41f6c50bab9b290b89c27dd35a17270", func := "loop.example/g00391/laws.FnExactSameActs", spec := "fnExactSameActs", unfollowed := true, recurses := true, apart := false, narrowed := true }
def FnExactSameActsUptoSaid : Prop := fnExactSameActsUptoRow.holds Try.pinned (OpenSpec.upto fnExactSameActsSpec)

/-- 'laws.FnExactPerform', WHERE WHAT IT READS IS OF BULK AT MOST 1048576: true; the input reads as it did. -/
def fnExactPerformUptoRow : OpenClaim := { program := "ytkakdldhinimoaa", sum := "5c61f763cbdb18511bdfb0e63e840c12a41f6c50bab9b290b89c27dd35a17270", func := "loop.example/g00391/laws.FnExactPerform", spec := "fnExactPerform", unfollowed := true, recurses := true, apart := false, narrowed := true }
def FnExactPerformUptoSaid : Prop := fnExactPerformUptoRow.holds Try.pinned (OpenSpec.upto fnExactPerformSpec)

/-- 'laws.FnExactOutPorts', WHERE WHAT IT READS IS OF BULK AT MOST 1048576: true; the input reads as it did. -/
def fnExactOutPortsUptoRow : OpenClaim := { program := "ytkakdldhinimoaa", sum := "5c61f763cbdb18511bdfb0e63e840c12a41f6c50bab9b290b89c27dd35a17270", func := "loop.example/g00391/laws.FnExactOutPorts", spec := "fnExactOutPorts", unfollowed := true, recurses := true, apart := false, narrowed := true }
def FnExactOutPortsUptoSaid : Prop := fnExactOutPortsUptoRow.holds Try.pinned (OpenSpec.upto fnExactOutPortsSpec)

/-- 'laws.FnActs', WHERE WHAT IT READS IS OF BULK AT MOST 1048576: true; the input reads as it did. -/
def fnActsUptoRow : OpenClaim := { program := "ytkakdldhinimoaa", sum := "5c61f763cbdb18511bdfb0e63e840c12a41f6c50bab9b290b89c27dd35a17270", func := "loop.example/g00391/laws.FnActs", spec := "fnActs", unfollowed := true, recurses := true, apart := false, narrowed := true }
def FnActsUptoSaid : Prop := fnActsUptoRow.holds Try.pinned (OpenSpec.upto fnActsSpec)

/-- 'laws.FnExactMeetOf', WHERE WHAT IT READS IS OF BULK AT MOST 1048576: true; the input reads as it did. -/
def fnExactMeetOfUptoRow : OpenClaim := { program := "ytkakdldhinimoaa", sum := "5c61f763cbdb18511bdfb0e63e840c12a41f6c50bab9b290b89c27dd35a17270", func := "loop.example/g00391/laws.FnExactMeetOf", spec := "fnExactMeetOf", apart := false, narrowed := true }
def FnExactMeetOfUptoSaid : Prop := fnExactMeetOfUptoRow.holds Try.pinned (OpenSpec.upto fnExactMeetOfSpec)

/-- 'laws.FnCovers', WHERE WHAT IT READS IS OF BULK AT MOST 1048576: true; the input reads as it did. -/
def fnCoversUptoRow : OpenClaim := { program := "ytkakdldhinimoaa", sum := "5c61f763cbdb18511bdfb0e63e840c12a41f6c50bab9b290b89c27dd35a17270", func := "loop.example/g00391/laws.FnCovers", spec := "fnCovers", unfollowed := true, recurses := true, apart := false, narrowed := true }
def FnCoversUptoSaid : Prop := fnCoversUptoRow.holds Try.pinned (OpenSpec.upto fnCoversSpec)

end Rows
end Go.Proofs.Ytkakdldhinimoaa
