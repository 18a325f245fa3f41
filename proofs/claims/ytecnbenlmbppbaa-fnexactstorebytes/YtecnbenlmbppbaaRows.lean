/-
  No cell of these rows narrows 'for every input' (looked for: loops, veiled, ifaces, maps, wideKeys, modest, calm, conditions, laid).
  DERIVED. THE GIVEN ROWS OF THIS SEAT. 4 by the template 'for every input the law returns true; each argument reads behind the call as it read before'; 0 by the template 'total and deterministic' (their statements: YtecnbenlmbppbaaTotals.lean).
  GIVEN WITH THE SEED: the statements are not yours to turn. If you find one false, say at which input.
  Laid BY PROGRAM, IN A SANDBOX (cutbox-rows.mjs): the forced cells as the released guide's own fill.sh prints them over the translation c492cc95b79b9398… (all of the seat's roots in one cut). By AI agents, Wed Nov 11 2026. No macro, syntax, notation, axiom, sorry.
-/
import Derived.Test.YtecnbenlmbppbaaChecked
import GoSem.Claim
import GoSem.ClaimJoined
import GoSem.ClaimMapViews
import Derived.JoinedTies
import Derived.KernelRfl
namespace Go.Proofs.Ytecnbenlmbppbaa
/- THE CELL 'sum', in the pinned program and in every row, IS THE sha256 OF THE DUMP (.gsa) THAT YtecnbenlmbppbaaProg.lean LOADS. Nothing in Lean hashes anything: it is a label: what it is worth is what the hold of that sum in a sandbox is worth. -/
noncomputable def Try.pinned : Pinned := { name := "ytecnbenlmbppbaa", sum := "c492cc95b79b9398924352bdecf37515a9c8cef787bdc76199d3c4d05fcdd18f", checked := Try.checked }
namespace Rows
def none {H : Type} : Left H := { results := [], args := [] }

/-- 'laws.FnExactStoreOk': WHATEVER THE INPUT: true; the input reads as it did. -/
def fnExactStoreOkSpec : ChangeSpec := { name := "fnExactStoreOk", fn := fun _ => fun
  | [d] => { results := [.lit (.bool true)], args := [d] }
  | _ => none }
def fnExactStoreOkRow : OpenClaim := { program := "ytecnbenlmbppbaa", sum := "c492cc95b79b9398924352bdecf37515a9c8cef787bdc76199d3c4d05fcdd18f", func := "loop.example/g00391/laws.FnExactStoreOk", spec := "fnExactStoreOk", unfollowed := true, recurses := true, apart := false }
def FnExactStoreOkSaid : Prop := fnExactStoreOkRow.holds Try.pinned (OpenSpec.ofChange fnExactStoreOkSpec)

/-- ITS FALSE NEIGHBOUR: 'it returns false'. Refute it at one input. -/
def fnExactStoreOkWrong : ChangeSpec := { name := "fnExactStoreOk", fn := fun _ => fun
  | [d] => { results := [.lit (.bool false)], args := [d] }
  | _ => none }
def FnExactStoreOkWrongFalsely : Prop := fnExactStoreOkRow.holds Try.pinned (OpenSpec.ofChange fnExactStoreOkWrong)

/-- 'laws.FnExactStoreRel': WHATEVER THE INPUT: true; the input reads as it did. -/
def fnExactStoreRelSpec : ChangeSpec := { name := "fnExactStoreRel", fn := fun _ => fun
  | [d1, d2] => { results := [.lit (.bool true)], args := [d1, d2] }
  | _ => none }
def fnExactStoreRelRow : OpenClaim := { program := "ytecnbenlmbppbaa", sum := "c492cc95b79b9398924352bdecf37515a9c8cef787bdc76199d3c4d05fcdd18f", func := "loop.example/g00391/laws.FnExactStoreRel", spec := "fnExactStoreRel", unfollowed := true, recurses := true, apart := false }
def FnExactStoreRelSaid : Prop := fnExactStoreRelRow.holds Try.pinned (OpenSpec.ofChange fnExactStoreRelSpec)

/-- ITS FALSE NEIGHBOUR: 'it returns false'. Refute it at one input. -/
def fnExactStoreRelWrong : ChangeSpec := { name := "fnExactStoreRel", fn := fun _ => fun
  | [d1, d2] => { results := [.lit (.bool false)], args := [d1, d2] }
  | _ => none }
def FnExactStoreRelWrongFalsely : Prop := fnExactStoreRelRow.holds Try.pinned (OpenSpec.ofChange fnExactStoreRelWrong)

/-- 'laws.FnExactStoreBytes': WHATEVER THE INPUT: true; the input reads as it did. -/
def fnExactStoreBytesSpec : ChangeSpec := { name := "fnExactStoreBytes", fn := fun _ => fun
  | [d] => { results := [.lit (.bool true)], args := [d] }
  | _ => none }
def fnExactStoreBytesRow : OpenClaim := { program := "ytecnbenlmbppbaa", sum := "c492cc95b79b9398924352bdecf37515a9c8cef787bdc76199d3c4d05fcdd18f", func := "loop.example/g00391/laws.FnExactStoreBytes", spec := "fnExactStoreBytes", unfollowed := true, recurses := true, apart := false }
def FnExactStoreBytesSaid : Prop := fnExactStoreBytesRow.holds Try.pinned (OpenSpec.ofChange fnExactStoreBytesSpec)

/-- ITS FALSE NEIGHBOUR: 'it returns false'. Refute it at one input. -/
def fnExactStoreBytesWrong : ChangeSpec := { name := "fnExactStoreBytes", fn := fun _ => fun
  | [d] => { results := [.lit (.bool false)], args := [d] }
  | _ => none }
def FnExactStoreBytesWrongFalsely : Prop := fnExactStoreBytesRow.holds Try.pinned (OpenSpec.ofChange fnExactStoreBytesWrong)

/-- 'laws.FnExactSameStore': WHATEVER THE INPUT: true; the input reads as it did. -/
def fnExactSameStoreSpec : ChangeSpec := { name := "fnExactSameStore", fn := fun _ => fun
  | [d1, d2] => { results := [.lit (.bool true)], args := [d1, d2] }
  | _ => none }
def fnExactSameStoreRow : OpenClaim := { program := "ytecnbenlmbppbaa", sum := "c492cc95b79b9398924352bdecf37515a9c8cef787bdc76199d3c4d05fcdd18f", func := "loop.example/g00391/laws.FnExactSameStore", spec := "fnExactSameStore", unfollowed := true, recurses := true, apart := false }
def FnExactSameStoreSaid : Prop := fnExactSameStoreRow.holds Try.pinned (OpenSpec.ofChange fnExactSameStoreSpec)

/-- ITS FALSE NEIGHBOUR: 'it returns false'. Refute it at one input. -/
def fnExactSameStoreWrong : ChangeSpec := { name := "fnExactSameStore", fn := fun _ => fun
  | [d1, d2] => { results := [.lit (.bool false)], args := [d1, d2] }
  | _ => none }
def FnExactSameStoreWrongFalsely : Prop := fnExactSameStoreRow.holds Try.pinned (OpenSpec.ofChange fnExactSameStoreWrong)

/- THE SECOND FORM. 'bulk': how many values and letters a reading holds, each counted each time it is reached (what is shared counts as often as it is met; a slice's spare places count too). A statement '..UptoSaid' is the law's where the arguments, and the package variables that the reading takes, are together of bulk at most 1048576: NARROWER than '..Said'. Prove '..Said' where nothing that the law and all that it calls make is longer than what came in: it says more and counts as full. Else prove '..UptoSaid'. A law counts once. -/
mutual
def uptoBulk {H : Type} : DataW H → Nat
  | .lit (.string bytes) => bytes.length + 1
  | .lit _ => 1
  | .nil => 1
  | .ptr d => uptoBulk d + 1
  | .slice elems spare => uptoBulkAll elems + uptoBulkAll spare + 1
  | .agg parts => uptoBulkAll parts + 1
  | .iface _ d => uptoBulk d + 1
  | .map entries => uptoBulkEntries entries + 1
  | .held _ => 1
def uptoBulkAll {H : Type} : List (DataW H) → Nat
  | [] => 0
  | d :: r => uptoBulk d + uptoBulkAll r
def uptoBulkEntries {H : Type} : List (Lit × DataW H) → Nat
  | [] => 0
  | x :: r => uptoBulkEntry x + uptoBulkEntries r
def uptoBulkEntry {H : Type} : Lit × DataW H → Nat
  | (.string bytes, d) => bytes.length + uptoBulk d + 1
  | (_, d) => uptoBulk d + 1
 end
def uptoSmall : (H : Type) → List (DataW H) → Bool := fun _ ds => decide (uptoBulkAll ds ≤ 1048576)
def OpenSpec.upto (s : _root_.Go.ChangeSpec) : _root_.Go.OpenSpec := { _root_.Go.OpenSpec.ofChange s with cond := some uptoSmall }

/-- 'laws.FnExactStoreOk', WHERE WHAT IT READS IS OF BULK AT MOST 1048576: true; the input reads as it did. -/
def fnExactStoreOkUptoRow : OpenClaim := { program := "ytecnbenlmbppbaa", sum := "c492cc95b79b9398924352bdecf37515a9c8cef787bdc76199d3c4d05fcdd18f", func := "loop.example/g00391/laws.FnExactStoreOk", spec := "fnExactStoreOk", unfollowed := true, recurses := true, apart := false, narrowed := true }
def FnExactStoreOkUptoSaid : Prop := fnExactStoreOkUptoRow.holds Try.pinned (OpenSpec.upto fnExactStoreOkSpec)

/-- 'laws.FnExactStoreRel', WHERE WHAT IT READS IS OF BULK AT MOST 1048576: true; the input reads as it did. -/
def fnExactStoreRelUptoRow : OpenClaim := { program := "ytecnbenlmbppbaa", sum := "c492cc95b79b9398924352bdecf37515a9c8cef787bdc76199d3c4d05fcdd18f", func := "loop.example/g00391/laws.FnExactStoreRel", spec := "fnExactStoreRel", unfollowed := true, recurses := true, apart := false, narrowed := true }
def FnExactStoreRelUptoSaid : Prop := fnExactStoreRelUptoRow.holds Try.pinned (OpenSpec.upto fnExactStoreRelSpec)

/-- 'laws.FnExactStoreBytes', WHERE WHAT IT READS IS OF BULK AT MOST 1048576: true; the input reads as it did. -/
def fnExactStoreBytesUptoRow : OpenClaim := { program := "ytecnbenlmbppbaa", sum := "c492cc95b79b9398924352bdecf37515a9c8cef787bdc76199d3c4d05fcdd18f", func := "loop.example/g00391/laws.FnExactStoreBytes", spec := "fnExactStoreBytes", unfollowed := true, recurses := true, apart := false, narrowed := true }
def FnExactStoreBytesUptoSaid : Prop := fnExactStoreBytesUptoRow.holds Try.pinned (OpenSpec.upto fnExactStoreBytesSpec)

/-- 'laws.FnExactSameStore', WHERE WHAT IT READS IS OF BULK AT MOST 1048576: true; the input reads as it did. -/
def fnExactSameStoreUptoRow : OpenClaim := { program := "ytecnbenlmbppbaa", sum := "c492cc95b79b9398924352bdecf37515a9c8cef787bdc76199d3c4d05fcdd18f", func := "loop.example/g00391/laws.FnExactSameStore", spec := "fnExactSameStore", unfollowed := true, recurses := true, apart := false, narrowed := true }
def FnExactSameStoreUptoSaid : Prop := fnExactSameStoreUptoRow.holds Try.pinned (OpenSpec.upto fnExactSameStoreSpec)

end Rows
end Go.Proofs.Ytecnbenlmbppbaa
