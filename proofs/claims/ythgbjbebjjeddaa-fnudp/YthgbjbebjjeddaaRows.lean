/-
  No cell of these rows narrows 'for every input' (looked for: loops, veiled, ifaces, maps, wideKeys, modest, calm, conditions, laid).
  DERIVED. THE GIVEN ROWS OF THIS SEAT. 6 by the template 'for every input the law returns true; each argument reads behind the call as it read before'; 0 by the template 'total and deterministic' (their statements: YthgbjbebjjeddaaTotals.lean).
  GIVEN WITH THE SEED: the statements are not yours to turn. If you find one false, say at which input.
  Laid BY PROGRAM, IN A SANDBOX (cutbox-rows.mjs): the forced cells as the released guide's own fill.sh prints them over the translation 36437ffa9e9f61f6… (all of the seat's roots in one cut). By AI agents, Wed Nov 11 2026. No macro, syntax, notation, axiom, sorry.
-/
import Derived.Test.YthgbjbebjjeddaaChecked
import GoSem.Claim
import GoSem.ClaimJoined
import GoSem.ClaimMapViews
import Derived.JoinedTies
import Derived.KernelRfl
namespace Go.Proofs.Ythgbjbebjjeddaa
/- THE CELL 'sum', in the pinned program and in every row, IS THE sha256 OF THE DUMP (.gsa) THAT YthgbjbebjjeddaaProg.lean LOADS. Nothing in Lean hashes anything: it is a label: what it is worth is what the hold of that sum in a sandbox is worth. -/
noncomputable def Try.pinned : Pinned := { name := "ythgbjbebjjeddaa", sum := "36437ffa9e9f61f667e09ecc27da985193e84e84e43154a5401ded544db724e5", checked := Try.checked }
namespace Rows
def none {H : Type} : Left H := { results := [], args := [] }

/-- 'laws.FnUdp': WHATEVER THE INPUT: true; the input reads as it did. -/
def fnUdpSpec : ChangeSpec := { name := "fnUdp", fn := fun _ => fun
  | [d] => { results := [.lit (.bool true)], args := [d] }
  | _ => none }
def fnUdpRow : OpenClaim := { program := "ythgbjbebjjeddaa", sum := "36437ffa9e9f61f667e09ecc27da985193e84e84e43154a5401ded544db724e5", func := "loop.example/g00391/laws.FnUdp", spec := "fnUdp", unfollowed := true, recurses := true, apart := false }
def FnUdpSaid : Prop := fnUdpRow.holds Try.pinned (OpenSpec.ofChange fnUdpSpec)

/-- ITS FALSE NEIGHBOUR: 'it returns false'. Refute it at one input. -/
def fnUdpWrong : ChangeSpec := { name := "fnUdp", fn := fun _ => fun
  | [d] => { results := [.lit (.bool false)], args := [d] }
  | _ => none }
def FnUdpWrongFalsely : Prop := fnUdpRow.holds Try.pinned (OpenSpec.ofChange fnUdpWrong)

/-- 'laws.FnExactFieldBits': WHATEVER THE INPUT: true; the input reads as it did. -/
def fnExactFieldBitsSpec : ChangeSpec := { name := "fnExactFieldBits", fn := fun _ => fun
  | [d] => { results := [.lit (.bool true)], args := [d] }
  | _ => none }
def fnExactFieldBitsRow : OpenClaim := { program := "ythgbjbebjjeddaa", sum := "36437ffa9e9f61f667e09ecc27da985193e84e84e43154a5401ded544db724e5", func := "loop.example/g00391/laws.FnExactFieldBits", spec := "fnExactFieldBits", apart := false }
def FnExactFieldBitsSaid : Prop := fnExactFieldBitsRow.holds Try.pinned (OpenSpec.ofChange fnExactFieldBitsSpec)

/-- ITS FALSE NEIGHBOUR: 'it returns false'. Refute it at one input. -/
def fnExactFieldBitsWrong : ChangeSpec := { name := "fnExactFieldBits", fn := fun _ => fun
  | [d] => { results := [.lit (.bool false)], args := [d] }
  | _ => none }
def FnExactFieldBitsWrongFalsely : Prop := fnExactFieldBitsRow.holds Try.pinned (OpenSpec.ofChange fnExactFieldBitsWrong)

/-- 'laws.FnExactHeadOk': WHATEVER THE INPUT: true; the input reads as it did. -/
def fnExactHeadOkSpec : ChangeSpec := { name := "fnExactHeadOk", fn := fun _ => fun
  | [d] => { results := [.lit (.bool true)], args := [d] }
  | _ => none }
def fnExactHeadOkRow : OpenClaim := { program := "ythgbjbebjjeddaa", sum := "36437ffa9e9f61f667e09ecc27da985193e84e84e43154a5401ded544db724e5", func := "loop.example/g00391/laws.FnExactHeadOk", spec := "fnExactHeadOk", unfollowed := true, recurses := true, apart := false }
def FnExactHeadOkSaid : Prop := fnExactHeadOkRow.holds Try.pinned (OpenSpec.ofChange fnExactHeadOkSpec)

/-- ITS FALSE NEIGHBOUR: 'it returns false'. Refute it at one input. -/
def fnExactHeadOkWrong : ChangeSpec := { name := "fnExactHeadOk", fn := fun _ => fun
  | [d] => { results := [.lit (.bool false)], args := [d] }
  | _ => none }
def FnExactHeadOkWrongFalsely : Prop := fnExactHeadOkRow.holds Try.pinned (OpenSpec.ofChange fnExactHeadOkWrong)

/-- 'laws.FnExactHeadOf': WHATEVER THE INPUT: true; the input reads as it did. -/
def fnExactHeadOfSpec : ChangeSpec := { name := "fnExactHeadOf", fn := fun _ => fun
  | [d1, d2] => { results := [.lit (.bool true)], args := [d1, d2] }
  | _ => none }
def fnExactHeadOfRow : OpenClaim := { program := "ythgbjbebjjeddaa", sum := "36437ffa9e9f61f667e09ecc27da985193e84e84e43154a5401ded544db724e5", func := "loop.example/g00391/laws.FnExactHeadOf", spec := "fnExactHeadOf", unfollowed := true, recurses := true, apart := false }
def FnExactHeadOfSaid : Prop := fnExactHeadOfRow.holds Try.pinned (OpenSpec.ofChange fnExactHeadOfSpec)

/-- ITS FALSE NEIGHBOUR: 'it returns false'. Refute it at one input. -/
def fnExactHeadOfWrong : ChangeSpec := { name := "fnExactHeadOf", fn := fun _ => fun
  | [d1, d2] => { results := [.lit (.bool false)], args := [d1, d2] }
  | _ => none }
def FnExactHeadOfWrongFalsely : Prop := fnExactHeadOfRow.holds Try.pinned (OpenSpec.ofChange fnExactHeadOfWrong)

/-- 'laws.FnExactHeadSet': WHATEVER THE INPUT: true; the input reads as it did. -/
def fnExactHeadSetSpec : ChangeSpec := { name := "fnExactHeadSet", fn := fun _ => fun
  | [d1, d2, d3] => { results := [.lit (.bool true)], args := [d1, d2, d3] }
  | _ => none }
def fnExactHeadSetRow : OpenClaim := { program := "ythgbjbebjjeddaa", sum := "36437ffa9e9f61f667e09ecc27da985193e84e84e43154a5401ded544db724e5", func := "loop.example/g00391/laws.FnExactHeadSet", spec := "fnExactHeadSet", unfollowed := true, recurses := true, apart := false }
def FnExactHeadSetSaid : Prop := fnExactHeadSetRow.holds Try.pinned (OpenSpec.ofChange fnExactHeadSetSpec)

/-- ITS FALSE NEIGHBOUR: 'it returns false'. Refute it at one input. -/
def fnExactHeadSetWrong : ChangeSpec := { name := "fnExactHeadSet", fn := fun _ => fun
  | [d1, d2, d3] => { results := [.lit (.bool false)], args := [d1, d2, d3] }
  | _ => none }
def FnExactHeadSetWrongFalsely : Prop := fnExactHeadSetRow.holds Try.pinned (OpenSpec.ofChange fnExactHeadSetWrong)

/-- 'laws.FnExactSmallHead': WHATEVER THE INPUT: true; the input reads as it did. -/
def fnExactSmallHeadSpec : ChangeSpec := { name := "fnExactSmallHead", fn := fun _ => fun
  | [d1, d2, d3] => { results := [.lit (.bool true)], args := [d1, d2, d3] }
  | _ => none }
def fnExactSmallHeadRow : OpenClaim := { program := "ythgbjbebjjeddaa", sum := "36437ffa9e9f61f667e09ecc27da985193e84e84e43154a5401ded544db724e5", func := "loop.example/g00391/laws.FnExactSmallHead", spec := "fnExactSmallHead", unfollowed := true, recurses := true, apart := false }
def FnExactSmallHeadSaid : Prop := fnExactSmallHeadRow.holds Try.pinned (OpenSpec.ofChange fnExactSmallHeadSpec)

/-- ITS FALSE NEIGHBOUR: 'it returns false'. Refute it at one input. -/
def fnExactSmallHeadWrong : ChangeSpec := { name := "fnExactSmallHead", fn := fun _ => fun
  | [d1, d2, d3] => { results := [.lit (.bool false)], args := [d1, d2, d3] }
  | _ => none }
def FnExactSmallHeadWrongFalsely : Prop := fnExactSmallHeadRow.holds Try.pinned (OpenSpec.ofChange fnExactSmallHeadWrong)

/- THE SECOND FORM. 'bulk': how many values and letters a reading holds, each counted each time it is reached (what is shared counts as often as it is met; a slice's spare places count too). A statement '..UptoSaid' is the law's where the arguments, and the package variables that the reading takes, are together of bulk at most 1048576: NARROWER than '..Said'. Prove '..Said' where nothing that the law and all that it calls make is longer than what came in: it says more and counts as full. Else prove '..UptoSaid'. A law counts once. -/
mutual
def uptoBulk {H : Type} : DataW H → Nat
  | .lit (.string bytes) => bytes.length + 1
  | .lit _ => 1
  | .nil => 1
  | .ptr d => uptoBulk d + 1
  | .slice elems spare => uptoBulkAll elems + uptoBulkAll spare + 1
  | .agg parts => uptoBulkAll parts + 1
  | .iface _ d => uptoBulk d + 1
  | .map entries => uptoBulkEntries entries + 1
  | .held _ => 1
def uptoBulkAll {H : Type} : List (DataW H) → Nat
  | [] => 0
  | d :: r => uptoBulk d + uptoBulkAll r
def uptoBulkEntries {H : Type} : List (Lit × DataW H) → Nat
  | [] => 0
  | x :: r => uptoBulkEntry x + uptoBulkEntries r
def uptoBulkEntry {H : Type} : Lit × DataW H → Nat
  | (.string bytes, d) => bytes.length + uptoBulk d + 1
  | (_, d) => uptoBulk d + 1
 end
def uptoSmall : (H : Type) → List (DataW H) → Bool := fun _ ds => decide (uptoBulkAll ds ≤ 1048576)
def OpenSpec.upto (s : _root_.Go.ChangeSpec) : _root_.Go.OpenSpec := { _root_.Go.OpenSpec.ofChange s with cond := some uptoSmall }

/-- 'laws.FnUdp', WHERE WHAT IT READS IS OF BULK AT MOST 1048576: true; the input reads as it did. -/
def fnUdpUptoRow : OpenClaim := { program := "ythgbjbebjjeddaa", sum := "36437ffa9e9f61f667e09ecc27da985193e84e84e43154a5401ded544db724e5", func := "loop.example/g00391/laws.FnUdp", spec := "fnUdp", unfollowed := true, recurses := true, apart := false, narrowed := true }
def FnUdpUptoSaid : Prop := fnUdpUptoRow.holds Try.pinned (OpenSpec.upto fnUdpSpec)

/-- 'laws.FnExactFieldBits', WHERE WHAT IT READS IS OF BULK AT MOST 1048576: true; the input reads as it did. -/
def fnExactFieldBitsUptoRow : OpenClaim := { program := "ythgbjbebjjeddaa", sum := "36437ffa9e9f61f667e09ecc27da985193e84e84e43154a5401ded544db724e5", func := "loop.example/g00391/laws.FnExactFieldBits", spec := "fnExactFieldBits", apart := false, narrowed := true }
def FnExactFieldBitsUptoSaid : Prop := fnExactFieldBitsUptoRow.holds Try.pinned (OpenSpec.upto fnExactFieldBitsSpec)

/-- 'laws.FnExactHeadOk', WHERE WHAT IT READS IS OF BULK AT MOST 1048576: true; the input reads as it did. -/
def fnExactHeadOkUptoRow : OpenClaim := { program := "ythgbjbebjjeddaa", sum := "36437ffa9e9f61f667e09ecc27da985193e84e84e43154a5401ded544db724e5", func := "loop.example/g00391/laws.FnExactHeadOk", spec := "fnExactHeadOk", unfollowed := true, recurses := true, apart := false, narrowed := true }
def FnExactHeadOkUptoSaid : Prop := fnExactHeadOkUptoRow.holds Try.pinned (OpenSpec.upto fnExactHeadOkSpec)

/-- 'laws.FnExactHeadOf', WHERE WHAT IT READS IS OF BULK AT MOST 1048576: true; the input reads as it did. -/
def fnExactHeadOfUptoRow : OpenClaim := { program := "ythgbjbebjjeddaa", sum := "36437ffa9e9f61f667e09ecc27da985193e84e84e43154a5401ded544db724e5", func := "loop.example/g00391/laws.FnExactHeadOf", spec := "fnExactHeadOf", unfollowed := true, recurses := true, apart := false, narrowed := true }
def FnExactHeadOfUptoSaid : Prop := fnExactHeadOfUptoRow.holds Try.pinned (OpenSpec.upto fnExactHeadOfSpec)

/-- 'laws.FnExactHeadSet', WHERE WHAT IT READS IS OF BULK AT MOST 1048576: true; the input reads as it did. -/
def fnExactHeadSetUptoRow : OpenClaim := { program := "ythgbjbebjjeddaa", sum := "36437ffa9e9f61f667e09ecc27da985193e84e84e43154a5401ded544db724e5", func := "loop.example/g00391/laws.FnExactHeadSet", spec := "fnExactHeadSet", unfollowed := true, recurses := true, apart := false, narrowed := true }
def FnExactHeadSetUptoSaid : Prop := fnExactHeadSetUptoRow.holds Try.pinned (OpenSpec.upto fnExactHeadSetSpec)

/-- 'laws.FnExactSmallHead', WHERE WHAT IT READS IS OF BULK AT MOST 1048576: true; the input reads as it did. -/
def fnExactSmallHeadUptoRow : OpenClaim := { program := "ythgbjbebjjeddaa", sum := "36437ffa9e9f61f667e09ecc27da985193e84e84e43154a5401ded544db724e5", func := "loop.example/g00391/laws.FnExactSmallHead", spec := "fnExactSmallHead", unfollowed := true, recurses := true, apart := false, narrowed := true }
def FnExactSmallHeadUptoSaid : Prop := fnExactSmallHeadUptoRow.holds Try.pinned (OpenSpec.upto fnExactSmallHeadSpec)

end Rows
end Go.Proofs.Ythgbjbebjjeddaa
