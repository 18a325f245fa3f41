/-
  No cell of these rows narrows 'for every input' (looked for: loops, veiled, ifaces, maps, wideKeys, modest, calm, conditions, laid).
  DERIVED. THE GIVEN ROWS OF THIS SEAT. 9 by the template 'for every input the law returns true; each argument reads behind the call as it read before'; 0 by the template 'total and deterministic' (their statements: YtjbjlmaeaajlhaaTotals.lean).
  GIVEN WITH THE SEED: the statements are not yours to turn. If you find one false, say at which input.
  Laid BY PROGRAM, IN A SANDBOX (cutbox-rows.mjs): the forced cells as the released guide's own fill.sh prints them over the translation 7216c4c9bd68377c… (all of the seat's roots in one cut). By AI agents, Wed Nov 11 2026. No macro, syntax, notation, axiom, sorry.
-/
import Derived.Test.YtjbjlmaeaajlhaaChecked
import GoSem.Claim
import GoSem.ClaimJoined
import GoSem.ClaimMapViews
import Derived.JoinedTies
import Derived.KernelRfl
namespace Go.Proofs.Ytjbjlmaeaajlhaa
/- THE CELL 'sum', in the pinned program and in every row, IS THE sha256 OF THE DUMP (.gsa) THAT YtjbjlmaeaajlhaaProg.lean LOADS. Nothing in Lean hashes anything: it is a label: what it is worth is what the hold of that sum in a sandbox is worth. -/
noncomputable def Try.pinned : Pinned := { name := "ytjbjlmaeaajlhaa", sum := "7216c4c9bd68377c9ed8374e1898140a7cb272b26d03065f9b0f03163d39371b", checked := Try.checked }
namespace Rows
def none {H : Type} : Left H := { results := [], args := [] }

/-- 'laws.FnExactIpOk': WHATEVER THE INPUT: true; the input reads as it did. -/
def fnExactIpOkSpec : ChangeSpec := { name := "fnExactIpOk", fn := fun _ => fun
  | [d] => { results := [.lit (.bool true)], args := [d] }
  | _ => none }
def fnExactIpOkRow : OpenClaim := { program := "ytjbjlmaeaajlhaa", sum := "7216c4c9bd68377c9ed8374e1898140a7cb272b26d03065f9b0f03163d39371b", func := "loop.example/g00391/laws.FnExactIpOk", spec := "fnExactIpOk", apart := false }
def FnExactIpOkSaid : Prop := fnExactIpOkRow.holds Try.pinned (OpenSpec.ofChange fnExactIpOkSpec)

/-- ITS FALSE NEIGHBOUR: 'it returns false'. Refute it at one input. -/
def fnExactIpOkWrong : ChangeSpec := { name := "fnExactIpOk", fn := fun _ => fun
  | [d] => { results := [.lit (.bool false)], args := [d] }
  | _ => none }
def FnExactIpOkWrongFalsely : Prop := fnExactIpOkRow.holds Try.pinned (OpenSpec.ofChange fnExactIpOkWrong)

/-- 'laws.FnExactIpBytes': WHATEVER THE INPUT: true; the input reads as it did. -/
def fnExactIpBytesSpec : ChangeSpec := { name := "fnExactIpBytes", fn := fun _ => fun
  | [d] => { results := [.lit (.bool true)], args := [d] }
  | _ => none }
def fnExactIpBytesRow : OpenClaim := { program := "ytjbjlmaeaajlhaa", sum := "7216c4c9bd68377c9ed8374e1898140a7cb272b26d03065f9b0f03163d39371b", func := "loop.example/g00391/laws.FnExactIpBytes", spec := "fnExactIpBytes", apart := false }
def FnExactIpBytesSaid : Prop := fnExactIpBytesRow.holds Try.pinned (OpenSpec.ofChange fnExactIpBytesSpec)

/-- ITS FALSE NEIGHBOUR: 'it returns false'. Refute it at one input. -/
def fnExactIpBytesWrong : ChangeSpec := { name := "fnExactIpBytes", fn := fun _ => fun
  | [d] => { results := [.lit (.bool false)], args := [d] }
  | _ => none }
def FnExactIpBytesWrongFalsely : Prop := fnExactIpBytesRow.holds Try.pinned (OpenSpec.ofChange fnExactIpBytesWrong)

/-- 'laws.FnExactIpRead': WHATEVER THE INPUT: true; the input reads as it did. -/
def fnExactIpReadSpec : ChangeSpec := { name := "fnExactIpRead", fn := fun _ => fun
  | [d] => { results := [.lit (.bool true)], args := [d] }
  | _ => none }
def fnExactIpReadRow : OpenClaim := { program := "ytjbjlmaeaajlhaa", sum := "7216c4c9bd68377c9ed8374e1898140a7cb272b26d03065f9b0f03163d39371b", func := "loop.example/g00391/laws.FnExactIpRead", spec := "fnExactIpRead", apart := false }
def FnExactIpReadSaid : Prop := fnExactIpReadRow.holds Try.pinned (OpenSpec.ofChange fnExactIpReadSpec)

/-- ITS FALSE NEIGHBOUR: 'it returns false'. Refute it at one input. -/
def fnExactIpReadWrong : ChangeSpec := { name := "fnExactIpRead", fn := fun _ => fun
  | [d] => { results := [.lit (.bool false)], args := [d] }
  | _ => none }
def FnExactIpReadWrongFalsely : Prop := fnExactIpReadRow.holds Try.pinned (OpenSpec.ofChange fnExactIpReadWrong)

/-- 'laws.FnExactHop': WHATEVER THE INPUT: true; the input reads as it did. -/
def fnExactHopSpec : ChangeSpec := { name := "fnExactHop", fn := fun _ => fun
  | [d] => { results := [.lit (.bool true)], args := [d] }
  | _ => none }
def fnExactHopRow : OpenClaim := { program := "ytjbjlmaeaajlhaa", sum := "7216c4c9bd68377c9ed8374e1898140a7cb272b26d03065f9b0f03163d39371b", func := "loop.example/g00391/laws.FnExactHop", spec := "fnExactHop", apart := false }
def FnExactHopSaid : Prop := fnExactHopRow.holds Try.pinned (OpenSpec.ofChange fnExactHopSpec)

/-- ITS FALSE NEIGHBOUR: 'it returns false'. Refute it at one input. -/
def fnExactHopWrong : ChangeSpec := { name := "fnExactHop", fn := fun _ => fun
  | [d] => { results := [.lit (.bool false)], args := [d] }
  | _ => none }
def FnExactHopWrongFalsely : Prop := fnExactHopRow.holds Try.pinned (OpenSpec.ofChange fnExactHopWrong)

/-- 'laws.FnExactUdpOk': WHATEVER THE INPUT: true; the input reads as it did. -/
def fnExactUdpOkSpec : ChangeSpec := { name := "fnExactUdpOk", fn := fun _ => fun
  | [d] => { results := [.lit (.bool true)], args := [d] }
  | _ => none }
def fnExactUdpOkRow : OpenClaim := { program := "ytjbjlmaeaajlhaa", sum := "7216c4c9bd68377c9ed8374e1898140a7cb272b26d03065f9b0f03163d39371b", func := "loop.example/g00391/laws.FnExactUdpOk", spec := "fnExactUdpOk", apart := false }
def FnExactUdpOkSaid : Prop := fnExactUdpOkRow.holds Try.pinned (OpenSpec.ofChange fnExactUdpOkSpec)

/-- ITS FALSE NEIGHBOUR: 'it returns false'. Refute it at one input. -/
def fnExactUdpOkWrong : ChangeSpec := { name := "fnExactUdpOk", fn := fun _ => fun
  | [d] => { results := [.lit (.bool false)], args := [d] }
  | _ => none }
def FnExactUdpOkWrongFalsely : Prop := fnExactUdpOkRow.holds Try.pinned (OpenSpec.ofChange fnExactUdpOkWrong)

/-- 'laws.FnExactUdpBytes': WHATEVER THE INPUT: true; the input reads as it did. -/
def fnExactUdpBytesSpec : ChangeSpec := { name := "fnExactUdpBytes", fn := fun _ => fun
  | [d] => { results := [.lit (.bool true)], args := [d] }
  | _ => none }
def fnExactUdpBytesRow : OpenClaim := { program := "ytjbjlmaeaajlhaa", sum := "7216c4c9bd68377c9ed8374e1898140a7cb272b26d03065f9b0f03163d39371b", func := "loop.example/g00391/laws.FnExactUdpBytes", spec := "fnExactUdpBytes", apart := false }
def FnExactUdpBytesSaid : Prop := fnExactUdpBytesRow.holds Try.pinned (OpenSpec.ofChange fnExactUdpBytesSpec)

/-- ITS FALSE NEIGHBOUR: 'it returns false'. Refute it at one input. -/
def fnExactUdpBytesWrong : ChangeSpec := { name := "fnExactUdpBytes", fn := fun _ => fun
  | [d] => { results := [.lit (.bool false)], args := [d] }
  | _ => none }
def FnExactUdpBytesWrongFalsely : Prop := fnExactUdpBytesRow.holds Try.pinned (OpenSpec.ofChange fnExactUdpBytesWrong)

/-- 'laws.FnExactUdpRead': WHATEVER THE INPUT: true; the input reads as it did. -/
def fnExactUdpReadSpec : ChangeSpec := { name := "fnExactUdpRead", fn := fun _ => fun
  | [d] => { results := [.lit (.bool true)], args := [d] }
  | _ => none }
def fnExactUdpReadRow : OpenClaim := { program := "ytjbjlmaeaajlhaa", sum := "7216c4c9bd68377c9ed8374e1898140a7cb272b26d03065f9b0f03163d39371b", func := "loop.example/g00391/laws.FnExactUdpRead", spec := "fnExactUdpRead", apart := false }
def FnExactUdpReadSaid : Prop := fnExactUdpReadRow.holds Try.pinned (OpenSpec.ofChange fnExactUdpReadSpec)

/-- ITS FALSE NEIGHBOUR: 'it returns false'. Refute it at one input. -/
def fnExactUdpReadWrong : ChangeSpec := { name := "fnExactUdpRead", fn := fun _ => fun
  | [d] => { results := [.lit (.bool false)], args := [d] }
  | _ => none }
def FnExactUdpReadWrongFalsely : Prop := fnExactUdpReadRow.holds Try.pinned (OpenSpec.ofChange fnExactUdpReadWrong)

/-- 'laws.FnIp': WHATEVER THE INPUT: true; the input reads as it did. -/
def fnIpSpec : ChangeSpec := { name := "fnIp", fn := fun _ => fun
  | [d] => { results := [.lit (.bool true)], args := [d] }
  | _ => none }
def fnIpRow : OpenClaim := { program := "ytjbjlmaeaajlhaa", sum := "7216c4c9bd68377c9ed8374e1898140a7cb272b26d03065f9b0f03163d39371b", func := "loop.example/g00391/laws.FnIp", spec := "fnIp", apart := false }
def FnIpSaid : Prop := fnIpRow.holds Try.pinned (OpenSpec.ofChange fnIpSpec)

/-- ITS FALSE NEIGHBOUR: 'it returns false'. Refute it at one input. -/
def fnIpWrong : ChangeSpec := { name := "fnIp", fn := fun _ => fun
  | [d] => { results := [.lit (.bool false)], args := [d] }
  | _ => none }
def FnIpWrongFalsely : Prop := fnIpRow.holds Try.pinned (OpenSpec.ofChange fnIpWrong)

/-- 'laws.FnSum': WHATEVER THE INPUT: true; the input reads as it did. -/
def fnSumSpec : ChangeSpec := { name := "fnSum", fn := fun _ => fun
  | [d] => { results := [.lit (.bool true)], args := [d] }
  | _ => none }
def fnSumRow : OpenClaim := { program := "ytjbjlmaeaajlhaa", sum := "7216c4c9bd68377c9ed8374e1898140a7cb272b26d03065f9b0f03163d39371b", func := "loop.example/g00391/laws.FnSum", spec := "fnSum", apart := false }
def FnSumSaid : Prop := fnSumRow.holds Try.pinned (OpenSpec.ofChange fnSumSpec)

/-- ITS FALSE NEIGHBOUR: 'it returns false'. Refute it at one input. -/
def fnSumWrong : ChangeSpec := { name := "fnSum", fn := fun _ => fun
  | [d] => { results := [.lit (.bool false)], args := [d] }
  | _ => none }
def FnSumWrongFalsely : Prop := fnSumRow.holds Try.pinned (OpenSpec.ofChange fnSumWrong)

/- THE SECOND FORM. 'bulk': how many values and letters a reading holds, each counted each time it is reached (what is shared counts as often as it is met; a slice's spare places count too). A statement '..UptoSaid' is the law's where the arguments, and the package variables that the reading takes, are together of bulk at most 1048576: NARROWER than '..Said'. Prove '..Said' where nothing that the law and all that it calls make is longer than what came in: it says more and counts as full. Else prove '..UptoSaid'. A law counts once. -/
mutual
def uptoBulk {H : Type} : DataW H → Nat
  | .lit (.string bytes) => bytes.length + 1
  | .lit _ => 1
  | .nil => 1
  | .ptr d => uptoBulk d + 1
  | .slice elems spare => uptoBulkAll elems + uptoBulkAll spare + 1
  | .agg parts => uptoBulkAll parts + 1
  | .iface _ d => uptoBulk d + 1
  | .map entries => uptoBulkEntries entries + 1
  | .held _ => 1
def uptoBulkAll {H : Type} : List (DataW H) → Nat
  | [] => 0
  | d :: r => uptoBulk d + uptoBulkAll r
def uptoBulkEntries {H : Type} : List (Lit × DataW H) → Nat
  | [] => 0
  | x :: r => uptoBulkEntry x + uptoBulkEntries r
def uptoBulkEntry {H : Type} : Lit × DataW H → Nat
  | (.string bytes, d) => bytes.length + uptoBulk d + 1
  | (_, d) => uptoBulk d + 1
 end
def uptoSmall : (H : Type) → List (DataW H) → Bool := fun _ ds => decide (uptoBulkAll ds ≤ 1048576)
def OpenSpec.upto (s : _root_.Go.ChangeSpec) : _root_.Go.OpenSpec := { _root_.Go.OpenSpec.ofChange s with cond := some uptoSmall }

/-- 'laws.FnExactIpOk', WHERE WHAT IT READS IS OF BULK AT MOST 1048576: true; the input reads as it did. -/
def fnExactIpOkUptoRow : OpenClaim := { program := "ytjbjlmaeaajlhaa", sum := "7216c4c9bd68377c9ed8374e1898140a7cb272b26d03065f9b0f03163d39371b", func := "loop.example/g00391/laws.FnExactIpOk", spec := "fnExactIpOk", apart := false, narrowed := true }
def FnExactIpOkUptoSaid : Prop := fnExactIpOkUptoRow.holds Try.pinned (OpenSpec.upto fnExactIpOkSpec)

/-- 'laws.FnExactIpBytes', WHERE WHAT IT READS IS OF BULK AT MOST 1048576: true; the input reads as it did. -/
def fnExactIpBytesUptoRow : OpenClaim := { program := "ytjbjlmaeaajlhaa", sum := "7216c4c9bd68377c9ed8374e1898140a7cb272b26d03065f9b0f03163d39371b", func := "loop.example/g00391/laws.FnExactIpBytes", spec := "fnExactIpBytes", apart := false, narrowed := true }
def FnExactIpBytesUptoSaid : Prop := fnExactIpBytesUptoRow.holds Try.pinned (OpenSpec.upto fnExactIpBytesSpec)

/-- 'laws.FnExactIpRead', WHERE WHAT IT READS IS OF BULK AT MOST 1048576: true; the input reads as it did. -/
def fnExactIpReadUptoRow : OpenClaim := { program := "ytjbjlmaeaajlhaa", sum := "7216c4c9bd68377c9ed8374e1898140a7cb272b26d03065f9b0f03163d39371b", func := "loop.example/g00391/laws.FnExactIpRead", spec := "fnExactIpRead", apart := false, narrowed := true }
def FnExactIpReadUptoSaid : Prop := fnExactIpReadUptoRow.holds Try.pinned (OpenSpec.upto fnExactIpReadSpec)

/-- 'laws.FnExactHop', WHERE WHAT IT READS IS OF BULK AT MOST 1048576: true; the input reads as it did. -/
def fnExactHopUptoRow : OpenClaim := { program := "ytjbjlmaeaajlhaa", sum := "7216c4c9bd68377c9ed8374e1898140a7cb272b26d03065f9b0f03163d39371b", func := "loop.example/g00391/laws.FnExactHop", spec := "fnExactHop", apart := false, narrowed := true }
def FnExactHopUptoSaid : Prop := fnExactHopUptoRow.holds Try.pinned (OpenSpec.upto fnExactHopSpec)

/-- 'laws.FnExactUdpOk', WHERE WHAT IT READS IS OF BULK AT MOST 1048576: true; the input reads as it did. -/
def fnExactUdpOkUptoRow : OpenClaim := { program := "ytjbjlmaeaajlhaa", sum := "7216c4c9bd68377c9ed8374e1898140a7cb272b26d03065f9b0f03163d39371b", func := "loop.example/g00391/laws.FnExactUdpOk", spec := "fnExactUdpOk", apart := false, narrowed := true }
def FnExactUdpOkUptoSaid : Prop := fnExactUdpOkUptoRow.holds Try.pinned (OpenSpec.upto fnExactUdpOkSpec)

/-- 'laws.FnExactUdpBytes', WHERE WHAT IT READS IS OF BULK AT MOST 1048576: true; the input reads as it did. -/
def fnExactUdpBytesUptoRow : OpenClaim := { program := "ytjbjlmaeaajlhaa", sum := "7216c4c9bd68377c9ed8374e1898140a7cb272b26d03065f9b0f03163d39371b", func := "loop.example/g00391/laws.FnExactUdpBytes", spec := "fnExactUdpBytes", apart := false, narrowed := true }
def FnExactUdpBytesUptoSaid : Prop := fnExactUdpBytesUptoRow.holds Try.pinned (OpenSpec.upto fnExactUdpBytesSpec)

/-- 'laws.FnExactUdpRead', WHERE WHAT IT READS IS OF BULK AT MOST 1048576: true; the input reads as it did. -/
def fnExactUdpReadUptoRow : OpenClaim := { program := "ytjbjlmaeaajlhaa", sum := "7216c4c9bd68377c9ed8374e1898140a7cb272b26d03065f9b0f03163d39371b", func := "loop.example/g00391/laws.FnExactUdpRead", spec := "fnExactUdpRead", apart := false, narrowed := true }
def FnExactUdpReadUptoSaid : Prop := fnExactUdpReadUptoRow.holds Try.pinned (OpenSpec.upto fnExactUdpReadSpec)

/-- 'laws.FnIp', WHERE WHAT IT READS IS OF BULK AT MOST 1048576: true; the input reads as it did. -/
def fnIpUptoRow : OpenClaim := { program := "ytjbjlmaeaajlhaa", sum := "7216c4c9bd68377c9ed8374e1898140a7cb272b26d03065f9b0f03163d39371b", func := "loop.example/g00391/laws.FnIp", spec := "fnIp", apart := false, narrowed := true }
def FnIpUptoSaid : Prop := fnIpUptoRow.holds Try.pinned (OpenSpec.upto fnIpSpec)

/-- 'laws.FnSum', WHERE WHAT IT READS IS OF BULK AT MOST 1048576: true; the input reads as it did. -/
def fnSumUptoRow : OpenClaim := { program := "ytjbjlmaeaajlhaa", sum := "7216c4c9bd68377c9ed8374e1898140a7cb272b26d03065f9b0f03163d39371b", func := "loop.example/g00391/laws.FnSum", spec := "fnSum", apart := false, narrowed := true }
def FnSumUptoSaid : Prop := fnSumUptoRow.holds Try.pinned (OpenSpec.upto fnSumSpec)

end Rows
end Go.Proofs.Ytjbjlmaeaajlhaa
