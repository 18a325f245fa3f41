/-
  No cell of these rows narrows 'for every input' (looked for: loops, veiled, ifaces, maps, wideKeys, modest, calm, conditions, laid).
  DERIVED. THE GIVEN ROWS OF THIS SEAT. 7 by the template 'for every input the law returns true; each argument reads behind the call as it read before'; 0 by the template 'total and deterministic' (their statements: YtecnbenlmbppbaaGreatTotals.lean).
  GIVEN WITH THE SEED: the statements are not yours to turn. If you find one false, say at which input.
  Laid BY PROGRAM, IN A SANDBOX (cutbox-rows.mjs): the forced cells as the released guide's own fill.sh prints them over the translation db03852a49f6f4c0… (all of the seat's roots in one cut). By AI agents, Wed Nov 11 2026. No macro, syntax, notation, axiom, sorry.
-/
import Derived.Test.YtecnbenlmbppbaaGreatChecked
import GoSem.Claim
import GoSem.ClaimJoined
import GoSem.ClaimMapViews
import Derived.JoinedTies
import Derived.KernelRfl
namespace Go.Proofs.YtecnbenlmbppbaaGreat
/- THE CELL 'sum', in the pinned program and in every row, IS THE sha256 OF THE DUMP (.gsa) THAT YtecnbenlmbppbaaGreatProg.lean LOADS. Nothing in Lean hashes anything: it is a label: what it is worth is what the hold of that sum in a sandbox is worth. -/
noncomputable def Tryz.pinned : Pinned := { name := "ytecnbenlmbppbaagreat", sum := "db03852a49f6f4c0c574471be0c3a378db5f2f40864b8232681172fefe682194", checked := Tryz.checked }
namespace Rows
def none {H : Type} : Left H := { results := [], args := [] }

/-- 'laws.FnStore': WHATEVER THE INPUT: true; the input reads as it did. -/
def fnStoreSpec : ChangeSpec := { name := "fnStore", fn := fun _ => fun
  | [d] => { results := [.lit (.bool true)], args := [d] }
  | _ => none }
def fnStoreRow : OpenClaim := { program := "ytecnbenlmbppbaagreat", sum := "db03852a49f6f4c0c574471be0c3a378db5f2f40864b8232681172fefe682194", func := "loop.example/g00391/laws.FnStore", spec := "fnStore", unfollowed := true, recurses := true, apart := false }
def FnStoreSaid : Prop := fnStoreRow.holds Tryz.pinned (OpenSpec.ofChange fnStoreSpec)

/-- ITS FALSE NEIGHBOUR: 'it returns false'. Refute it at one input. -/
def fnStoreWrong : ChangeSpec := { name := "fnStore", fn := fun _ => fun
  | [d] => { results := [.lit (.bool false)], args := [d] }
  | _ => none }
def FnStoreWrongFalsely : Prop := fnStoreRow.holds Tryz.pinned (OpenSpec.ofChange fnStoreWrong)

/-- 'laws.FnExactStorePut': WHATEVER THE INPUT: true; the input reads as it did. -/
def fnExactStorePutSpec : ChangeSpec := { name := "fnExactStorePut", fn := fun _ => fun
  | [d1, d2, d3] => { results := [.lit (.bool true)], args := [d1, d2, d3] }
  | _ => none }
def fnExactStorePutRow : OpenClaim := { program := "ytecnbenlmbppbaagreat", sum := "db03852a49f6f4c0c574471be0c3a378db5f2f40864b8232681172fefe682194", func := "loop.example/g00391/laws.FnExactStorePut", spec := "fnExactStorePut", unfollowed := true, recurses := true, apart := false }
def FnExactStorePutSaid : Prop := fnExactStorePutRow.holds Tryz.pinned (OpenSpec.ofChange fnExactStorePutSpec)

/-- ITS FALSE NEIGHBOUR: 'it returns false'. Refute it at one input. -/
def fnExactStorePutWrong : ChangeSpec := { name := "fnExactStorePut", fn := fun _ => fun
  | [d1, d2, d3] => { results := [.lit (.bool false)], args := [d1, d2, d3] }
  | _ => none }
def FnExactStorePutWrongFalsely : Prop := fnExactStorePutRow.holds Tryz.pinned (OpenSpec.ofChange fnExactStorePutWrong)

/-- 'laws.FnExactStoreRead': WHATEVER THE INPUT: true; the input reads as it did. -/
def fnExactStoreReadSpec : ChangeSpec := { name := "fnExactStoreRead", fn := fun _ => fun
  | [d] => { results := [.lit (.bool true)], args := [d] }
  | _ => none }
def fnExactStoreReadRow : OpenClaim := { program := "ytecnbenlmbppbaagreat", sum := "db03852a49f6f4c0c574471be0c3a378db5f2f40864b8232681172fefe682194", func := "loop.example/g00391/laws.FnExactStoreRead", spec := "fnExactStoreRead", unfollowed := true, recurses := true, apart := false }
def FnExactStoreReadSaid : Prop := fnExactStoreReadRow.holds Tryz.pinned (OpenSpec.ofChange fnExactStoreReadSpec)

/-- ITS FALSE NEIGHBOUR: 'it returns false'. Refute it at one input. -/
def fnExactStoreReadWrong : ChangeSpec := { name := "fnExactStoreRead", fn := fun _ => fun
  | [d] => { results := [.lit (.bool false)], args := [d] }
  | _ => none }
def FnExactStoreReadWrongFalsely : Prop := fnExactStoreReadRow.holds Tryz.pinned (OpenSpec.ofChange fnExactStoreReadWrong)

/-- 'laws.FnExactRelJoin': WHATEVER THE INPUT: true; the input reads as it did. -/
def fnExactRelJoinSpec : ChangeSpec := { name := "fnExactRelJoin", fn := fun _ => fun
  | [d1, d2, d3] => { results := [.lit (.bool true)], args := [d1, d2, d3] }
  | _ => none }
def fnExactRelJoinRow : OpenClaim := { program := "ytecnbenlmbppbaagreat", sum := "db03852a49f6f4c0c574471be0c3a378db5f2f40864b8232681172fefe682194", func := "loop.example/g00391/laws.FnExactRelJoin", spec := "fnExactRelJoin", inPlace := ["slices.overlaps[loop.example/g00391/impl.Row]"], unfollowed := true, recurses := true, apart := false }
def FnExactRelJoinSaid : Prop := fnExactRelJoinRow.holds Tryz.pinned (OpenSpec.ofChange fnExactRelJoinSpec)

/-- ITS FALSE NEIGHBOUR: 'it returns false'. Refute it at one input. -/
def fnExactRelJoinWrong : ChangeSpec := { name := "fnExactRelJoin", fn := fun _ => fun
  | [d1, d2, d3] => { results := [.lit (.bool false)], args := [d1, d2, d3] }
  | _ => none }
def FnExactRelJoinWrongFalsely : Prop := fnExactRelJoinRow.holds Tryz.pinned (OpenSpec.ofChange fnExactRelJoinWrong)

/-- 'laws.FnExactRelReach': WHATEVER THE INPUT: true; the input reads as it did. -/
def fnExactRelReachSpec : ChangeSpec := { name := "fnExactRelReach", fn := fun _ => fun
  | [d] => { results := [.lit (.bool true)], args := [d] }
  | _ => none }
def fnExactRelReachRow : OpenClaim := { program := "ytecnbenlmbppbaagreat", sum := "db03852a49f6f4c0c574471be0c3a378db5f2f40864b8232681172fefe682194", func := "loop.example/g00391/laws.FnExactRelReach", spec := "fnExactRelReach", inPlace := ["slices.overlaps[loop.example/g00391/impl.Row]"], unfollowed := true, recurses := true, apart := false }
def FnExactRelReachSaid : Prop := fnExactRelReachRow.holds Tryz.pinned (OpenSpec.ofChange fnExactRelReachSpec)

/-- ITS FALSE NEIGHBOUR: 'it returns false'. Refute it at one input. -/
def fnExactRelReachWrong : ChangeSpec := { name := "fnExactRelReach", fn := fun _ => fun
  | [d] => { results := [.lit (.bool false)], args := [d] }
  | _ => none }
def FnExactRelReachWrongFalsely : Prop := fnExactRelReachRow.holds Tryz.pinned (OpenSpec.ofChange fnExactRelReachWrong)

/-- 'laws.FnJoin': WHATEVER THE INPUT: true; the input reads as it did. -/
def fnJoinSpec : ChangeSpec := { name := "fnJoin", fn := fun _ => fun
  | [d] => { results := [.lit (.bool true)], args := [d] }
  | _ => none }
def fnJoinRow : OpenClaim := { program := "ytecnbenlmbppbaagreat", sum := "db03852a49f6f4c0c574471be0c3a378db5f2f40864b8232681172fefe682194", func := "loop.example/g00391/laws.FnJoin", spec := "fnJoin", inPlace := ["slices.overlaps[loop.example/g00391/impl.Row]"], unfollowed := true, recurses := true, apart := false }
def FnJoinSaid : Prop := fnJoinRow.holds Tryz.pinned (OpenSpec.ofChange fnJoinSpec)

/-- ITS FALSE NEIGHBOUR: 'it returns false'. Refute it at one input. -/
def fnJoinWrong : ChangeSpec := { name := "fnJoin", fn := fun _ => fun
  | [d] => { results := [.lit (.bool false)], args := [d] }
  | _ => none }
def FnJoinWrongFalsely : Prop := fnJoinRow.holds Tryz.pinned (OpenSpec.ofChange fnJoinWrong)

/-- 'laws.FnReach': WHATEVER THE INPUT: true; the input reads as it did. -/
def fnReachSpec : ChangeSpec := { name := "fnReach", fn := fun _ => fun
  | [d] => { results := [.lit (.bool true)], args := [d] }
  | _ => none }
def fnReachRow : OpenClaim := { program := "ytecnbenlmbppbaagreat", sum := "db03852a49f6f4c0c574471be0c3a378db5f2f40864b8232681172fefe682194", func := "loop.example/g00391/laws.FnReach", spec := "fnReach", inPlace := ["slices.overlaps[loop.example/g00391/impl.Row]"], unfollowed := true, recurses := true, apart := false }
def FnReachSaid : Prop := fnReachRow.holds Tryz.pinned (OpenSpec.ofChange fnReachSpec)

/-- ITS FALSE NEIGHBOUR: 'it returns false'. Refute it at one input. -/
def fnReachWrong : ChangeSpec := { name := "fnReach", fn := fun _ => fun
  | [d] => { results := [.lit (.bool false)], args := [d] }
  | _ => none }
def FnReachWrongFalsely : Prop := fnReachRow.holds Tryz.pinned (OpenSpec.ofChange fnReachWrong)

/- THE SECOND FORM. 'bulk': how many values and letters a reading holds, each counted each time it is reached (what is shared counts as often as it is met; a slice's spare places count too). A statement '..UptoSaid' is the law's where the arguments, and the package variables that the reading takes, are together of bulk at most 1048576: NARROWER than '..Said'. Prove '..Said' where nothing that the law and all that it calls make is longer than what came in: it says more and counts as full. Else prove '..UptoSaid'. A law counts once. -/
mutual
def uptoBulk {H : Type} : DataW H → Nat
  | .lit (.string bytes) => bytes.length + 1
  | .lit _ => 1
  | .nil => 1
  | .ptr d => uptoBulk d + 1
  | .slice elems spare => uptoBulkAll elems + uptoBulkAll spare + 1
  | .agg parts => uptoBulkAll parts + 1
  | .iface _ d => uptoBulk d + 1
  | .map entries => uptoBulkEntries entries + 1
  | .held _ => 1
def uptoBulkAll {H : Type} : List (DataW H) → Nat
  | [] => 0
  | d :: r => uptoBulk d + uptoBulkAll r
def uptoBulkEntries {H : Type} : List (Lit × DataW H) → Nat
  | [] => 0
  | x :: r => uptoBulkEntry x + uptoBulkEntries r
def uptoBulkEntry {H : Type} : Lit × DataW H → Nat
  | (.string bytes, d) => bytes.length + uptoBulk d + 1
  | (_, d) => uptoBulk d + 1
 end
def uptoSmall : (H : Type) → List (DataW H) → Bool := fun _ ds => decide (uptoBulkAll ds ≤ 1048576)
def OpenSpec.upto (s : _root_.Go.ChangeSpec) : _root_.Go.OpenSpec := { _root_.Go.OpenSpec.ofChange s with cond := some uptoSmall }

/-- 'laws.FnStore', WHERE WHAT IT READS IS OF BULK AT MOST 1048576: true; the input reads as it did. -/
def fnStoreUptoRow : OpenClaim := { program := "ytecnbenlmbppbaagreat", sum := "db03852a49f6f4c0c574471be0c3a378db5f2f40864b8232681172fefe682194", func := "loop.example/g00391/laws.FnStore", spec := "fnStore", unfollowed := true, recurses := true, apart := false, narrowed := true }
def FnStoreUptoSaid : Prop := fnStoreUptoRow.holds Tryz.pinned (OpenSpec.upto fnStoreSpec)

/-- 'laws.FnExactStorePut', WHERE WHAT IT READS IS OF BULK AT MOST 1048576: true; the input reads as it did. -/
def fnExactStorePutUptoRow : OpenClaim := { program := "ytecnbenlmbppbaagreat", sum := "db03852a49f6f4c0c574471be0c3a378db5f2f40864b8232681172fefe682194", func := "loop.example/g00391/laws.FnExactStorePut", spec := "fnExactStorePut", unfollowed := true, recurses := true, apart := false, narrowed := true }
def FnExactStorePutUptoSaid : Prop := fnExactStorePutUptoRow.holds Tryz.pinned (OpenSpec.upto fnExactStorePutSpec)

/-- 'laws.FnExactStoreRead', WHERE WHAT IT READS IS OF BULK AT MOST 1048576: true; the input reads as it did. -/
def fnExactStoreReadUptoRow : OpenClaim := { program := "ytecnbenlmbppbaagreat", sum := "db03852a49f6f4c0c574471be0c3a378db5f2f40864b8232681172fefe682194", func := "loop.example/g00391/laws.FnExactStoreRead", spec := "fnExactStoreRead", unfollowed := true, recurses := true, apart := false, narrowed := true }
def FnExactStoreReadUptoSaid : Prop := fnExactStoreReadUptoRow.holds Tryz.pinned (OpenSpec.upto fnExactStoreReadSpec)

/-- 'laws.FnExactRelJoin', WHERE WHAT IT READS IS OF BULK AT MOST 1048576: true; the input reads as it did. -/
def fnExactRelJoinUptoRow : OpenClaim := { program := "ytecnbenlmbppbaagreat", sum := "db03852a49f6f4c0c574471be0c3a378db5f2f40864b8232681172fefe682194", func := "loop.example/g00391/laws.FnExactRelJoin", spec := "fnExactRelJoin", inPlace := ["slices.overlaps[loop.example/g00391/impl.Row]"], unfollowed := true, recurses := true, apart := false, narrowed := true }
def FnExactRelJoinUptoSaid : Prop := fnExactRelJoinUptoRow.holds Tryz.pinned (OpenSpec.upto fnExactRelJoinSpec)

/-- 'laws.FnExactRelReach', WHERE WHAT IT READS IS OF BULK AT MOST 1048576: true; the input reads as it did. -/
def fnExactRelReachUptoRow : OpenClaim := { program := "ytecnbenlmbppbaagreat", sum := "db03852a49f6f4c0c574471be0c3a378db5f2f40864b8232681172fefe682194", func := "loop.example/g00391/laws.FnExactRelReach", spec := "fnExactRelReach", inPlace := ["slices.overlaps[loop.example/g00391/impl.Row]"], unfollowed := true, recurses := true, apart := false, narrowed := true }
def FnExactRelReachUptoSaid : Prop := fnExactRelReachUptoRow.holds Tryz.pinned (OpenSpec.upto fnExactRelReachSpec)

/-- 'laws.FnJoin', WHERE WHAT IT READS IS OF BULK AT MOST 1048576: true; the input reads as it did. -/
def fnJoinUptoRow : OpenClaim := { program := "ytecnbenlmbppbaagreat", sum := "db03852a49f6f4c0c574471be0c3a378db5f2f40864b8232681172fefe682194", func := "loop.example/g00391/laws.FnJoin", spec := "fnJoin", inPlace := ["slices.overlaps[loop.example/g00391/impl.Row]"], unfollowed := true, recurses := true, apart := false, narrowed := true }
def FnJoinUptoSaid : Prop := fnJoinUptoRow.holds Tryz.pinned (OpenSpec.upto fnJoinSpec)

/-- 'laws.FnReach', WHERE WHAT IT READS IS OF BULK AT MOST 1048576: true; the input reads as it did. -/
def fnReachUptoRow : OpenClaim := { program := "ytecnbenlmbppbaagreat", sum := "db03852a49f6f4c0c574471be0c3a378db5f2f40864b8232681172fefe682194", func := "loop.example/g00391/laws.FnReach", spec := "fnReach", inPlace := ["slices.overlaps[loop.example/g00391/impl.Row]"], unfollowed := true, recurses := true, apart := false, narrowed := true }
def FnReachUptoSaid : Prop := fnReachUptoRow.holds Tryz.pinned (OpenSpec.upto fnReachSpec)

end Rows
end Go.Proofs.YtecnbenlmbppbaaGreat
