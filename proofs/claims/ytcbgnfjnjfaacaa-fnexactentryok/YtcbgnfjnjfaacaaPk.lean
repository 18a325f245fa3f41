/-
  Contracts of the two PacketOk and their helpers: what they answer, on every packet.
-/
import Derived.Test.YtcbgnfjnjfaacaaPut
namespace Go.Proofs.Ytcbgnfjnjfaacaa.Pk
open Go.RowKit
open Num Rw Mk

def numB (n : Int) : Bool := decide (0 ≤ n ∧ n ≤ 281474976710655)
def tagB (t : Int) : Bool := decide (-1 ≤ t ∧ t ≤ 4094)
def typB (y : Int) : Bool := decide (1536 ≤ y ∧ y ≤ 65535 ∧ y ≠ 33024)
/-- 'PacketOk' as a truth value. -/
def okB (d s t y : Int) (n : Nat) : Bool := numB d && numB s && tagB t && typB y && decide (n ≤ 1500)

theorem num6 (n : Int) : numOkB n 6 = numB n := by
  unfold numOkB numB; rw [Bool.eq_iff_iff]; simp [pw]; omega

end Go.Proofs.Ytcbgnfjnjfaacaa.Pk
