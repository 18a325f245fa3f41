/-
  Contracts of the numbers in bytes: what the two NumOk and their helpers answer, on every integer.
-/
import Derived.Test.YtljlgjgfmgilaaaGreatRows
import Derived.WalkKit
import Derived.ProofKit
namespace Go.Proofs.YtljlgjgfmgilaaaGreat.Num
open Go.RowKit
set_option maxRecDepth 8000

/-- 256 to the power k. -/
def pw (k : Nat) : Nat := 256 ^ k
theorem pw_zero : pw 0 = 1 := rfl
theorem pw_succ (k : Nat) : pw (k + 1) = pw k * 256 := by unfold pw; rw [Nat.pow_succ]
theorem pw_le (k : Nat) (h : k ≤ 5) : pw k ≤ 1099511627776 := by
  have : pw k ≤ pw 5 := Nat.pow_le_pow_right (by decide) h
  simpa [pw] using this
theorem pw_pos (k : Nat) : 1 ≤ pw k := Nat.pow_pos (by decide)

/-- 'NumOk' as a truth value. -/
def numOkB (n size : Int) : Bool := decide (1 ≤ size ∧ size ≤ 6 ∧ 0 ≤ n ∧ n < (pw size.toNat : Int))


theorem numOk_no1 {n size : Int} (h : size < 1) : numOkB n size = false := by unfold numOkB; rw [decide_eq_false]; omega
theorem numOk_no2 {n size : Int} (h : 6 < size) : numOkB n size = false := by unfold numOkB; rw [decide_eq_false]; omega
theorem numOk_no3 {n size : Int} (h : n < 0) : numOkB n size = false := by unfold numOkB; rw [decide_eq_false]; omega
theorem numOk_in {n size : Int} (h1 : 1 ≤ size) (h2 : size ≤ 6) (h3 : 0 ≤ n) : numOkB n size = decide (n < (pw size.toNat : Int)) := by
  unfold numOkB; rw [Bool.eq_iff_iff]; simp; omega
theorem ret_bool {a b : Bool} (h : a = b) : Ending.returned (.bool a) = .returned (.bool b) := by rw [h]

end Go.Proofs.YtljlgjgfmgilaaaGreat.Num
