/-
  Contracts of the two GetNum: what they answer, on every slice and every two integers.
-/
import Derived.Test.YtcbgnfjnjfaacaaRow
import Derived.Laws.BitsLemmas
namespace Go.Proofs.Ytcbgnfjnjfaacaa.Get
open Go.RowKit
open Num Rw

/-- The number in the k bytes from 'at' on. -/
def acc (l : List Int) (p : Nat) : Nat → Int
  | 0 => 0
  | k + 1 => acc l p k * 256 + l.getD (p + k) 0

theorem acc_bd (l : List Int) (p : Nat) (hy : Byt l) : ∀ k, 0 ≤ acc l p k ∧ acc l p k < (pw k : Int)
  | 0 => by simp [acc, pw]
  | k + 1 => by
    have ih := acc_bd l p hy k
    have hb := hy.at (p + k)
    have e : (pw (k + 1) : Int) = (pw k : Int) * 256 := by rw [pw_succ]; omega
    rw [e]
    simp only [acc]
    omega

theorem wraps_i64 (n : Int) (h₀ : 0 ≤ n) (h₁ : n < 2 ^ 63) : IntKind.i64.wrap n = n := by rw [IntKind.wrap_i64]; omega
theorem or256 (x y : Int) (h0 : 0 ≤ x) (h1 : x < 1099511627776) (h2 : 0 ≤ y) (h3 : y ≤ 255) : bits .or .i64 (x * 256) y = x * 256 + y :=
  bits_join .i64 63 (by decide) wraps_i64 8 (x * 256) y (by omega) (by omega) (by omega) h2 (by omega) (by omega)

/-- Whether there is such a number. -/
def getOk (len : Nat) (p size : Int) : Prop := 1 ≤ size ∧ size ≤ 6 ∧ 0 ≤ p ∧ p ≤ (len : Int) - size

theorem ret_get {a b : Int} (h : a = b) : Ending.returned (.tuple #[.int .i64 a, .bool true]) = .returned (.tuple #[.int .i64 b, .bool true]) := by rw [h]

end Go.Proofs.Ytcbgnfjnjfaacaa.Get
