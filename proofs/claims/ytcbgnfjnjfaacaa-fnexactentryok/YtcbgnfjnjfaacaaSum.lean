/-
  Contracts of the two Sum16: what they answer, on every slice of bytes.
-/
import Derived.Test.YtcbgnfjnjfaacaaGet
namespace Go.Proofs.Ytcbgnfjnjfaacaa.Sm
open Go.RowKit
open Num Rw

/-- The k-th pair of bytes; a last byte without a partner takes 0. -/
def pair (l : List Int) (k : Nat) : Int := l.getD (2 * k) 0 * 256 + l.getD (2 * k + 1) 0

theorem ret_int {k : IntKind} {a b : Int} (h : a = b) : Ending.returned (.int k a) = .returned (.int k b) := by rw [h]

def fold (t : Int) : Int := if 65535 < t then t - 65535 else t

/-- The sum of the first k pairs. -/
def sm (l : List Int) : Nat → Int
  | 0 => 0
  | k + 1 => fold (sm l k + pair l k)

theorem pair_bd (l : List Int) (hy : Byt l) (k : Nat) : 0 ≤ pair l k ∧ pair l k ≤ 65535 := by
  have h1 := hy.at (2 * k)
  have h2 := hy.at (2 * k + 1)
  unfold pair; omega

theorem sm_bd (l : List Int) (hy : Byt l) : ∀ k, 0 ≤ sm l k ∧ sm l k ≤ 65535
  | 0 => by simp [sm]
  | k + 1 => by
    have ih := sm_bd l hy k
    have hp := pair_bd l hy k
    simp only [sm, fold]
    split <;> omega

theorem pair_last (l : List Int) (k : Nat) (h : l.length ≤ 2 * k + 1) : pair l k = l.getD (2 * k) 0 * 256 := by
  unfold pair
  have e : l.getD (2 * k + 1) 0 = 0 := by simp [List.getD, List.getElem?_eq_none h]
  rw [e]; omega

end Go.Proofs.Ytcbgnfjnjfaacaa.Sm
