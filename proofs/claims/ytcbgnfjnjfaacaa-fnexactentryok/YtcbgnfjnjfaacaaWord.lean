/-
  Contracts of the two WordOk: what they answer, on every string.
-/
import Derived.Test.YtcbgnfjnjfaacaaRows
import Derived.Test.YtcbgnfjnjfaacaaNum
import Derived.WalkLawsBesides
namespace Go.Proofs.Ytcbgnfjnjfaacaa.Word
open Go.RowKit
open Num

/-- The byte at place k; 0 behind the end. -/
def ch (s : ByteArray) (k : Nat) : Int := ((s.data.toList.getD k 0).toNat : Int)
theorem ch_at (s : ByteArray) (k : Nat) (h : k < s.size) : ((s[k]'h).toNat : Int) = ch s k := by
  unfold ch
  have h' : k < s.data.toList.length := by simpa using h
  simp only [List.getD, List.getElem?_eq_getElem h', Option.getD_some]
  rfl

def gd (k : Nat) (c : Int) : Bool := decide ((97 ≤ c ∧ c ≤ 122) ∨ (48 ≤ c ∧ c ≤ 57 ∧ k ≠ 0))
/-- 'WordOk' as a truth value. -/
def wordB (s : ByteArray) : Bool := decide (1 ≤ s.size ∧ s.size ≤ 12 ∧ ∀ k, k < s.size → gd k (ch s k) = true)

theorem word_size {s : ByteArray} (h : ¬ (1 ≤ s.size ∧ s.size ≤ 12)) : wordB s = false := by
  unfold wordB; rw [decide_eq_false]; intro ⟨a, b, _⟩; exact h ⟨a, b⟩
theorem word_bad {s : ByteArray} {k : Nat} (hk : k < s.size) (h : gd k (ch s k) = false) : wordB s = false := by
  unfold wordB; rw [decide_eq_false]; intro ⟨_, _, c⟩; rw [c k hk] at h; simp at h
theorem word_good {s : ByteArray} (h1 : 1 ≤ s.size) (h2 : s.size ≤ 12) (h : ∀ k, k < s.size → gd k (ch s k) = true) : wordB s = true := by
  unfold wordB; exact decide_eq_true ⟨h1, h2, h⟩

end Go.Proofs.Ytcbgnfjnjfaacaa.Word
