/-
  The highest bits of a number, plain.
-/
import Derived.Test.YtbplpfcplpoeiaaMv
namespace Go.Proofs.Ytbplpfcplpoeiaa.Bx
open Go Go.RowKit
open Num Bw Mo

/-- The n highest of the b bits of v. -/
def hi (v b n : Nat) : Nat := v / 2 ^ (b - n) * 2 ^ (b - n)
theorem hi_zero {v b : Nat} (h : v < 2 ^ b) : hi v b 0 = 0 := by
  unfold hi
  rw [Nat.sub_zero, Nat.div_eq_of_lt h, Nat.zero_mul]
theorem hi_succ {v b n : Nat} (h : n < b) : hi v b (n + 1) = hi v b n + (v / 2 ^ (b - (n + 1)) % 2) * 2 ^ (b - (n + 1)) := Bt.high_succ h
theorem hi_le (v b n : Nat) : hi v b n ≤ v := Nat.div_mul_le_self _ _
theorem and_top {v b n : Nat} (hv : v < 2 ^ b) (hn : n ≤ b) : v &&& Bt.top b n = hi v b n := by
  apply Nat.eq_of_testBit_eq
  intro i
  unfold Bt.top hi
  rw [Nat.testBit_and, Nat.testBit_mul_two_pow, Nat.testBit_mul_two_pow, Nat.testBit_two_pow_sub_one, Nat.testBit_div_two_pow]
  by_cases h1 : b - n ≤ i
  · have e : b - n + (i - (b - n)) = i := by omega
    rw [Nat.add_comm] at e
    simp only [h1, decide_true, Bool.true_and]
    have e2 : i - (b - n) + (b - n) = i := by omega
    by_cases h2 : i < b
    · have : i - (b - n) < n := by omega
      simp [this, e2]
    · have hb := Bt.testBit_out hv (Nat.le_of_not_lt h2)
      simp [e2, hb]
  · simp [h1]
theorem top_zero (b : Nat) : Bt.top b 0 = 0 := by simp [Bt.top]
/-- The bit that is put next. -/
def bitN (b i : Nat) : Nat := 2 ^ (b - i) / 2
theorem bitN_lt {b i : Nat} (h : i < b) : bitN b i = 2 ^ (b - (i + 1)) := by
  unfold bitN
  have e : b - i = (b - (i + 1)) + 1 := by omega
  rw [e, Nat.pow_succ, Nat.mul_div_cancel _ (by decide)]
theorem bitN_half {b i : Nat} (h : i < b) : bitN b i / 2 = bitN b (i + 1) := by rw [bitN_lt h]; rfl

end Go.Proofs.Ytbplpfcplpoeiaa.Bx
