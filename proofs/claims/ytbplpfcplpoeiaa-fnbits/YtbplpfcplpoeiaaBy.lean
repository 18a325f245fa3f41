/-
  The highest bits, plain: how many they are, those of less of them.
-/
import Derived.Test.YtbplpfcplpoeiaaMa
import Derived.Test.YtbplpfcplpoeiaaMw
namespace Go.Proofs.Ytbplpfcplpoeiaa.By
open Bx

theorem top_bit (b n i : Nat) (hn : n ≤ b) : (Bt.top b n).testBit i = (decide (b - n ≤ i) && decide (i < b)) := by
  unfold Bt.top
  rw [Nat.testBit_mul_two_pow, Nat.testBit_two_pow_sub_one]
  by_cases h1 : b - n ≤ i
  · have : (i - (b - n) < n) = (i < b) := by apply propext; omega
    simp [h1, this]
  · simp [h1]
theorem top_and {b m n : Nat} (hn : n ≤ b) (hm : m ≤ n) : Bt.top b n &&& Bt.top b m = Bt.top b m := by
  apply Nat.eq_of_testBit_eq
  intro i
  rw [Nat.testBit_and, top_bit b n i hn, top_bit b m i (by omega)]
  by_cases h1 : b - m ≤ i
  · have : b - n ≤ i := by omega
    simp [h1, this]
  · simp [h1]
theorem hi_and {v b m n : Nat} (hv : v < 2 ^ b) (hn : n ≤ b) (hm : m ≤ n) : hi v b n &&& Bt.top b m = hi v b m := by
  rw [← and_top hv hn, Nat.and_assoc, top_and hn hm, and_top hv (by omega)]
theorem top_digit (b n i : Nat) (hn : n ≤ b) : Bt.top b n / 2 ^ i % 2 = if b - n ≤ i ∧ i < b then 1 else 0 := by
  rw [← Nat.toNat_testBit, top_bit b n i hn]
  by_cases h1 : b - n ≤ i <;> by_cases h2 : i < b <;> simp [h1, h2]
theorem top_cnt (b n : Nat) (hn : n ≤ b) : ∀ k, Bt.cnt (Bt.top b n) k = min k b - min k (b - n)
  | 0 => by simp [Bt.cnt]
  | k + 1 => by
    rw [Bt.cnt, top_cnt b n hn k, top_digit b n k hn]
    split <;> omega
theorem top_ne {b n : Nat} (hn : n + 1 ≤ b) : Bt.top b n ≠ Bt.top b (n + 1) := by
  rw [Bt.top_succ (by omega)]
  have : 0 < 2 ^ (b - (n + 1)) := Nat.pow_pos (by decide)
  omega

end Go.Proofs.Ytbplpfcplpoeiaa.By
