/-
  Bits of integers of 64 bits: what is left of a value without its mask, shifts.
-/
import Derived.Test.YtcbgnfjnjfaacaaBu
import Derived.Test.YtcbgnfjnjfaacaaBt
namespace Go.Proofs.Ytcbgnfjnjfaacaa.Bv
open Go Go.RowKit

theorem andNot_nat (a b : Nat) (ha : a < 2 ^ 64) (hb : b < 2 ^ 64) : a &&& (2 ^ 64 - 1 - b) = 0 ↔ a ||| b = b := by
  rw [Bt.within_iff]
  have key : ∀ i, (2 ^ 64 - 1 - b).testBit i = (decide (i < 64) && !b.testBit i) := by
    intro i
    have e : 2 ^ 64 - 1 - b = 2 ^ 64 - (b + 1) := by omega
    rw [e, Nat.testBit_two_pow_sub_succ hb]
  constructor
  · intro h i hi
    have := congrArg (fun n => n.testBit i) h
    simp only [Nat.testBit_and, Nat.zero_testBit, key, hi, Bool.true_and] at this
    have hi64 : i < 64 := by
      refine Nat.lt_of_not_le fun hle => ?_
      rw [Bt.testBit_out ha hle] at hi
      exact absurd hi (by simp)
    simpa [hi64] using this
  · intro h
    apply Nat.eq_of_testBit_eq
    intro i
    simp only [Nat.testBit_and, Nat.zero_testBit, key]
    cases hi : a.testBit i with
    | false => simp
    | true => simp [h i hi]

theorem wrap_zero (x : Nat) (hx : x < 2 ^ 64) : (IntKind.i64.wrap (x : Int) == 0) = decide (x = 0) := by
  have e : IntKind.i64.wrap (x : Int) = if (9223372036854775808 : Int) ≤ (x : Int) % 18446744073709551616 then (x : Int) % 18446744073709551616 - 18446744073709551616 else (x : Int) % 18446744073709551616 := by
    simp [IntKind.wrap, IntKind.bits, IntKind.signed]
  rw [e, Bool.eq_iff_iff]
  simp only [beq_iff_eq, decide_eq_true_eq]
  split <;> constructor <;> intro h <;> omega

theorem andNot_zero (v m : Int) (hv : -9223372036854775808 ≤ v) (hv' : v < 9223372036854775808) (hm : 0 ≤ m) (hm' : m < 9223372036854775808) :
    (bits .andNot .i64 v m == 0) = decide (0 ≤ v ∧ v.toNat ||| m.toNat = m.toNat) := by
  obtain ⟨a, ha, hav⟩ : ∃ a : Nat, a < 2 ^ 64 ∧ (BitVec.ofInt 64 v).toNat = a := ⟨_, (BitVec.ofInt 64 v).isLt, rfl⟩
  have hb : (BitVec.ofInt 64 m).toNat = m.toNat := by
    rw [BitVec.toNat_ofInt]; omega
  have hbl : m.toNat < 2 ^ 64 := by omega
  have e1 : bits .andNot .i64 v m = IntKind.i64.wrap (((a &&& (2 ^ 64 - 1 - m.toNat)) : Nat) : Int) := by
    simp only [bits]
    show IntKind.i64.wrap (((BitVec.ofInt 64 v &&& ~~~(BitVec.ofInt 64 m)).toNat : Nat) : Int) = _
    rw [BitVec.toNat_and, BitVec.toNat_not, hav, hb]
  rw [e1, wrap_zero _ (Nat.lt_of_le_of_lt Nat.and_le_left ha)]
  rw [Bool.eq_iff_iff]
  simp only [decide_eq_true_eq]
  rw [andNot_nat a m.toNat ha hbl]
  have hav' : a = if 0 ≤ v then v.toNat else (v + 18446744073709551616).toNat := by
    rw [← hav, BitVec.toNat_ofInt]
    split <;> omega
  by_cases h0 : 0 ≤ v
  · rw [if_pos h0] at hav'
    subst hav'
    simp [h0]
  · rw [if_neg h0] at hav'
    constructor
    · intro h
      have : a ≤ a ||| m.toNat := Nat.left_le_or
      omega
    · intro h; exact absurd h.1 h0

end Go.Proofs.Ytcbgnfjnjfaacaa.Bv
