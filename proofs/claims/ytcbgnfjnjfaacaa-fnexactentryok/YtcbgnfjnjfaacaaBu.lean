/-
  Bits of integers of 64 bits, where neither is below 0.
-/
import Derived.Test.YtcbgnfjnjfaacaaGet
import Derived.Laws.BitsAllLaws
namespace Go.Proofs.Ytcbgnfjnjfaacaa.Bu
open Go Go.RowKit

theorem or_i64 (a b : Nat) (ha : a < 2 ^ 63) (hb : b < 2 ^ 63) : bits .or .i64 (a : Int) (b : Int) = ((a ||| b : Nat) : Int) := by
  have hp : a ||| b < 2 ^ 63 := Nat.or_lt_two_pow ha hb
  simp only [bits, BitVec.ofInt_natCast, BitVec.toNat_or, BitVec.toNat_ofNat]
  rw [Nat.mod_eq_of_lt (show a < 2 ^ IntKind.i64.bits from Nat.lt_of_lt_of_le ha (by decide)), Nat.mod_eq_of_lt (show b < 2 ^ IntKind.i64.bits from Nat.lt_of_lt_of_le hb (by decide))]
  exact Get.wraps_i64 _ (by omega) (by omega)
theorem and_i64 (a b : Nat) (ha : a < 2 ^ 63) (hb : b < 2 ^ 63) : bits .and .i64 (a : Int) (b : Int) = ((a &&& b : Nat) : Int) := by
  have hp : a &&& b < 2 ^ 63 := Nat.lt_of_le_of_lt Nat.and_le_left ha
  simp only [bits, BitVec.ofInt_natCast, BitVec.toNat_and, BitVec.toNat_ofNat]
  rw [Nat.mod_eq_of_lt (show a < 2 ^ IntKind.i64.bits from Nat.lt_of_lt_of_le ha (by decide)), Nat.mod_eq_of_lt (show b < 2 ^ IntKind.i64.bits from Nat.lt_of_lt_of_le hb (by decide))]
  exact Get.wraps_i64 _ (by omega) (by omega)
theorem or_int {a b : Int} (ha : 0 ≤ a) (ha' : a < 2 ^ 63) (hb : 0 ≤ b) (hb' : b < 2 ^ 63) : bits .or .i64 a b = ((a.toNat ||| b.toNat : Nat) : Int) := by
  have := or_i64 a.toNat b.toNat (by omega) (by omega)
  rw [Int.toNat_of_nonneg ha, Int.toNat_of_nonneg hb] at this
  exact this
theorem and_int {a b : Int} (ha : 0 ≤ a) (ha' : a < 2 ^ 63) (hb : 0 ≤ b) (hb' : b < 2 ^ 63) : bits .and .i64 a b = ((a.toNat &&& b.toNat : Nat) : Int) := by
  have := and_i64 a.toNat b.toNat (by omega) (by omega)
  rw [Int.toNat_of_nonneg ha, Int.toNat_of_nonneg hb] at this
  exact this
theorem and_one (a : Int) (ha : 0 ≤ a) (ha' : a < 2 ^ 63) : bits .and .i64 a 1 = a % 2 := by
  have := and_int ha ha' (b := 1) (by decide) (by decide)
  rw [this]
  have e : (1 : Int).toNat = 1 := rfl
  rw [e, nat_mask1]
  omega

end Go.Proofs.Ytcbgnfjnjfaacaa.Bu
