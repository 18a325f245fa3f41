/-
  Contracts of the two Crc32: what they answer, on every slice of bytes.
-/
import Derived.Test.YtcbgnfjnjfaacaaSum
import Derived.Laws.BitsAllLaws
namespace Go.Proofs.Ytcbgnfjnjfaacaa.Crc
open Go.RowKit
open Num Rw

/-- One bit of the register is shifted out. -/
def step (r : Nat) : Nat := if r % 2 = 1 then (r / 2) ^^^ 3988292384 else r / 2
def steps (r : Nat) : Nat → Nat
  | 0 => r
  | k + 1 => step (steps r k)
def feed (r x : Nat) : Nat := steps (r ^^^ x) 8
/-- The register behind the first k bytes. -/
def crc (l : List Int) : Nat → Nat
  | 0 => 4294967295
  | k + 1 => feed (crc l k) (l.getD k 0).toNat

theorem xor_lt {a b : Nat} (ha : a < 4294967296) (hb : b < 4294967296) : a ^^^ b < 4294967296 := Nat.xor_lt_two_pow (n := 32) ha hb
theorem step_lt {r : Nat} (h : r < 4294967296) : step r < 4294967296 := by
  unfold step; split
  · exact xor_lt (by omega) (by decide)
  · omega
theorem steps_lt {r : Nat} (h : r < 4294967296) : ∀ k, steps r k < 4294967296
  | 0 => h
  | k + 1 => step_lt (steps_lt h k)
theorem crc_lt (l : List Int) (hy : Byt l) : ∀ k, crc l k < 4294967296
  | 0 => by simp [crc]
  | k + 1 => by
    have := hy.at k
    exact steps_lt (xor_lt (crc_lt l hy k) (by omega)) 8

theorem xor_i64 (a b : Nat) (ha : a < 4294967296) (hb : b < 4294967296) : bits .xor .i64 (a : Int) (b : Int) = ((a ^^^ b : Nat) : Int) := by
  have hp : ((a ^^^ b : Nat) : Int) < 4294967296 := by have := xor_lt ha hb; omega
  simp only [bits, BitVec.ofInt_natCast, BitVec.toNat_xor, BitVec.toNat_ofNat]
  rw [Nat.mod_eq_of_lt (show a < 2 ^ IntKind.i64.bits from Nat.lt_of_lt_of_le ha (by decide)), Nat.mod_eq_of_lt (show b < 2 ^ IntKind.i64.bits from Nat.lt_of_lt_of_le hb (by decide))]
  exact Get.wraps_i64 _ (by omega) (by omega)

theorem poly_i64 (S : Nat) (h : S < 4294967296) : bits .xor .i64 ((S : Int) / 2) 3988292384 = ((S / 2 ^^^ 3988292384 : Nat) : Int) := by
  have := xor_i64 (S / 2) 3988292384 (by omega) (by decide)
  simpa using this
theorem all_i64 (R : Nat) (h : R < 4294967296) : bits .xor .i64 (R : Int) 4294967295 = ((R ^^^ 4294967295 : Nat) : Int) := xor_i64 R 4294967295 h (by decide)

theorem u32_and1 (S : Nat) (h : S < 4294967296) : bits .and .u32 (S : Int) 1 = (S : Int) % 2 := by
  have := u32_and_nat S 1 h (by decide)
  rw [nat_mask1] at this
  simpa using this
theorem poly_u32 (S : Nat) (h : S < 4294967296) : bits .xor .u32 ((S : Int) / 2) 3988292384 = ((S / 2 ^^^ 3988292384 : Nat) : Int) := by
  have := u32_xor_nat (S / 2) 3988292384 (by omega) (by decide)
  simpa using this

theorem not_form (R : Nat) (h : R < 4294967296) : wrap64 (bits .xor .u32 IntKind.u32.max (R : Int)) = ((R ^^^ 4294967295 : Nat) : Int) := by
  have e : IntKind.u32.max = ((4294967295 : Nat) : Int) := rfl
  have hl : R ^^^ 4294967295 < 4294967296 := xor_lt h (by decide)
  rw [e, u32_xor_nat 4294967295 R (by decide) h, Nat.xor_comm]
  generalize R ^^^ 4294967295 = T at *
  unfold wrap64; omega

theorem below_set {g o : Nat} {w w' : World} (h : Below g w w') (u : Value) : Below g w (w'.setCell ⟨g, o, none⟩ u) := h.setCell (Nat.le_refl g) u

end Go.Proofs.Ytcbgnfjnjfaacaa.Crc
