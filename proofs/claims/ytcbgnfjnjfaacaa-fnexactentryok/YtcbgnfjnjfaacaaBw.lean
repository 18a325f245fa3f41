/-
  Contracts of one bit of a number, of all bits of a field.
-/
import Derived.Test.YtcbgnfjnjfaacaaMs
namespace Go.Proofs.Ytcbgnfjnjfaacaa.Bw
set_option maxRecDepth 8000
open Go Go.RowKit
open Num Pl Hr Hh Hf Hg Pa Pm Po

/-- Bit i of a number, as an integer. -/
def bitI (n : Int) (i : Nat) : Int := ((n.toNat / 2 ^ i % 2 : Nat) : Int)

theorem bit_int (n : Int) (i : Nat) (h0 : 0 ≤ n) (h1 : n < 281474976710656) : bits .and .i64 (n / 2 ^ i) 1 = bitI n i := by
  obtain ⟨N, rfl⟩ : ∃ N : Nat, n = N := ⟨n.toNat, by omega⟩
  have e : (N : Int) / 2 ^ i = ((N / 2 ^ i : Nat) : Int) := by
    rw [Int.natCast_ediv, Int.natCast_pow]
    rfl
  have hle : N / 2 ^ i ≤ N := Nat.div_le_self _ _
  unfold bitI
  rw [Int.toNat_natCast, e]
  generalize N / 2 ^ i = q at hle ⊢
  rw [Bu.and_one _ (by omega) (by omega)]
  omega
/-- How many bits a field has. -/
def fbN (f : Nat) : Nat := (fb f).toNat
theorem fbN_eq (f : Nat) : fb f = (fbN f : Int) := by
  unfold fbN
  rcases fb_val f with h | h | h | h | h <;> rw [h] <;> rfl
theorem fbN_le (f : Nat) : fbN f ≤ 48 := by
  unfold fbN
  rcases fb_val f with h | h | h | h | h <;> rw [h] <;> decide
theorem fits_pow {f : Nat} {m : Int} (h : fits f m = true) : m.toNat < 2 ^ fbN f := by
  unfold fits numOkB at h
  simp only [decide_eq_true_eq] at h
  obtain ⟨h1, h2, h3, h4⟩ := h
  unfold fbN
  rcases fb_val f with e | e | e | e | e <;> rw [e] at h1 h2 h4 ⊢
  all_goals first | (exfalso; revert h1; decide) | (simp only [pw] at h4; revert h4; simp <;> omega)
theorem bit_01 (n : Int) (i : Nat) : bitI n i = 0 ∨ bitI n i = 1 := by
  unfold bitI
  have : n.toNat / 2 ^ i % 2 = 0 ∨ n.toNat / 2 ^ i % 2 = 1 := by omega
  omega
/-- The bit is set. -/
theorem bit_iff (n : Int) (i : Nat) : bitI n i = 1 ↔ n.toNat.testBit i = true := by
  unfold bitI
  have := Bt.bit_eq n.toNat i
  rw [this]
  cases n.toNat.testBit i <;> simp
theorem bit_eq_iff (n m : Int) (i : Nat) : bitI n i = bitI m i ↔ n.toNat.testBit i = m.toNat.testBit i := by
  unfold bitI
  rw [Bt.bit_eq, Bt.bit_eq]
  cases n.toNat.testBit i <;> cases m.toNat.testBit i <;> simp

set_option maxHeartbeats 1000000 in
theorem bit_any (n : Int) (i : Nat) (h0 : 0 ≤ n) (h1 : n < 281474976710656) (hi : i < 48) (w : World) :
    Calls Try.prog 67 #[.int .i64 n, .int .i64 i] w fun e w' => e = .returned (.int .i64 (bitI n i)) ∧ w' = w := by
  have HB := (bit_int n i h0 h1).symm
  have HH : Hid (bitI n i = bits .and .i64 (n / 2 ^ i) 1) := HB
  clear HB
  go_enter Try.func67, Try.ntmps67
  go_wp2
  go_ret
  exact ⟨Hf.ret_int HH.out.symm, rfl⟩

end Go.Proofs.Ytcbgnfjnjfaacaa.Bw
