/-
  Contract of the library's count of one bits.
-/
import Derived.Test.YtbplpfcplpoeiaaOb
namespace Go.Proofs.Ytbplpfcplpoeiaa.Oc
open Go Go.RowKit
open Num Bw Mo Ob
set_option linter.unusedSimpArgs false
set_option linter.unusedVariables false

theorem wraps_u64 (n : Int) (h₀ : 0 ≤ n) (h₁ : n < 2 ^ 64) : IntKind.u64.wrap n = n := by rw [IntKind.wrap_u64]; omega
theorem and_u64 (a b : Nat) (ha : a < 2 ^ 64) (hb : b < 2 ^ 64) : bits .and .u64 (a : Int) (b : Int) = ((a &&& b : Nat) : Int) := by
  have hp : a &&& b < 2 ^ 64 := Nat.lt_of_le_of_lt Nat.and_le_left ha
  simp only [bits, BitVec.ofInt_natCast, BitVec.toNat_and, BitVec.toNat_ofNat]
  rw [Nat.mod_eq_of_lt (show a < 2 ^ IntKind.u64.bits from Nat.lt_of_lt_of_le ha (by decide)), Nat.mod_eq_of_lt (show b < 2 ^ IntKind.u64.bits from Nat.lt_of_lt_of_le hb (by decide))]
  exact wraps_u64 _ (by omega) (by omega)

set_option maxHeartbeats 400000 in
theorem ones_any (x : Nat) (hx : x < 2 ^ 48) (w : World) : Calls Try.prog 57 #[.int .u64 x] w fun e w' => e = .returned (.int .i64 ((Bt.cnt x 48 : Nat) : Int)) ∧ w' = w := by
  have m5 : rep 85 8 = 6148914691236517205 := by decide +kernel
  have m3 : rep 51 8 = 3689348814741910323 := by decide +kernel
  have mf : rep 15 8 = 1085102592571150095 := by decide +kernel
  have hs := swar x (by omega)
  rw [m5, m3, mf] at hs
  unfold sB sA at hs
  have f1 : bits .and .u64 ((x : Int) / 2) 6148914691236517205 = ((x / 2 &&& 6148914691236517205 : Nat) : Int) := by
    have := and_u64 (x / 2) 6148914691236517205 (by omega) (by omega)
    rw [← this]; rfl
  have f2 : bits .and .u64 (x : Int) 6148914691236517205 = ((x &&& 6148914691236517205 : Nat) : Int) := and_u64 x 6148914691236517205 (by omega) (by omega)
  have l1 : x / 2 &&& 6148914691236517205 ≤ 6148914691236517205 := Nat.and_le_right
  have l2 : x &&& 6148914691236517205 ≤ 6148914691236517205 := Nat.and_le_right
  generalize x / 2 &&& 6148914691236517205 = p1 at *
  generalize x &&& 6148914691236517205 = p2 at *
  have f3 : IntKind.u64.wrap ((p1 : Int) + (p2 : Int)) = ((p1 + p2 : Nat) : Int) := by rw [wraps_u64 _ (by omega) (by omega)]; omega
  have l3 : p1 + p2 < 2 ^ 64 := by omega
  generalize p1 + p2 = a at *
  have f4 : bits .and .u64 ((a : Int) / 4) 3689348814741910323 = ((a / 4 &&& 3689348814741910323 : Nat) : Int) := by
    have := and_u64 (a / 4) 3689348814741910323 (by omega) (by omega)
    rw [← this]; rfl
  have f5 : bits .and .u64 (a : Int) 3689348814741910323 = ((a &&& 3689348814741910323 : Nat) : Int) := and_u64 a 3689348814741910323 (by omega) (by omega)
  have l4 : a / 4 &&& 3689348814741910323 ≤ 3689348814741910323 := Nat.and_le_right
  have l5 : a &&& 3689348814741910323 ≤ 3689348814741910323 := Nat.and_le_right
  generalize a / 4 &&& 3689348814741910323 = q1 at *
  generalize a &&& 3689348814741910323 = q2 at *
  have f6 : IntKind.u64.wrap ((q1 : Int) + (q2 : Int)) = ((q1 + q2 : Nat) : Int) := by rw [wraps_u64 _ (by omega) (by omega)]; omega
  have l6 : q1 + q2 ≤ 7378697629483820646 := by omega
  generalize q1 + q2 = b at *
  have f7 : IntKind.u64.wrap ((b : Int) / 16 + (b : Int)) = ((b / 16 + b : Nat) : Int) := by rw [wraps_u64 _ (by omega) (by omega)]; omega
  have l7 : b / 16 + b < 2 ^ 64 := by omega
  generalize b / 16 + b = g at *
  have f8 : bits .and .u64 (g : Int) 1085102592571150095 = ((g &&& 1085102592571150095 : Nat) : Int) := and_u64 g 1085102592571150095 (by omega) (by omega)
  have l8 : g &&& 1085102592571150095 ≤ 1085102592571150095 := Nat.and_le_right
  generalize g &&& 1085102592571150095 = c at *
  obtain ⟨d, hd⟩ : ∃ d, d = c + c / 256 := ⟨_, rfl⟩
  obtain ⟨e, he⟩ : ∃ e, e = d + d / 65536 := ⟨_, rfl⟩
  obtain ⟨f, hf⟩ : ∃ f, f = e + e / 4294967296 := ⟨_, rfl⟩
  obtain ⟨r, lf⟩ := sums x hx c d e f hs hd he hf
  have f9 : IntKind.u64.wrap ((c : Int) + (c : Int) / 256) = (d : Int) := by rw [wraps_u64 _ (by omega) (by omega)]; omega
  have f10 : IntKind.u64.wrap ((d : Int) + (d : Int) / 65536) = (e : Int) := by rw [wraps_u64 _ (by omega) (by omega)]; omega
  have f11 : IntKind.u64.wrap ((e : Int) + (e : Int) / 4294967296) = (f : Int) := by rw [wraps_u64 _ (by omega) (by omega)]; omega
  have f12 : IntKind.i64.wrap (f : Int) = (f : Int) := Get.wraps_i64 _ (by omega) (by omega)
  have f13 : bits .and .i64 (f : Int) 127 = ((Bt.cnt x 48 : Nat) : Int) := by
    have := Bu.and_i64 f 127 lf (by omega)
    rw [show ((127 : Nat) : Int) = 127 from rfl] at this
    rw [this, show (127 : Nat) = 2 ^ 7 - 1 from rfl, Nat.and_two_pow_sub_one_eq_mod, ← r]
  have hf63 : (f : Int) < 9223372036854775808 := by omega
  generalize Bt.cnt x 48 = n at *
  clear m5 m3 mf hs l1 l2 l3 l4 l5 l6 l7 l8 hd he hf r lf hx
  go_enter Try.func57, Try.ntmps57
  go_wp2
  go_ret
  exact ⟨rfl, rfl⟩
end Go.Proofs.Ytbplpfcplpoeiaa.Oc
