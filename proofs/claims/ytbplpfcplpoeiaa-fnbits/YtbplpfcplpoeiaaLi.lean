/-
  The program's answer and the specification's by one word: MatchBits.
-/
import Derived.Test.YtbplpfcplpoeiaaMw
import Derived.Test.YtbplpfcplpoeiaaLc
namespace Go.Proofs.Ytbplpfcplpoeiaa.Li
open Go Go.RowKit
open Num Pl Hr Hf Hg Pa Pm Bw Mo Mv Bx
set_option linter.unusedVariables false

theorem and_hi (f n : Nat) (v : Int) (hx : fits f v = true) (hn : n ≤ fbN f) : bits .and .i64 v (topI f n) = ((hi v.toNat (fbN f) n : Nat) : Int) := by
  have h1 := fits_lt hx
  have h2 := fits_pow hx
  have l48 : 2 ^ fbN f ≤ 2 ^ 48 := Nat.pow_le_pow_right (by decide) (fbN_le f)
  have lt := Nat.lt_of_lt_of_le (Bt.top_lt (fbN f) n hn) l48
  unfold topI
  rw [Lc.and_nat h1.1 h1.2 (by omega) (by omega), Int.toNat_natCast, and_top h2 hn]
theorem bitsR (f v n : Int) : ∃ R LV LM, (∀ w, Calls Try.prog 23 #[.int .i64 f, .int .i64 v, .int .i64 n] w (ResMB w R LV LM)) ∧ (∀ w, Calls Try.prog 24 #[.int .i64 f, .int .i64 v, .int .i64 n] w (ResMB w R LV LM)) := by
  cases h : bitsB f v n with
  | false => exact ⟨_, _, _, fun w => bits_no f v n w h, fun w => Mw.bitsS_no f v n w h⟩
  | true =>
    unfold bitsB at h
    simp only [Bool.and_eq_true, decide_eq_true_eq] at h
    obtain ⟨hx, hn0, hn1⟩ := h
    have hf : 0 ≤ f ∧ f < 8 := by
      by_cases hf : f < 0 ∨ 8 ≤ f
      · rw [fits_out hf] at hx; cases hx
      · omega
    obtain ⟨F, rfl⟩ : ∃ F : Nat, f = F := ⟨f.toNat, by omega⟩
    obtain ⟨N, rfl⟩ : ∃ N : Nat, n = N := ⟨n.toNat, by omega⟩
    rw [fbN_eq] at hn1
    have hN : N ≤ fbN F := by omega
    refine ⟨_, _, _, fun w => bits_yes F N v w (by omega) hx hN, fun w => ?_⟩
    rw [and_hi F N v hx hN]
    exact Mw.bitsS_yes F N v w (by omega) hx hN

end Go.Proofs.Ytbplpfcplpoeiaa.Li
