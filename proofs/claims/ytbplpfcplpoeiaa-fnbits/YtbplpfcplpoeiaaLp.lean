/-
  What the calls of FnBits answer, by words.
-/
import Derived.Test.YtbplpfcplpoeiaaLj
import Derived.Test.YtbplpfcplpoeiaaLi
import Derived.Test.YtbplpfcplpoeiaaLg
import Derived.Test.YtbplpfcplpoeiaaDa
namespace Go.Proofs.Ytbplpfcplpoeiaa.Lp
open Go Go.RowKit
open Num Pl Hr Hf Hg Pa Pm Po Rg Bw Bx Mo Mv Lj
set_option linter.unusedVariables false

def Both (f v n : Int) (R : Bool) (LV LM : List Int) : Prop :=
  (∀ w, Calls Try.prog 23 #[.int .i64 f, .int .i64 v, .int .i64 n] w (ResMB w R LV LM)) ∧ (∀ w, Calls Try.prog 24 #[.int .i64 f, .int .i64 v, .int .i64 n] w (ResMB w R LV LM))

theorem both {F N u : Nat} (hf : F < 8) (hx : fits F (u : Int) = true) (hN : N ≤ fbN F) : Both F u N true (VB F u N) (MB F N) := by
  refine ⟨fun w => ?_, fun w => ?_⟩
  · have := bits_yes F N u w hf hx hN
    rw [Li.and_hi F N u hx hN] at this
    exact this
  · exact Mw.bitsS_yes F N u w hf hx hN
theorem bits_cases (f v n : Int) :
    (∃ LV LM, Both f v n false LV LM) ∨
    (n = 0 ∧ ∃ LV LM ZV ZM, Both f v n true LV LM ∧ (∀ w, Calls Try.prog 26 #[] w (ResM w ZV ZM)) ∧ CMM 25 LV LM ZV ZM (Bo true)) ∨
    ((1 ≤ n ∧ n ≤ 48) ∧ ∃ LV LM KV KM, Both f v n true LV LM ∧ Both f v (n - 1) true KV KM ∧ CMM 16 KV KM LV LM (Bo true) ∧ CMM 16 LV LM KV KM (Bo false) ∧ CM 21 LV LM (Nu n)) := by
  cases h : bitsB f v n with
  | false => exact .inl ⟨[], [], fun w => bits_no f v n w h, fun w => Mw.bitsS_no f v n w h⟩
  | true =>
    unfold bitsB at h
    simp only [Bool.and_eq_true, decide_eq_true_eq] at h
    obtain ⟨hx, hn0, hn1⟩ := h
    have hf : 0 ≤ f ∧ f < 8 := by
      by_cases hf : f < 0 ∨ 8 ≤ f
      · rw [fits_out hf] at hx; cases hx
      · omega
    obtain ⟨F, rfl⟩ : ∃ F : Nat, f = F := ⟨f.toNat, by omega⟩
    have hv := fits_lt hx
    obtain ⟨u, rfl⟩ : ∃ u : Nat, v = u := ⟨v.toNat, by omega⟩
    have hu := fits_pow hx
    rw [Int.toNat_natCast] at hu
    rw [fbN_eq] at hn1
    have h48 := fbN_le F
    have hF : F < 8 := by omega
    by_cases hz : n = 0
    · subst hz
      exact .inr (.inl ⟨rfl, _, _, _, _, both (N := 0) hF hx (Nat.zero_le _), fun w => Mo.all_any w, same0 hF hu⟩)
    · obtain ⟨N, rfl⟩ : ∃ N : Nat, n = ((N + 1 : Nat) : Int) := ⟨(n - 1).toNat, by omega⟩
      have hN : N + 1 ≤ fbN F := by omega
      have e : ((N + 1 : Nat) : Int) - 1 = (N : Int) := by omega
      rw [e]
      exact .inr (.inr ⟨by omega, _, _, _, _, both (N := N + 1) hF hx hN, both (N := N) hF hx (by omega), cov_yes hF hN hu, cov_no hF hN hu, asked hF hN hu⟩)

end Go.Proofs.Ytbplpfcplpoeiaa.Lp
