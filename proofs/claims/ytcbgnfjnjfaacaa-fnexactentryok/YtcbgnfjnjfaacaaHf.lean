/-
  Contracts of the fields: how many bits, what fits, which heads are right.
-/
import Derived.Test.YtcbgnfjnjfaacaaHh
namespace Go.Proofs.Ytcbgnfjnjfaacaa.Hf
open Go Go.RowKit
open Num Pl Hr Hh

/-- The bits of a field. -/
def fb (f : Int) : Int := if f = 0 ∨ f = 7 then 8 else if f = 1 ∨ f = 2 then 48 else if f = 3 ∨ f = 4 then 16 else if f = 5 ∨ f = 6 then 32 else 0

theorem fb_cases (f : Int) : (f = 0 ∨ f = 1 ∨ f = 2 ∨ f = 3 ∨ f = 4 ∨ f = 5 ∨ f = 6 ∨ f = 7) ∨ (f < 0 ∨ 8 ≤ f) := by omega
theorem fb_out {f : Int} (h : f < 0 ∨ 8 ≤ f) : fb f = 0 := by
  unfold fb
  rw [if_neg (by omega), if_neg (by omega), if_neg (by omega), if_neg (by omega)]
theorem ret_int {a b : Int} (h : a = b) : Ending.returned (.int .i64 a) = .returned (.int .i64 b) := by rw [h]

set_option maxHeartbeats 1000000 in
theorem implBits_any (f : Int) (w : World) :
    Calls Try.prog 123 #[.int .i64 f] w fun e w' => e = .returned (.int .i64 (fb f)) ∧ w' = w := by
  rcases fb_cases f with (rfl | rfl | rfl | rfl | rfl | rfl | rfl | rfl) | h
  iterate 8
    · go_enter Try.func123, Try.ntmps123
      go_wp2
      go_ret
      exact ⟨rfl, rfl⟩
  · rw [fb_out h]
    have e0 : (f == 0) = false := by simp; omega
    have e1 : (f == 1) = false := by simp; omega
    have e2 : (f == 2) = false := by simp; omega
    have e3 : (f == 3) = false := by simp; omega
    have e4 : (f == 4) = false := by simp; omega
    have e5 : (f == 5) = false := by simp; omega
    have e6 : (f == 6) = false := by simp; omega
    have e7 : (f == 7) = false := by simp; omega
    clear h
    go_enter Try.func123, Try.ntmps123
    go_wp2
    go_ret
    exact ⟨rfl, rfl⟩

set_option maxHeartbeats 1000000 in
theorem specBits_any (f : Int) (w : World) :
    Calls Try.prog 66 #[.int .i64 f] w fun e w' => e = .returned (.int .i64 (fb f)) ∧ Below w.heap.size w w' := by
  rcases fb_cases f with (rfl | rfl | rfl | rfl | rfl | rfl | rfl | rfl) | h
  iterate 8
    · go_enter Try.func66, Try.ntmps66
      go_wp2
      go_ret
      exact ⟨rfl, below_alloc1 _ _⟩
  · rw [fb_out h]
    rcases h with h | h
    · go_enter Try.func66, Try.ntmps66
      go_wp2
      go_ret
      exact ⟨rfl, Below.refl _ _⟩
    · have h1 : ¬ f < 0 := by omega
      go_enter Try.func66, Try.ntmps66
      go_wp2
      go_ret
      exact ⟨rfl, Below.refl _ _⟩

end Go.Proofs.Ytcbgnfjnjfaacaa.Hf
