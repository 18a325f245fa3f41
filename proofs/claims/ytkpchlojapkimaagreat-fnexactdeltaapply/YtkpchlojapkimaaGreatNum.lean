/-
  Contracts of the numbers in bytes: what the two NumOk and their helpers answer, on every integer.
-/
import Derived.Test.YtkpchlojapkimaaGreatRows
import Derived.WalkKit
import Derived.ProofKit
namespace Go.Proofs.YtkpchlojapkimaaGreat.Num
open Go.RowKit
set_option maxRecDepth 8000

/-- 256 to the power k. -/
def pw (k : Nat) : Nat := 256 ^ k
theorem pw_zero : pw 0 = 1 := rfl
theorem pw_succ (k : Nat) : pw (k + 1) = pw k * 256 := by unfold pw; rw [Nat.pow_succ]
theorem pw_le (k : Nat) (h : k ≤ 5) : pw k ≤ 1099511627776 := by
  have : pw k ≤ pw 5 := Nat.pow_le_pow_right (by decide) h
  simpa [pw] using this
theorem pw_pos (k : Nat) : 1 ≤ pw k := Nat.pow_pos (by decide)

set_option maxHeartbeats 400000 in
theorem pow_any (n : Nat) (hn : n ≤ 6) (w : World) :
    Calls Tryz.prog 153 #[.int .i64 n] w fun e w' => e = .returned (.int .i64 (pw n)) ∧ w' = w := by
  go_enter Tryz.func153, Tryz.ntmps153
  go_wp2
  go_loop [3, 4] (fun p i => ∃ k : Nat, k ≤ n ∧ i = .int .i64 k ∧ p = .int .i64 (pw k)) (fun _ i => n - (intOf i).toNat)
  case atStart => exact ⟨0, Nat.zero_le _, rfl, rfl⟩
  case round =>
    obtain ⟨k, hk, rfl, rfl⟩ := hrel
    by_cases hlt : k < n
    · have hb := pw_le k (by omega)
      have HS : Hid (pw (k + 1) = pw k * 256) := pw_succ k
      go_wp2
      go_round
      case rel => exact ⟨k + 1, by omega, by go_num, by rw [HS.out]; go_num⟩
      case measure => simp [intOf]; omega
    · have he : k = n := by omega
      subst he
      go_wp2
      go_ret
      exact ⟨rfl, rfl⟩

/-- 'NumOk' as a truth value. -/
def numOkB (n size : Int) : Bool := decide (1 ≤ size ∧ size ≤ 6 ∧ 0 ≤ n ∧ n < (pw size.toNat : Int))


theorem numOk_no1 {n size : Int} (h : size < 1) : numOkB n size = false := by unfold numOkB; rw [decide_eq_false]; omega
theorem numOk_no2 {n size : Int} (h : 6 < size) : numOkB n size = false := by unfold numOkB; rw [decide_eq_false]; omega
theorem numOk_no3 {n size : Int} (h : n < 0) : numOkB n size = false := by unfold numOkB; rw [decide_eq_false]; omega
theorem numOk_in {n size : Int} (h1 : 1 ≤ size) (h2 : size ≤ 6) (h3 : 0 ≤ n) : numOkB n size = decide (n < (pw size.toNat : Int)) := by
  unfold numOkB; rw [Bool.eq_iff_iff]; simp; omega
theorem ret_bool {a b : Bool} (h : a = b) : Ending.returned (.bool a) = .returned (.bool b) := by rw [h]

end Go.Proofs.YtkpchlojapkimaaGreat.Num
