/-
  Contracts of the two PacketOk and their helpers: what they answer, on every packet.
-/
import Derived.Test.YthgbjbebjjeddaaPut
namespace Go.Proofs.Ythgbjbebjjeddaa.Pk
open Go.RowKit
open Num Rw Mk

def numB (n : Int) : Bool := decide (0 ≤ n ∧ n ≤ 281474976710655)
def tagB (t : Int) : Bool := decide (-1 ≤ t ∧ t ≤ 4094)
def typB (y : Int) : Bool := decide (1536 ≤ y ∧ y ≤ 65535 ∧ y ≠ 33024)
/-- 'PacketOk' as a truth value. -/
def okB (d s t y : Int) (n : Nat) : Bool := numB d && numB s && tagB t && typB y && decide (n ≤ 1500)

theorem num6 (n : Int) : numOkB n 6 = numB n := by
  unfold numOkB numB; rw [Bool.eq_iff_iff]; simp [pw]; omega

theorem num_any (n : Int) (w : World) : Calls Try.prog 90 #[.int .i64 n] w fun e w' => e = .returned (.bool (numB n)) ∧ w' = w := by
  by_cases h1 : 0 ≤ n
  · by_cases h2 : n ≤ 281474976710655
    all_goals
      go_enter Try.func90, Try.ntmps90
      go_wp2
      go_ret
      exact ⟨ret_bool (by simp [numB] <;> omega), rfl⟩
  · go_enter Try.func90, Try.ntmps90
    go_wp2
    go_ret
    exact ⟨ret_bool (by simp [numB] <;> omega), rfl⟩

theorem tag_any (t : Int) (w : World) : Calls Try.prog 82 #[.int .i64 t] w fun e w' => e = .returned (.bool (tagB t)) ∧ w' = w := by
  by_cases h1 : -1 ≤ t
  · by_cases h2 : t ≤ 4094
    all_goals
      go_enter Try.func82, Try.ntmps82
      go_wp2
      go_ret
      exact ⟨ret_bool (by simp [tagB] <;> omega), rfl⟩
  · go_enter Try.func82, Try.ntmps82
    go_wp2
    go_ret
    exact ⟨ret_bool (by simp [tagB] <;> omega), rfl⟩

theorem typ_any (y : Int) (w : World) : Calls Try.prog 83 #[.int .i64 y] w fun e w' => e = .returned (.bool (typB y)) ∧ w' = w := by
  by_cases h1 : 1536 ≤ y
  · by_cases h2 : y ≤ 65535
    · by_cases h3 : y = 33024
      · subst h3
        go_enter Try.func83, Try.ntmps83
        go_wp2
        go_ret
        exact ⟨rfl, rfl⟩
      · have h4 : (y != 33024) = true := by simpa using h3
        go_enter Try.func83, Try.ntmps83
        go_wp2
        go_ret
        exact ⟨ret_bool (by simp [typB] <;> omega), rfl⟩
    · go_enter Try.func83, Try.ntmps83
      go_wp2
      go_ret
      exact ⟨ret_bool (by simp [typB] <;> omega), rfl⟩
  · go_enter Try.func83, Try.ntmps83
    go_wp2
    go_ret
    exact ⟨ret_bool (by simp [typB] <;> omega), rfl⟩

set_option maxHeartbeats 1000000 in
theorem implOk_any (d s t y : Int) (a : Option Addr) (n c : Nat) (w : World) :
    Calls Try.prog 46 #[.agg #[.int .i64 d, .int .i64 s, .int .i64 t, .int .i64 y, .slice a n c]] w fun e w' => e = .returned (.bool (okB d s t y n)) ∧ Below w.heap.size w w' := by
  have hn : decide ((n : Int) ≤ 1500) = decide (n ≤ 1500) := by rw [Bool.eq_iff_iff]; simp; omega
  have HN : Hid (decide ((n : Int) ≤ 1500) = decide (n ≤ 1500)) := hn
  have HD := num6 d
  have HS := num6 s
  have HO : Hid (okB d s t y n = (numB d && numB s && tagB t && typB y && decide (n ≤ 1500))) := rfl
  clear hn
  generalize numB d = bd at *
  generalize numB s = bs at *
  generalize ht : tagB t = bt at *
  generalize hy : typB y = bty at *
  cases bd
  · go_enter Try.func46, Try.ntmps46
    go_wp2_with (first | (go_at_call 80; refine (implNumOk_any _ _ _).mono ?_; (first | rw [HD] | rw [HS]); rintro e w' ⟨rfl, hw'⟩; replace hw' := hw'.symm; subst hw'))
    go_ret
    exact ⟨ret_bool (by rw [HO.out]; rfl), (Below.refl _ _).alloc (Nat.le_refl _) _⟩
  cases bs
  · go_enter Try.func46, Try.ntmps46
    go_wp2_with (first | (go_at_call 80; refine (implNumOk_any _ _ _).mono ?_; (first | rw [HD] | rw [HS]); rintro e w' ⟨rfl, hw'⟩; replace hw' := hw'.symm; subst hw'))
    go_ret
    exact ⟨ret_bool (by rw [HO.out]; rfl), (Below.refl _ _).alloc (Nat.le_refl _) _⟩
  cases bt
  · go_enter Try.func46, Try.ntmps46
    go_wp2_with (first | (go_at_call 80; refine (implNumOk_any _ _ _).mono ?_; (first | rw [HD] | rw [HS]); rintro e w' ⟨rfl, hw'⟩; replace hw' := hw'.symm; subst hw') | (go_at_call 82; refine (tag_any _ _).mono ?_; rw [ht]; rintro e w' ⟨rfl, hw'⟩; replace hw' := hw'.symm; subst hw'))
    go_ret
    exact ⟨ret_bool (by rw [HO.out]; rfl), (Below.refl _ _).alloc (Nat.le_refl _) _⟩
  cases bty
  · go_enter Try.func46, Try.ntmps46
    go_wp2_with (first | (go_at_call 80; refine (implNumOk_any _ _ _).mono ?_; (first | rw [HD] | rw [HS]); rintro e w' ⟨rfl, hw'⟩; replace hw' := hw'.symm; subst hw') | (go_at_call 82; refine (tag_any _ _).mono ?_; rw [ht]; rintro e w' ⟨rfl, hw'⟩; replace hw' := hw'.symm; subst hw') | (go_at_call 83; refine (typ_any _ _).mono ?_; rw [hy]; rintro e w' ⟨rfl, hw'⟩; replace hw' := hw'.symm; subst hw'))
    go_ret
    exact ⟨ret_bool (by rw [HO.out]; rfl), (Below.refl _ _).alloc (Nat.le_refl _) _⟩
  · go_enter Try.func46, Try.ntmps46
    go_wp2_with (first | (go_at_call 80; refine (implNumOk_any _ _ _).mono ?_; (first | rw [HD] | rw [HS]); rintro e w' ⟨rfl, hw'⟩; replace hw' := hw'.symm; subst hw') | (go_at_call 82; refine (tag_any _ _).mono ?_; rw [ht]; rintro e w' ⟨rfl, hw'⟩; replace hw' := hw'.symm; subst hw') | (go_at_call 83; refine (typ_any _ _).mono ?_; rw [hy]; rintro e w' ⟨rfl, hw'⟩; replace hw' := hw'.symm; subst hw'))
    go_ret
    exact ⟨ret_bool (by rw [HO.out, ← HN.out]; simp), (Below.refl _ _).alloc (Nat.le_refl _) _⟩


set_option maxHeartbeats 1000000 in
theorem specOk_any (d s t y : Int) (a : Option Addr) (n c : Nat) (w : World) :
    Calls Try.prog 67 #[.agg #[.int .i64 d, .int .i64 s, .int .i64 t, .int .i64 y, .slice a n c]] w fun e w' => e = .returned (.bool (okB d s t y n)) ∧ Below w.heap.size w w' := by
  have HO : Hid (okB d s t y n = (numB d && numB s && tagB t && typB y && decide (n ≤ 1500))) := rfl
  generalize hd : numB d = bd at *
  generalize hs : numB s = bs at *
  cases bd
  · go_enter Try.func67, Try.ntmps67
    go_wp2_with (go_at_call 90; refine (num_any _ _).mono ?_; (first | rw [hd] | rw [hs]); rintro e w' ⟨rfl, hw'⟩; replace hw' := hw'.symm; subst hw')
    go_ret
    exact ⟨ret_bool (by rw [HO.out]; rfl), (Below.refl _ _).alloc (Nat.le_refl _) _⟩
  cases bs
  · go_enter Try.func67, Try.ntmps67
    go_wp2_with (go_at_call 90; refine (num_any _ _).mono ?_; (first | rw [hd] | rw [hs]); rintro e w' ⟨rfl, hw'⟩; replace hw' := hw'.symm; subst hw')
    go_ret
    exact ⟨ret_bool (by rw [HO.out]; rfl), (Below.refl _ _).alloc (Nat.le_refl _) _⟩
  by_cases h1 : t < -1
  · have HT : Hid (tagB t = false) := by unfold Hid tagB; rw [decide_eq_false]; omega
    go_enter Try.func67, Try.ntmps67
    go_wp2_with (go_at_call 90; refine (num_any _ _).mono ?_; (first | rw [hd] | rw [hs]); rintro e w' ⟨rfl, hw'⟩; replace hw' := hw'.symm; subst hw')
    go_ret
    exact ⟨ret_bool (by rw [HO.out, HT.out]; rfl), (Below.refl _ _).alloc (Nat.le_refl _) _⟩
  by_cases h2 : 4094 < t
  · have HT : Hid (tagB t = false) := by unfold Hid tagB; rw [decide_eq_false]; omega
    go_enter Try.func67, Try.ntmps67
    go_wp2_with (go_at_call 90; refine (num_any _ _).mono ?_; (first | rw [hd] | rw [hs]); rintro e w' ⟨rfl, hw'⟩; replace hw' := hw'.symm; subst hw')
    go_ret
    exact ⟨ret_bool (by rw [HO.out, HT.out]; rfl), (Below.refl _ _).alloc (Nat.le_refl _) _⟩
  have HT : Hid (tagB t = true) := by unfold Hid tagB; rw [decide_eq_true]; omega
  by_cases h3 : 1536 ≤ y
  · by_cases h4 : y ≤ 65535
    · by_cases h5 : y = 33024
      · subst h5
        go_enter Try.func67, Try.ntmps67
        go_wp2_with (go_at_call 90; refine (num_any _ _).mono ?_; (first | rw [hd] | rw [hs]); rintro e w' ⟨rfl, hw'⟩; replace hw' := hw'.symm; subst hw')
        go_ret
        exact ⟨ret_bool (by rw [HO.out, HT.out]; rfl), (Below.refl _ _).alloc (Nat.le_refl _) _⟩
      · have h6 : (y != 33024) = true := by simpa using h5
        have HY : Hid (typB y = true) := by unfold Hid typB; rw [decide_eq_true]; omega
        have HN : Hid (decide ((n : Int) ≤ 1500) = decide (n ≤ 1500)) := by unfold Hid; rw [Bool.eq_iff_iff]; simp; omega
        go_enter Try.func67, Try.ntmps67
        go_wp2_with (go_at_call 90; refine (num_any _ _).mono ?_; (first | rw [hd] | rw [hs]); rintro e w' ⟨rfl, hw'⟩; replace hw' := hw'.symm; subst hw')
        go_ret
        exact ⟨ret_bool (by rw [HO.out, HT.out, HY.out, ← HN.out]; simp), (Below.refl _ _).alloc (Nat.le_refl _) _⟩
    · have HY : Hid (typB y = false) := by unfold Hid typB; rw [decide_eq_false]; omega
      go_enter Try.func67, Try.ntmps67
      go_wp2_with (go_at_call 90; refine (num_any _ _).mono ?_; (first | rw [hd] | rw [hs]); rintro e w' ⟨rfl, hw'⟩; replace hw' := hw'.symm; subst hw')
      go_ret
      exact ⟨ret_bool (by rw [HO.out, HT.out, HY.out]; rfl), (Below.refl _ _).alloc (Nat.le_refl _) _⟩
  · have HY : Hid (typB y = false) := by unfold Hid typB; rw [decide_eq_false]; omega
    go_enter Try.func67, Try.ntmps67
    go_wp2_with (go_at_call 90; refine (num_any _ _).mono ?_; (first | rw [hd] | rw [hs]); rintro e w' ⟨rfl, hw'⟩; replace hw' := hw'.symm; subst hw')
    go_ret
    exact ⟨ret_bool (by rw [HO.out, HT.out, HY.out]; rfl), (Below.refl _ _).alloc (Nat.le_refl _) _⟩

end Go.Proofs.Ythgbjbebjjeddaa.Pk
