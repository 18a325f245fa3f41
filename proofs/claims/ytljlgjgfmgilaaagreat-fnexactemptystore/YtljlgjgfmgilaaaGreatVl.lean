/-
  Values: what a datum is, both ValueOk, the two orders.
-/
import Derived.Test.YtljlgjgfmgilaaaGreatPl
import Derived.Test.YtljlgjgfmgilaaaGreatWord
import Derived.Handy
import Derived.Deep.RegionHeld3
namespace Go.Proofs.YtljlgjgfmgilaaaGreat.Vl
set_option maxRecDepth 8000
set_option linter.unusedSimpArgs false
set_option linter.unusedVariables false
open Go Go.RowKit
open Num Word Pl

/-- A value: its number, its word. -/
abbrev V2 := Int × ByteArray
def z2 : V2 := (0, ByteArray.empty)
def numB (n : Int) : Bool := decide (0 ≤ n ∧ n ≤ 281474976710655)
/-- Is the value right? -/
def valB (x : V2) : Bool := if x.2.toList.isEmpty = true then numB x.1 else (x.1 == 0) && wordB x.2
/-- The program's datum of a value. -/
def datV (x : V2) : Value := if valB x = true then (if x.2.toList.isEmpty = true then .iface 212 (.int .i64 x.1) else .iface 213 (.string x.2)) else .nilIface

theorem num_any (n : Int) (w : World) : Calls Tryz.prog 156 #[.int .i64 n] w fun e w' => e = .returned (.bool (numB n)) ∧ w' = w := by
  unfold numB
  by_cases h1 : 0 ≤ n
  · by_cases h2 : n ≤ 281474976710655
    all_goals
      go_enter Tryz.func156, Tryz.ntmps156
      go_wp2
      go_ret
      exact ⟨ret_bool (by simp <;> omega), rfl⟩
  · go_enter Tryz.func156, Tryz.ntmps156
    go_wp2
    go_ret
    exact ⟨ret_bool (by simp <;> omega), rfl⟩
theorem upTo_any (m n : Int) (w : World) : Calls Tryz.prog 82 #[.int .i64 m, .int .i64 n] w fun e w' => e = .returned (.bool (decide (0 ≤ n ∧ n ≤ m))) ∧ w' = w := by
  by_cases h1 : 0 ≤ n
  · by_cases h2 : n ≤ m
    all_goals
      go_enter Tryz.func82, Tryz.ntmps82
      go_wp2
      go_ret
      exact ⟨ret_bool (by simp <;> omega), rfl⟩
  · go_enter Tryz.func82, Tryz.ntmps82
    go_wp2
    go_ret
    exact ⟨ret_bool (by simp <;> omega), rfl⟩

theorem okS_any (x : V2) (w : World) (hs : x.2.size ≤ maxLen) :
    Calls Tryz.prog 136 #[.agg #[.int .i64 x.1, .string x.2]] w fun e w' => e = .returned (.bool (valB x)) ∧ Below w.heap.size w w' := by
  obtain ⟨n, s⟩ := x
  simp only at hs
  unfold valB
  simp only
  cases he : s.toList.isEmpty with
  | true =>
    go_enter Tryz.func136, Tryz.ntmps136
    go_wp2_with (go_at_call 156; refine (num_any _ _).mono ?_; rintro e w1 ⟨rfl, hw⟩; replace hw := hw.symm; subst hw)
    go_ret
    exact ⟨rfl, below_alloc1 _ _⟩
  | false =>
    cases hn : (n == 0) with
    | false =>
      go_enter Tryz.func136, Tryz.ntmps136
      go_wp2
      go_ret
      exact ⟨ret_bool (by simp), below_alloc1 _ _⟩
    | true =>
      go_enter Tryz.func136, Tryz.ntmps136
      go_wp2_with (go_at_call 73; refine (specWord_any _ _ hs).mono ?_; rintro e w1 ⟨rfl, hw⟩; replace hw := hw.symm; subst hw)
      go_ret
      exact ⟨ret_bool (by simp), below_alloc1 _ _⟩

theorem empty_size {s : ByteArray} (h : s.toList.isEmpty = true) : wordB s = false := by
  apply word_size
  rw [ByteArray.toList_eq] at h
  have : s.data.toList = [] := by simpa using h
  have h2 : s.size = 0 := by show s.data.size = 0; rw [← Array.length_toList, this]; rfl
  omega

theorem datum_any (x : V2) (w : World) (hs : x.2.size ≤ maxLen) :
    Calls Tryz.prog 161 #[.agg #[.int .i64 x.1, .string x.2]] w fun e w' => e = .returned (datV x) ∧ Below w.heap.size w w' := by
  obtain ⟨n, s⟩ := x
  simp only at hs
  unfold datV valB
  simp only
  cases he : s.toList.isEmpty with
  | true =>
    have hw0 := empty_size he
    cases hu : numB n with
    | true =>
      have hu' : decide (0 ≤ n ∧ n ≤ 281474976710655) = true := hu
      go_enter Tryz.func161, Tryz.ntmps161
      go_wp2_with (go_at_call 82; refine (upTo_any _ _ _).mono ?_; rw [hu']; rintro e w1 ⟨rfl, hw⟩; replace hw := hw.symm; subst hw)
      go_ret
      exact ⟨rfl, below_alloc1 _ _⟩
    | false =>
      have hu' : decide (0 ≤ n ∧ n ≤ 281474976710655) = false := hu
      have hn : (n == 0) = false := by
        rw [beq_eq_false_iff_ne]; intro e; subst e; simp at hu'
      go_enter Tryz.func161, Tryz.ntmps161
      go_wp2_with (go_at_call 82; refine (upTo_any _ _ _).mono ?_; rw [hu']; rintro e w1 ⟨rfl, hw⟩; replace hw := hw.symm; subst hw)
      go_ret
      exact ⟨rfl, below_alloc1 _ _⟩
  | false =>
    cases hn : (n == 0) with
    | false =>
      go_enter Tryz.func161, Tryz.ntmps161
      go_wp2
      go_ret
      exact ⟨rfl, below_alloc1 _ _⟩
    | true =>
      cases hw0 : wordB s with
      | true =>
        go_enter Tryz.func161, Tryz.ntmps161
        go_wp2_with (go_at_call 110; refine (implWord_any _ _ hs).mono ?_; rw [hw0]; rintro e w1 ⟨rfl, hw⟩; replace hw := hw.symm; subst hw)
        go_ret
        exact ⟨rfl, below_alloc1 _ _⟩
      | false =>
        go_enter Tryz.func161, Tryz.ntmps161
        go_wp2_with (go_at_call 110; refine (implWord_any _ _ hs).mono ?_; rw [hw0]; rintro e w1 ⟨rfl, hw⟩; replace hw := hw.symm; subst hw)
        go_ret
        exact ⟨rfl, below_alloc1 _ _⟩

theorem okI_any (x : V2) (w : World) (hs : x.2.size ≤ maxLen) :
    Calls Tryz.prog 143 #[.agg #[.int .i64 x.1, .string x.2]] w fun e w' => e = .returned (.bool (valB x)) ∧ Below w.heap.size w w' := by
  have B := below_alloc1 w (.cells #[.int .i64 x.1, .string x.2] 92)
  have hd := datum_any x (w.alloc (.cells #[.int .i64 x.1, .string x.2] 92)) hs
  unfold datV at hd
  cases hv : valB x with
  | false =>
    rw [hv] at hd
    simp only [Bool.false_eq_true, if_false] at hd
    go_enter Tryz.func143, Tryz.ntmps143
    go_wp2_with (go_at_call 161; refine hd.mono ?_; rintro e w1 ⟨rfl, hb⟩)
    go_ret
    exact ⟨rfl, Rw.next B hb⟩
  | true =>
    rw [hv] at hd
    simp only [if_true] at hd
    cases he : x.2.toList.isEmpty with
    | true =>
      rw [he] at hd
      simp only [if_true] at hd
      go_enter Tryz.func143, Tryz.ntmps143
      go_wp2_with (go_at_call 161; refine hd.mono ?_; rintro e w1 ⟨rfl, hb⟩)
      go_ret
      exact ⟨rfl, Rw.next B hb⟩
    | false =>
      rw [he] at hd
      simp only [Bool.false_eq_true, if_false] at hd
      go_enter Tryz.func143, Tryz.ntmps143
      go_wp2_with (go_at_call 161; refine hd.mono ?_; rintro e w1 ⟨rfl, hb⟩)
      go_ret
      exact ⟨rfl, Rw.next B hb⟩

end Go.Proofs.YtljlgjgfmgilaaaGreat.Vl
