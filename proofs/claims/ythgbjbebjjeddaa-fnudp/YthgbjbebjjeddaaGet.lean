/-
  Contracts of the two GetNum: what they answer, on every slice and every two integers.
-/
import Derived.Test.YthgbjbebjjeddaaRow
import Derived.Laws.BitsLemmas
namespace Go.Proofs.Ythgbjbebjjeddaa.Get
open Go.RowKit
open Num Rw

/-- The number in the k bytes from 'at' on. -/
def acc (l : List Int) (p : Nat) : Nat → Int
  | 0 => 0
  | k + 1 => acc l p k * 256 + l.getD (p + k) 0

theorem acc_bd (l : List Int) (p : Nat) (hy : Byt l) : ∀ k, 0 ≤ acc l p k ∧ acc l p k < (pw k : Int)
  | 0 => by simp [acc, pw]
  | k + 1 => by
    have ih := acc_bd l p hy k
    have hb := hy.at (p + k)
    have e : (pw (k + 1) : Int) = (pw k : Int) * 256 := by rw [pw_succ]; omega
    rw [e]
    simp only [acc]
    omega

theorem wraps_i64 (n : Int) (h₀ : 0 ≤ n) (h₁ : n < 2 ^ 63) : IntKind.i64.wrap n = n := by rw [IntKind.wrap_i64]; omega
theorem or256 (x y : Int) (h0 : 0 ≤ x) (h1 : x < 1099511627776) (h2 : 0 ≤ y) (h3 : y ≤ 255) : bits .or .i64 (x * 256) y = x * 256 + y :=
  bits_join .i64 63 (by decide) wraps_i64 8 (x * 256) y (by omega) (by omega) (by omega) h2 (by omega) (by omega)

/-- Whether there is such a number. -/
def getOk (len : Nat) (p size : Int) : Prop := 1 ≤ size ∧ size ≤ 6 ∧ 0 ≤ p ∧ p ≤ (len : Int) - size

theorem ret_get {a b : Int} (h : a = b) : Ending.returned (.tuple #[.int .i64 a, .bool true]) = .returned (.tuple #[.int .i64 b, .bool true]) := by rw [h]

set_option maxHeartbeats 1000000 in
theorem specGet_yes (a : Option Addr) (b off cap : Nat) (l : List Int) (p n : Nat) (w : World) (h : Rd w a b off l) (h1 : 1 ≤ n) (h6 : n ≤ 6) (hp : p + n ≤ l.length) :
    Calls Try.prog 91 #[.slice a l.length cap, .int .i64 p, .int .i64 n] w fun e w' => e = .returned (.tuple #[.int .i64 (acc l p n), .bool true]) ∧ w' = w := by
  obtain ⟨hh, hc, hs, hy⟩ := h
  obtain rfl := hh (by omega)
  clear hh
  have hle : (p : Int) ≤ (l.length : Int) - (n : Int) := by omega
  go_enter Try.func91, Try.ntmps91
  go_wp2
  go_loop [8, 9] (fun t i => ∃ k : Nat, k ≤ n ∧ i = .int .i64 k ∧ t = .int .i64 (acc l p k)) (fun _ i => n - (intOf i).toNat)
  case atStart => exact ⟨0, Nat.zero_le _, rfl, rfl⟩
  case round =>
    obtain ⟨k, hk, rfl, rfl⟩ := hrel
    by_cases hlt : k < n
    · have hb := acc_bd l p hy k
      have hpw := pw_le k (by omega)
      have g0 : w.cell? ⟨b, off + (p + k), none⟩ = some (.int .u8 (l.getD (p + k) 0)) := hc _ (by omega)
      have hyk := hy.at (p + k)
      have HS : Hid (acc l p (k + 1) = acc l p k * 256 + l.getD (p + k) 0) := rfl
      generalize e1 : l.getD (p + k) 0 = x at g0 hyk HS
      clear e1
      have hkl : (p : Int) + (k : Int) < (l.length : Int) := by omega
      clear hc hy
      go_wp2
      go_round
      case rel => exact ⟨k + 1, by omega, by go_num, by rw [HS.out]⟩
      case measure => simp [intOf]; omega
    · have he : k = n := by omega
      subst he
      go_wp2
      go_ret2
      exact ⟨rfl, rfl⟩

set_option maxHeartbeats 1000000 in
theorem implGet_yes (a : Option Addr) (b off cap : Nat) (l : List Int) (p n : Nat) (w : World) (h : Rd w a b off l) (h1 : 1 ≤ n) (h6 : n ≤ 6) (hp : p + n ≤ l.length) :
    Calls Try.prog 88 #[.slice a l.length cap, .int .i64 p, .int .i64 n] w fun e w' => e = .returned (.tuple #[.int .i64 (acc l p n), .bool true]) ∧ w' = w := by
  obtain ⟨hh, hc, hs, hy⟩ := h
  obtain rfl := hh (by omega)
  clear hh
  have hle : (p : Int) ≤ (l.length : Int) - (n : Int) := by omega
  have hsz : decide (1 ≤ (n : Int) ∧ (n : Int) ≤ 6) = true := by simp; omega
  go_enter Try.func88, Try.ntmps88
  go_wp2_with (go_at_call 94; refine (size_any _ _).mono ?_; rw [hsz]; rintro e w' ⟨rfl, rfl⟩)
  go_loop [8, 26] (fun t i => ∃ k : Nat, k ≤ n ∧ i = .int .i64 k ∧ t = .int .i64 (acc l p k)) (fun _ i => n - (intOf i).toNat)
  case atStart => exact ⟨0, Nat.zero_le _, rfl, rfl⟩
  case round =>
    obtain ⟨k, hk, rfl, rfl⟩ := hrel
    by_cases hlt : k < n
    · have hb := acc_bd l p hy k
      have hpw := pw_le k (by omega)
      have g0 : w'.cell? ⟨b, off + (p + k), none⟩ = some (.int .u8 (l.getD (p + k) 0)) := hc _ (by omega)
      have hyk := hy.at (p + k)
      have HS : Hid (acc l p (k + 1) = acc l p k * 256 + l.getD (p + k) 0) := rfl
      generalize e1 : l.getD (p + k) 0 = x at g0 hyk HS
      clear e1
      have hkl : (p : Int) + (k : Int) < (l.length : Int) := by omega
      have hor := or256 (acc l p k) x hb.1 (by omega) hyk.1 hyk.2
      clear hc hy
      go_wp2
      go_round
      case rel => exact ⟨k + 1, by omega, by go_num, by rw [HS.out]⟩
      case measure => simp [intOf]; omega
    · have he : k = n := by omega
      subst he
      go_wp2
      go_ret2
      exact ⟨rfl, rfl⟩


set_option maxHeartbeats 1000000 in
theorem specGet_no (a : Option Addr) (cap n : Nat) (p size : Int) (w : World) (hn : n ≤ 4194304) (h : ¬ getOk n p size) :
    Calls Try.prog 91 #[.slice a n cap, .int .i64 p, .int .i64 size] w fun e w' => e = .returned (.tuple #[.int .i64 0, .bool false]) ∧ w' = w := by
  unfold getOk at h
  by_cases h1 : size < 1
  · go_enter Try.func91, Try.ntmps91
    go_wp2
    go_ret2
    exact ⟨rfl, rfl⟩
  by_cases h6 : 6 < size
  · go_enter Try.func91, Try.ntmps91
    go_wp2
    go_ret2
    exact ⟨rfl, rfl⟩
  by_cases h0 : p < 0
  · go_enter Try.func91, Try.ntmps91
    go_wp2
    go_ret2
    exact ⟨rfl, rfl⟩
  have hlt : (n : Int) - size < p := by omega
  clear h
  go_enter Try.func91, Try.ntmps91
  go_wp2
  go_ret2
  exact ⟨rfl, rfl⟩

set_option maxHeartbeats 1000000 in
theorem implGet_no (a : Option Addr) (cap n : Nat) (p size : Int) (w : World) (hn : n ≤ 4194304) (h : ¬ getOk n p size) :
    Calls Try.prog 88 #[.slice a n cap, .int .i64 p, .int .i64 size] w fun e w' => e = .returned (.tuple #[.int .i64 0, .bool false]) ∧ w' = w := by
  unfold getOk at h
  by_cases hs : 1 ≤ size ∧ size ≤ 6
  · have hsz : decide (1 ≤ size ∧ size ≤ 6) = true := by simpa using hs
    have hs1 := hs.1
    have hs6 := hs.2
    clear hs
    by_cases h0 : p < 0
    · go_enter Try.func88, Try.ntmps88
      go_wp2_with (go_at_call 94; refine (size_any _ _).mono ?_; rw [hsz]; rintro e w' ⟨rfl, rfl⟩)
      go_ret2
      exact ⟨rfl, rfl⟩
    have hlt : (n : Int) - size < p := by omega
    clear h
    go_enter Try.func88, Try.ntmps88
    go_wp2_with (go_at_call 94; refine (size_any _ _).mono ?_; rw [hsz]; rintro e w' ⟨rfl, rfl⟩)
    go_ret2
    exact ⟨rfl, rfl⟩
  · have hsz : decide (1 ≤ size ∧ size ≤ 6) = false := by simpa using hs
    clear hs h
    go_enter Try.func88, Try.ntmps88
    go_wp2_with (go_at_call 94; refine (size_any _ _).mono ?_; rw [hsz]; rintro e w' ⟨rfl, rfl⟩)
    go_ret2
    exact ⟨rfl, rfl⟩

end Go.Proofs.Ythgbjbebjjeddaa.Get
