/-
  Contracts of the two Sum16: what they answer, on every slice of bytes.
-/
import Derived.Test.YthgbjbebjjeddaaGet
namespace Go.Proofs.Ythgbjbebjjeddaa.Sm
open Go.RowKit
open Num Rw

/-- The k-th pair of bytes; a last byte without a partner takes 0. -/
def pair (l : List Int) (k : Nat) : Int := l.getD (2 * k) 0 * 256 + l.getD (2 * k + 1) 0

theorem ret_int {k : IntKind} {a b : Int} (h : a = b) : Ending.returned (.int k a) = .returned (.int k b) := by rw [h]

def fold (t : Int) : Int := if 65535 < t then t - 65535 else t

/-- The sum of the first k pairs. -/
def sm (l : List Int) : Nat → Int
  | 0 => 0
  | k + 1 => fold (sm l k + pair l k)

theorem pair_bd (l : List Int) (hy : Byt l) (k : Nat) : 0 ≤ pair l k ∧ pair l k ≤ 65535 := by
  have h1 := hy.at (2 * k)
  have h2 := hy.at (2 * k + 1)
  unfold pair; omega

theorem sm_bd (l : List Int) (hy : Byt l) : ∀ k, 0 ≤ sm l k ∧ sm l k ≤ 65535
  | 0 => by simp [sm]
  | k + 1 => by
    have ih := sm_bd l hy k
    have hp := pair_bd l hy k
    simp only [sm, fold]
    split <;> omega

theorem pair_last (l : List Int) (k : Nat) (h : l.length ≤ 2 * k + 1) : pair l k = l.getD (2 * k) 0 * 256 := by
  unfold pair
  have e : l.getD (2 * k + 1) 0 = 0 := by simp [List.getD, List.getElem?_eq_none h]
  rw [e]; omega

set_option maxHeartbeats 1000000 in
theorem pairAt_any (b off cap : Nat) (l : List Int) (k : Nat) (w : World) (h : Rd w (some ⟨b, off, none⟩) b off l) (hk : 2 * k < l.length) :
    Calls Try.prog 95 #[.slice (some ⟨b, off, none⟩) l.length cap, .int .i64 (2 * (k : Int))] w fun e w' => e = .returned (.int .i64 (pair l k)) ∧ w' = w := by
  obtain ⟨hh, hc, hs, hy⟩ := h
  clear hh
  have g0 : w.cell? ⟨b, off + 2 * k, none⟩ = some (.int .u8 (l.getD (2 * k) 0)) := hc _ hk
  have y0 := hy.at (2 * k)
  have hkz : 2 * (k : Int) < (l.length : Int) := by omega
  by_cases hl : 2 * k + 1 < l.length
  · have g1 : w.cell? ⟨b, off + (2 * k + 1), none⟩ = some (.int .u8 (l.getD (2 * k + 1) 0)) := hc _ hl
    have y1 := hy.at (2 * k + 1)
    have hkz1 : 2 * (k : Int) + 1 < (l.length : Int) := by omega
    have HP : Hid (pair l k = l.getD (2 * k) 0 * 256 + l.getD (2 * k + 1) 0) := rfl
    generalize l.getD (2 * k) 0 = x at *
    generalize l.getD (2 * k + 1) 0 = y at *
    have hor := Get.or256 x y y0.1 (by omega) y1.1 y1.2
    clear hc hy
    go_enter Try.func95, Try.ntmps95
    go_wp2
    go_ret
    exact ⟨ret_int HP.out.symm, rfl⟩
  · have HP : Hid (pair l k = l.getD (2 * k) 0 * 256) := pair_last l k (by omega)
    have hkz1 : 2 * (k : Int) + 1 = (l.length : Int) := by omega
    generalize l.getD (2 * k) 0 = x at *
    clear hc hy
    have hkk : (2 * (k : Int) + 1 == (l.length : Int)) = true := by simpa using hkz1
    clear hkz1
    go_enter Try.func95, Try.ntmps95
    go_wp2
    go_ret
    exact ⟨ret_int HP.out.symm, rfl⟩

set_option maxHeartbeats 1000000 in
theorem implSum_any (a : Option Addr) (b off cap : Nat) (l : List Int) (w : World) (h : Rd w a b off l) :
    Calls Try.prog 81 #[.slice a l.length cap] w fun e w' => e = .returned (.int .i64 (65535 - sm l ((l.length + 1) / 2))) ∧ w' = w := by
  have hs := h.size
  have hy := h.byt
  have hh := h.head
  go_enter Try.func81, Try.ntmps81
  go_wp2
  go_loop [3, 9] (fun t i => ∃ k : Nat, k ≤ (l.length + 1) / 2 ∧ i = .int .i64 k ∧ t = .int .i64 (sm l k)) (fun _ i => (l.length + 1) / 2 - (intOf i).toNat)
  case atStart => exact ⟨0, Nat.zero_le _, rfl, rfl⟩
  case round =>
    obtain ⟨k, hk, rfl, rfl⟩ := hrel
    have hb := sm_bd l hy k
    have hp := pair_bd l hy k
    by_cases hlt : k < (l.length + 1) / 2
    · obtain rfl := hh (by omega)
      have hkz : (k : Int) < ((l.length : Int) + 1) / 2 := by omega
      have h2 : 2 * k < l.length := by omega
      have HS : Hid (sm l (k + 1) = fold (sm l k + pair l k)) := rfl
      clear hy hh
      by_cases hf : 65535 < sm l k + pair l k
      · go_wp2_with (go_at_call 95; refine (pairAt_any _ _ _ _ _ _ h h2).mono ?_; rintro e w' ⟨rfl, rfl⟩)
        go_round
        case rel => exact ⟨k + 1, by omega, by go_num, by rw [HS.out, fold, if_pos hf]⟩
        case measure => simp [intOf]; omega
      · go_wp2_with (go_at_call 95; refine (pairAt_any _ _ _ _ _ _ h h2).mono ?_; rintro e w' ⟨rfl, rfl⟩)
        go_round
        case rel => exact ⟨k + 1, by omega, by go_num, by rw [HS.out, fold, if_neg (by omega)]⟩
        case measure => simp [intOf]; omega
    · have he : k = (l.length + 1) / 2 := by omega
      have hkz : ¬ (k : Int) < ((l.length : Int) + 1) / 2 := by omega
      have HE : Hid (k = (l.length + 1) / 2) := he
      clear he hlt
      go_wp2
      go_ret
      exact ⟨ret_int (by rw [← HE.out]), rfl⟩

set_option maxHeartbeats 1000000 in
theorem specSum_any (a : Option Addr) (b off cap : Nat) (l : List Int) (w : World) (h : Rd w a b off l) :
    Calls Try.prog 92 #[.slice a l.length cap] w fun e w' => e = .returned (.int .i64 (65535 - sm l ((l.length + 1) / 2))) ∧ w' = w := by
  have hs := h.size
  have hy := h.byt
  have hh := h.head
  have hc := h.cell
  clear h
  go_enter Try.func92, Try.ntmps92
  go_wp2
  go_loop [3, 4] (fun t i => ∃ k : Nat, k ≤ (l.length + 1) / 2 ∧ i = .int .i64 (2 * (k : Int)) ∧ t = .int .i64 (sm l k)) (fun _ i => l.length + 1 - (intOf i).toNat)
  case atStart => exact ⟨0, Nat.zero_le _, rfl, rfl⟩
  case round =>
    obtain ⟨k, hk, rfl, rfl⟩ := hrel
    have hb := sm_bd l hy k
    by_cases hlt : 2 * k < l.length
    · obtain rfl := hh (by omega)
      have hkz : 2 * (k : Int) < (l.length : Int) := by omega
      have HS : Hid (sm l (k + 1) = fold (sm l k + pair l k)) := rfl
      have g0 : w.cell? ⟨b, off + 2 * k, none⟩ = some (.int .u8 (l.getD (2 * k) 0)) := hc _ hlt
      have y0 := hy.at (2 * k)
      by_cases hl : 2 * k + 1 < l.length
      · have g1 : w.cell? ⟨b, off + (2 * k + 1), none⟩ = some (.int .u8 (l.getD (2 * k + 1) 0)) := hc _ hl
        have y1 := hy.at (2 * k + 1)
        have hkz1 : 2 * (k : Int) + 1 < (l.length : Int) := by omega
        have HP : Hid (pair l k = l.getD (2 * k) 0 * 256 + l.getD (2 * k + 1) 0) := rfl
        generalize l.getD (2 * k) 0 = x at *
        generalize l.getD (2 * k + 1) 0 = y at *
        clear hc hy hh
        by_cases hf : 65535 < sm l k + (x * 256 + y)
        · go_wp2
          go_round
          case rel => exact ⟨k + 1, by omega, by go_num, by rw [HS.out, HP.out, fold, if_pos hf]⟩
          case measure => simp [intOf]; omega
        · go_wp2
          go_round
          case rel => exact ⟨k + 1, by omega, by go_num, by rw [HS.out, HP.out, fold, if_neg (by omega)]⟩
          case measure => simp [intOf]; omega
      · have HP : Hid (pair l k = l.getD (2 * k) 0 * 256) := pair_last l k (by omega)
        have hkz1 : ¬ 2 * (k : Int) + 1 < (l.length : Int) := by omega
        generalize l.getD (2 * k) 0 = x at *
        clear hc hy hh
        by_cases hf : 65535 < sm l k + x * 256
        · go_wp2
          go_round
          case rel => exact ⟨k + 1, by omega, by go_num, by rw [HS.out, HP.out, fold, if_pos hf]⟩
          case measure => simp [intOf]; omega
        · go_wp2
          go_round
          case rel => exact ⟨k + 1, by omega, by go_num, by rw [HS.out, HP.out, fold, if_neg (by omega)]⟩
          case measure => simp [intOf]; omega
    · have he : k = (l.length + 1) / 2 := by omega
      have hkz : ¬ 2 * (k : Int) < (l.length : Int) := by omega
      have HE : Hid (k = (l.length + 1) / 2) := he
      clear he hlt hc hy hh
      go_wp2
      go_ret
      exact ⟨ret_int (by rw [← HE.out]), rfl⟩

end Go.Proofs.Ythgbjbebjjeddaa.Sm
