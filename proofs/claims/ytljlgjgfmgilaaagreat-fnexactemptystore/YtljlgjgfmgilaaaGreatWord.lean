/-
  Contracts of the two WordOk: what they answer, on every string.
-/
import Derived.Test.YtljlgjgfmgilaaaGreatRows
import Derived.Test.YtljlgjgfmgilaaaGreatNum
import Derived.WalkLawsBesides
namespace Go.Proofs.YtljlgjgfmgilaaaGreat.Word
open Go.RowKit
open Num

/-- The byte at place k; 0 behind the end. -/
def ch (s : ByteArray) (k : Nat) : Int := ((s.data.toList.getD k 0).toNat : Int)
theorem ch_at (s : ByteArray) (k : Nat) (h : k < s.size) : ((s[k]'h).toNat : Int) = ch s k := by
  unfold ch
  have h' : k < s.data.toList.length := by simpa using h
  simp only [List.getD, List.getElem?_eq_getElem h', Option.getD_some]
  rfl

def gd (k : Nat) (c : Int) : Bool := decide ((97 ≤ c ∧ c ≤ 122) ∨ (48 ≤ c ∧ c ≤ 57 ∧ k ≠ 0))
/-- 'WordOk' as a truth value. -/
def wordB (s : ByteArray) : Bool := decide (1 ≤ s.size ∧ s.size ≤ 12 ∧ ∀ k, k < s.size → gd k (ch s k) = true)

theorem word_size {s : ByteArray} (h : ¬ (1 ≤ s.size ∧ s.size ≤ 12)) : wordB s = false := by
  unfold wordB; rw [decide_eq_false]; intro ⟨a, b, _⟩; exact h ⟨a, b⟩
theorem word_bad {s : ByteArray} {k : Nat} (hk : k < s.size) (h : gd k (ch s k) = false) : wordB s = false := by
  unfold wordB; rw [decide_eq_false]; intro ⟨_, _, c⟩; rw [c k hk] at h; simp at h
theorem word_good {s : ByteArray} (h1 : 1 ≤ s.size) (h2 : s.size ≤ 12) (h : ∀ k, k < s.size → gd k (ch s k) = true) : wordB s = true := by
  unfold wordB; exact decide_eq_true ⟨h1, h2, h⟩

set_option maxHeartbeats 1000000 in
theorem specWord_any (s : ByteArray) (w : World) (hs : s.size ≤ maxLen) :
    Calls Tryz.prog 73 #[.string s] w fun e w' => e = .returned (.bool (wordB s)) ∧ w' = w := by
  unfold maxLen at hs
  by_cases h1 : 1 ≤ s.size
  · by_cases h12 : s.size ≤ 12
    · go_enter Tryz.func73, Tryz.ntmps73
      go_wp2
      go_loop [3, 4, 5] (fun i _ _ => ∃ k : Nat, k ≤ s.size ∧ i = .int .i64 k ∧ ∀ j, j < k → gd j (ch s j) = true) (fun i _ _ => s.size - (intOf i).toNat)
      case atStart => exact ⟨0, Nat.zero_le _, rfl, fun j hj => by omega⟩
      case round =>
        obtain ⟨k, hk, rfl, hall⟩ := hrel
        have HA : Hid (∀ j, j < k → gd j (ch s j) = true) := hall
        clear hall
        by_cases hlt : k < s.size
        · have HC : Hid (((s[k]'hlt).toNat : Int) = ch s k) := ch_at s k hlt
          have stp : gd k ((s[k]'hlt).toNat : Int) = true → ∀ j, j < k + 1 → gd j (ch s j) = true := fun h j hj => by
            by_cases e : j = k
            · subst e; rw [← HC.out]; exact h
            · exact HA.out j (by omega)
          have bad : gd k ((s[k]'hlt).toNat : Int) = false → wordB s = false := fun h => word_bad hlt (by rw [← HC.out]; exact h)
          have HS : Hid (gd k ((s[k]'hlt).toNat : Int) = true → ∀ j, j < k + 1 → gd j (ch s j) = true) := stp
          have HBd : Hid (gd k ((s[k]'hlt).toNat : Int) = false → wordB s = false) := bad
          clear stp bad
          by_cases hsm : 97 ≤ ((s[k]'hlt).toNat : Int) ∧ ((s[k]'hlt).toNat : Int) ≤ 122
          · obtain ⟨ha, hb⟩ := hsm
            go_wp2
            go_round
            case rel => exact ⟨k + 1, by omega, by go_num, HS.out (by unfold gd; simp; omega)⟩
            case measure => simp [intOf]; omega
          · by_cases hdg : 48 ≤ ((s[k]'hlt).toNat : Int) ∧ ((s[k]'hlt).toNat : Int) ≤ 57
            · obtain ⟨ha, hb⟩ := hdg
              by_cases hk0 : k = 0
              · have hkz : ((k : Int) == 0) = true := by simp; omega
                have HK : Hid (k = 0) := hk0
                clear hk0
                go_wp2
                go_ret
                exact ⟨ret_bool (HBd.out (by have := HK.out; unfold gd; simp; omega)).symm, rfl⟩
              · have hkz : ((k : Int) == 0) = false := by simp; omega
                go_wp2
                go_round
                case rel => exact ⟨k + 1, by omega, by go_num, HS.out (by unfold gd; simp; omega)⟩
                case measure => simp [intOf]; omega
            · have HB2 : Hid (gd k ((s[k]'hlt).toNat : Int) = false) := by unfold Hid gd; simp; omega
              have h3 : ((s[k]'hlt).toNat : Int) < 48 ∨ ((57 : Int) < ((s[k]'hlt).toNat : Int) ∧ ((s[k]'hlt).toNat : Int) < 97) ∨ (122 : Int) < ((s[k]'hlt).toNat : Int) := by omega
              clear hsm hdg
              rcases h3 with h3 | ⟨h3, h4⟩ | h3
              · go_wp2
                go_ret
                exact ⟨ret_bool (HBd.out HB2.out).symm, rfl⟩
              · go_wp2
                go_ret
                exact ⟨ret_bool (HBd.out HB2.out).symm, rfl⟩
              · have hq : decide (((s[k]'hlt).toNat : Int) ≤ 122) = false := by simp; omega
                go_wp2
                go_ret
                exact ⟨ret_bool (HBd.out HB2.out).symm, rfl⟩
        · go_wp2
          go_ret
          exact ⟨ret_bool (word_good h1 h12 (fun j hj => HA.out j (by omega))).symm, rfl⟩
    · have hz : (12 : Int) < (s.size : Int) := by omega
      rw [word_size (by omega)]
      go_enter Tryz.func73, Tryz.ntmps73
      go_wp2
      go_ret
      exact ⟨rfl, rfl⟩
  · have hz : (s.size : Int) < 1 := by omega
    rw [word_size (by omega)]
    go_enter Tryz.func73, Tryz.ntmps73
    go_wp2
    go_ret
    exact ⟨rfl, rfl⟩


theorem small_any (c : Int) (w : World) :
    Calls Tryz.prog 138 #[.int .u8 c] w fun e w' => e = .returned (.bool (decide (97 ≤ c ∧ c ≤ 122))) ∧ w' = w := by
  by_cases h1 : 97 ≤ c
  · by_cases h2 : c ≤ 122
    all_goals
      go_enter Tryz.func138, Tryz.ntmps138
      go_wp2
      go_ret
      exact ⟨ret_bool (by simp <;> omega), rfl⟩
  · go_enter Tryz.func138, Tryz.ntmps138
    go_wp2
    go_ret
    exact ⟨ret_bool (by simp <;> omega), rfl⟩

theorem digit_any (c : Int) (w : World) :
    Calls Tryz.prog 139 #[.int .u8 c] w fun e w' => e = .returned (.bool (decide (48 ≤ c ∧ c ≤ 57))) ∧ w' = w := by
  by_cases h1 : 48 ≤ c
  · by_cases h2 : c ≤ 57
    all_goals
      go_enter Tryz.func139, Tryz.ntmps139
      go_wp2
      go_ret
      exact ⟨ret_bool (by simp <;> omega), rfl⟩
  · go_enter Tryz.func139, Tryz.ntmps139
    go_wp2
    go_ret
    exact ⟨ret_bool (by simp <;> omega), rfl⟩

set_option maxHeartbeats 1000000 in
theorem implWord_any (s : ByteArray) (w : World) (hs : s.size ≤ maxLen) :
    Calls Tryz.prog 110 #[.string s] w fun e w' => e = .returned (.bool (wordB s)) ∧ w' = w := by
  unfold maxLen at hs
  by_cases h1 : 1 ≤ s.size
  · by_cases h12 : s.size ≤ 12
    · have h0 : 0 < s.size := h1
      have hz0 : (0 : Int) < (s.size : Int) := by omega
      have HC0 : Hid (((s[0]'h0).toNat : Int) = ch s 0) := ch_at s 0 h0
      by_cases hf : 97 ≤ ((s[0]'h0).toNat : Int) ∧ ((s[0]'h0).toNat : Int) ≤ 122
      · have hd : decide ((97 : Int) ≤ ((s[0]'h0).toNat : Int) ∧ ((s[0]'h0).toNat : Int) ≤ 122) = true := decide_eq_true hf
        have HF : Hid (97 ≤ ch s 0 ∧ ch s 0 ≤ 122) := by rw [← HC0.out]; exact hf
        clear hf
        go_enter Tryz.func110, Tryz.ntmps110
        go_wp2_with (go_at_call 138; refine (small_any _ _).mono ?_; rw [hd]; rintro e w' ⟨rfl, rfl⟩)
        go_loop [20, 3] (fun i _ => ∃ k : Nat, k ≤ s.size ∧ i = .int .i64 k ∧ ∀ j, j < k → gd j (ch s j) = true) (fun i _ => s.size - (intOf i).toNat)
        case atStart => exact ⟨0, Nat.zero_le _, rfl, fun j hj => by omega⟩
        case round =>
          obtain ⟨k, hk, rfl, hall⟩ := hrel
          have HA : Hid (∀ j, j < k → gd j (ch s j) = true) := hall
          clear hall hd
          by_cases hlt : k < s.size
          · have HC : Hid (((s[k]'hlt).toNat : Int) = ch s k) := ch_at s k hlt
            have HS : Hid (gd k ((s[k]'hlt).toNat : Int) = true → ∀ j, j < k + 1 → gd j (ch s j) = true) := fun h j hj => by
              by_cases e : j = k
              · subst e; rw [← HC.out]; exact h
              · exact HA.out j (by omega)
            have HBd : Hid (gd k ((s[k]'hlt).toNat : Int) = false → wordB s = false) := fun h => word_bad hlt (by rw [← HC.out]; exact h)
            by_cases hsm : 97 ≤ ((s[k]'hlt).toNat : Int) ∧ ((s[k]'hlt).toNat : Int) ≤ 122
            · have hd1 := decide_eq_true hsm
              go_wp2_with (go_at_call 138; refine (small_any _ _).mono ?_; rw [hd1]; rintro e w' ⟨rfl, rfl⟩)
              go_round
              case rel => exact ⟨k + 1, by omega, by go_num, HS.out (by unfold gd; simp; omega)⟩
              case measure => simp [intOf]; omega
            · have hd1 := decide_eq_false hsm
              by_cases hdg : 48 ≤ ((s[k]'hlt).toNat : Int) ∧ ((s[k]'hlt).toNat : Int) ≤ 57
              · have hd2 := decide_eq_true hdg
                have hk0 : k ≠ 0 := by
                  intro e; subst e
                  have := HF.out
                  rw [← HC.out] at this
                  exact hsm this
                go_wp2_with (first | (go_at_call 138; refine (small_any _ _).mono ?_; rw [hd1]; rintro e w' ⟨rfl, rfl⟩) | (go_at_call 139; refine (digit_any _ _).mono ?_; rw [hd2]; rintro e w' ⟨rfl, rfl⟩))
                go_round
                case rel => exact ⟨k + 1, by omega, by go_num, HS.out (by unfold gd; simp; omega)⟩
                case measure => simp [intOf]; omega
              · have hd2 := decide_eq_false hdg
                go_wp2_with (first | (go_at_call 138; refine (small_any _ _).mono ?_; rw [hd1]; rintro e w' ⟨rfl, rfl⟩) | (go_at_call 139; refine (digit_any _ _).mono ?_; rw [hd2]; rintro e w' ⟨rfl, rfl⟩))
                go_ret
                exact ⟨ret_bool (HBd.out (by unfold gd; simp; omega)).symm, rfl⟩
          · go_wp2
            go_ret
            exact ⟨ret_bool (word_good h1 h12 (fun j hj => HA.out j (by omega))).symm, rfl⟩
      · have hd : decide ((97 : Int) ≤ ((s[0]'h0).toNat : Int) ∧ ((s[0]'h0).toNat : Int) ≤ 122) = false := decide_eq_false hf
        have HF : Hid (wordB s = false) := word_bad h0 (by rw [← HC0.out]; unfold gd; simp; omega)
        clear hf
        go_enter Tryz.func110, Tryz.ntmps110
        go_wp2_with (go_at_call 138; refine (small_any _ _).mono ?_; rw [hd]; rintro e w' ⟨rfl, rfl⟩)
        go_ret
        exact ⟨ret_bool HF.out.symm, rfl⟩
    · have hz : (12 : Int) < (s.size : Int) := by omega
      rw [word_size (by omega)]
      go_enter Tryz.func110, Tryz.ntmps110
      go_wp2
      go_ret
      exact ⟨rfl, rfl⟩
  · have hz : (s.size : Int) < 1 := by omega
    rw [word_size (by omega)]
    go_enter Tryz.func110, Tryz.ntmps110
    go_wp2
    go_ret
    exact ⟨rfl, rfl⟩

end Go.Proofs.YtljlgjgfmgilaaaGreat.Word
