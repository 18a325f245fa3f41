/-
  The program's isBlank and tokenPlace: what they answer, on every text.
-/
import Derived.Test.YtpjgedhkanmbpaaDoorLy
import Derived.WalkMore
namespace Go.Proofs.YtpjgedhkanmbpaaDoor.Lf
open Go Go.RowKit
set_option maxRecDepth 8000
open Lv (ch ltr cap lead varB len_eq ch_at ret_bool ret_int)
open Ly

set_option maxHeartbeats 1000000 in
theorem blank_any (c : Int) (w : World) :
    Calls Tryd.prog 20 #[.int .u8 c] w fun e w' => e = .returned (.bool (blk c)) ∧ w' = w := by
  by_cases h0 : c = 9
  · subst h0
    go_enter Tryd.func20, Tryd.ntmps20
    go_wp2
    go_ret
    exact ⟨rfl, rfl⟩
  by_cases h1 : c = 10
  · subst h1
    go_enter Tryd.func20, Tryd.ntmps20
    go_wp2
    go_ret
    exact ⟨rfl, rfl⟩
  by_cases h2 : c = 13
  · subst h2
    go_enter Tryd.func20, Tryd.ntmps20
    go_wp2
    go_ret
    exact ⟨rfl, rfl⟩
  by_cases h3 : c = 32
  · subst h3
    go_enter Tryd.func20, Tryd.ntmps20
    go_wp2
    go_ret
    exact ⟨rfl, rfl⟩
  have HB : Hid (blk c = false) := (by unfold blk; exact decide_eq_false (by omega) : blk c = false)
  have b0 : (c == 9) = false := by simpa using h0
  have b1 : (c == 10) = false := by simpa using h1
  have b2 : (c == 13) = false := by simpa using h2
  have b3 : (c == 32) = false := by simpa using h3
  go_enter Tryd.func20, Tryd.ntmps20
  go_wp2
  go_ret
  exact ⟨ret_bool HB.out.symm, rfl⟩

/-- r is the place where the text goes on from place i. -/
structure At (s : ByteArray) (i r : Nat) : Prop where
  lo : i ≤ r
  hi : r ≤ s.size
  at_ : r < s.size → blk (ch s r) = false ∧ ch s r ≠ 35
  same : ∀ acc, LX s i acc = LX s r acc

theorem at_step {s : ByteArray} {i k : Nat} {b : Bool} (h : ∀ acc, LX s i acc = LX s (if b = true then k + rem s k else k) acc) {k' : Nat} {b' : Bool} (e : ∀ acc, LX s (if b = true then k + rem s k else k) acc = LX s (if b' = true then k' + rem s k' else k') acc) :
    ∀ acc, LX s i acc = LX s (if b' = true then k' + rem s k' else k') acc := fun acc => (h acc).trans (e acc)

set_option maxHeartbeats 2000000 in
theorem place_any (s : ByteArray) (i : Nat) (hi : i ≤ s.size) (hs : s.size ≤ 6000) (w : World) :
    Calls Tryd.prog 14 #[.string s, .int .i64 (i : Int)] w fun e w' => (∃ r, e = .returned (.int .i64 ((r : Nat) : Int)) ∧ At s i r) ∧ w' = w := by
  go_enter Tryd.func14, Tryd.ntmps14
  go_wp2
  go_step3
  go_wp2
  go_step3
  go_wp2
  go_loop [1, 5] (fun a b => ∃ (k : Nat) (q : Bool), a = .int .i64 (k : Int) ∧ b = .bool q ∧ i ≤ k ∧ k ≤ s.size ∧ ∀ acc, LX s i acc = LX s (if q = true then k + rem s k else k) acc) (fun a _ => s.size - (intOf a).toNat)
  case atStart => exact ⟨i, false, rfl, rfl, Nat.le_refl _, hi, fun acc => rfl⟩
  case round =>
    obtain ⟨k, q, rfl, rfl, hk, hks, hall⟩ := hrel
    have HA : Hid (∀ acc, LX s i acc = LX s (if q = true then k + rem s k else k) acc) := hall
    clear hall
    by_cases hlt : k < s.size
    · have hkz : (k : Int) < (s.size : Int) := by omega
      have HC : Hid (((s[k]'hlt).toNat : Int) = ch s k) := ch_at s k hlt
      cases q with
      | true =>
        by_cases hc : ((s[k]'hlt).toNat : Int) = 10
        · have HN : Hid (∀ acc, LX s i acc = LX s (if false = true then (k + 1) + rem s (k + 1) else (k + 1)) acc) := at_step HA.out (fun acc => by
            have h10 : ch s k = 10 := by rw [← HC.out]; exact hc
            rw [if_pos rfl, rem_ten hlt h10, Nat.add_zero]
            exact LX_blank hlt (by rw [h10]; decide) acc)
          have hb : (((s[k]'hlt).toNat : Int) == 10) = true := by rw [hc]; rfl
          clear hc HC
          go_wp2
          go_round
          case rel => exact ⟨k + 1, false, by go_num, congrArg Value.bool (by unfold bne; rw [hb]; rfl), by omega, by omega, HN.out⟩
          case measure => simp [intOf]; omega
        · have HN : Hid (∀ acc, LX s i acc = LX s (if true = true then (k + 1) + rem s (k + 1) else (k + 1)) acc) := at_step HA.out (fun acc => by
            have h10 : ch s k ≠ 10 := by rw [← HC.out]; exact hc
            rw [if_pos rfl, if_pos rfl, rem_step hlt h10, show k + (rem s (k + 1) + 1) = k + 1 + rem s (k + 1) by omega])
          have hb : (((s[k]'hlt).toNat : Int) == 10) = false := by simpa using hc
          clear HC
          go_wp2
          go_round
          case rel => exact ⟨k + 1, true, by go_num, congrArg Value.bool (by unfold bne; rw [hb]; rfl), by omega, by omega, HN.out⟩
          case measure => simp [intOf]; omega
      | false =>
        by_cases hc : ((s[k]'hlt).toNat : Int) = 35
        · have HN : Hid (∀ acc, LX s i acc = LX s (if true = true then (k + 1) + rem s (k + 1) else (k + 1)) acc) := at_step HA.out (fun acc => by
            have h35 : ch s k = 35 := by rw [← HC.out]; exact hc
            rw [if_neg (by decide), if_pos rfl]
            exact LX_rem hlt h35 acc)
          have hb : (((s[k]'hlt).toNat : Int) == 35) = true := by rw [hc]; rfl
          clear hc HC
          go_wp2
          go_round
          case rel => exact ⟨k + 1, true, by go_num, rfl, by omega, by omega, HN.out⟩
          case measure => simp [intOf]; omega
        · have hb : (((s[k]'hlt).toNat : Int) == 35) = false := by simpa using hc
          have H35 : Hid (ch s k ≠ 35) := (by rw [← HC.out]; exact hc : ch s k ≠ 35)
          cases hq : blk ((s[k]'hlt).toNat : Int) with
          | true =>
            have HN : Hid (∀ acc, LX s i acc = LX s (if false = true then (k + 1) + rem s (k + 1) else (k + 1)) acc) := at_step HA.out (fun acc => by
              rw [if_neg (by decide), if_neg (by decide)]
              exact LX_blank hlt (by rw [← HC.out]; exact hq) acc)
            clear HC hc
            go_wp2_with (go_at_call 20; refine (blank_any _ _).mono ?_; rw [hq]; rintro e w' ⟨rfl, hw'⟩; replace hw' := hw'.symm; subst hw')
            go_round
            case rel => exact ⟨k + 1, false, by go_num, rfl, by omega, by omega, HN.out⟩
            case measure => simp [intOf]; omega
          | false =>
            have HX : Hid (At s i k) := ⟨hk, hks, fun _ => ⟨by rw [← HC.out]; exact hq, H35.out⟩, fun acc => HA.out acc⟩
            clear HC hc
            go_wp2_with (go_at_call 20; refine (blank_any _ _).mono ?_; rw [hq]; rintro e w' ⟨rfl, hw'⟩; replace hw' := hw'.symm; subst hw')
            (try rw [Exit.noGoto_ret])
            go_ret
            exact ⟨⟨k, rfl, HX.out⟩, rfl⟩
    · have hkz : ¬ (k : Int) < (s.size : Int) := by omega
      have HX : Hid (At s i k) := ⟨hk, hks, fun h => absurd h hlt, fun acc => by
        have := HA.out acc
        rw [this]
        cases q with
        | true => rw [if_pos rfl, rem_end (by omega), Nat.add_zero]
        | false => rw [if_neg (by decide)]⟩
      go_wp2
      (try rw [Exit.noGoto_ret])
      go_ret
      exact ⟨⟨k, rfl, HX.out⟩, rfl⟩

end Go.Proofs.YtpjgedhkanmbpaaDoor.Lf
