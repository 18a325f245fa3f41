/-
  The specification's ActsOk.
-/
import Derived.Test.YtcbgnfjnjfaacaaYd
import Derived.Test.YtcbgnfjnjfaacaaPk
namespace Go.Proofs.Ytcbgnfjnjfaacaa.Ye
set_option maxRecDepth 8000
open Go Go.RowKit
open Num Pl Yb Yc Yd

theorem num_any (n : Int) (w : World) : Calls Try.prog 139 #[.int .i64 n] w fun e w' => e = .returned (.bool (numOkB n 6)) ∧ w' = w := by
  rw [Pk.num6]
  unfold Pk.numB
  by_cases h1 : 0 ≤ n
  · by_cases h2 : n ≤ 281474976710655
    · go_enter Try.func139, Try.ntmps139
      go_wp2
      go_ret
      exact ⟨ret_bool (by simp <;> omega), rfl⟩
    · go_enter Try.func139, Try.ntmps139
      go_wp2
      go_ret
      exact ⟨ret_bool (by simp <;> omega), rfl⟩
  · go_enter Try.func139, Try.ntmps139
    go_wp2
    go_ret
    exact ⟨ret_bool (by simp <;> omega), rfl⟩

set_option maxHeartbeats 40000000 in
theorem actsS (a : Option Addr) (b off cap : Nat) (l : List A3) (w : World) (h : Rd w a b off l) :
    Calls Try.prog 104 #[.slice a l.length cap] w fun e w' => e = .returned (.bool (actsB l)) ∧ Below w.heap.size w w' := by
  obtain ⟨hh, hc, hs⟩ := h
  by_cases h12 : 12 < l.length
  · have hz : (12 : Int) < (l.length : Int) := by omega
    rw [actsB_long h12]
    go_enter Try.func104, Try.ntmps104
    go_wp2
    go_ret
    exact ⟨rfl, Below.refl _ _⟩
  obtain ⟨n, hn⟩ : ∃ n, n = l.length := ⟨_, rfl⟩
  rw [← hn] at hh hc hs h12 ⊢
  have HN : Hid (n = l.length) := hn
  clear hn
  have hz : ¬ (12 : Int) < (n : Int) := by omega
  go_enter Try.func104, Try.ntmps104
  go_wp2
  go_loopw [11] (fun i wr => ∃ k : Nat, k ≤ n ∧ i = .int .i64 k ∧ Below w.heap.size w wr ∧ pre l k) (fun i _ => n - (intOf i).toNat)
  case atStart => exact ⟨0, Nat.zero_le _, rfl, Below.refl _ _, fun i hi => by omega⟩
  case round =>
    obtain ⟨k, hk, rfl, hbel, hpre⟩ := hrel
    have HP : Hid (pre l k) := hpre
    clear hpre
    by_cases hlt : k < n
    · obtain rfl := hh (by omega)
      have hkz : (k : Int) < (n : Int) := by omega
      obtain ⟨c0, c1, c2⟩ := (hc k hlt).of hbel (hc k hlt).lt
      generalize ex : l.getD k z3 = x at c0 c1 c2
      have HX : Hid (l.getD k z3 = x) := ex
      clear ex hc hh
      obtain ⟨x0, x1, x2⟩ := x
      simp only at c0 c1 c2
      replace hbel : ∀ o, Below w.heap.size w (wr.alloc o) := fun o => Rw.next hbel (below_alloc1 _ _)
      have HB : Hid (∀ o, Below w.heap.size w (wr.alloc o)) := hbel
      clear hbel
      have NO : Hid (actB (x0, x1, x2) = false → actsB l = false) := fun h => actsB_no (k := k) (by have := HN.out; omega) (by rw [HX.out]; exact h)
      have YES : Hid (actB (x0, x1, x2) = true → pre l (k + 1)) := fun h => pre_step HP.out (by rw [HX.out]; exact h)
      clear HX HP
      by_cases hz1 : x1 = 0
      · subst hz1
        by_cases hz2 : x2 = 0
        · subst hz2
          by_cases k1 : x0 = 1
          · subst k1
            go_wp2
            go_ret
            exact ⟨ret_bool (NO.out (by simp [actB])).symm, HB.out _⟩
          have e1 : (x0 == 1) = false := by simpa using k1
          by_cases k3 : x0 = 3
          · subst k3
            go_wp2
            go_ret
            exact ⟨ret_bool (NO.out (by simp [actB])).symm, HB.out _⟩
          have e3 : (x0 == 3) = false := by simpa using k3
          by_cases m1 : x0 < 1
          · skip
            go_wp2
            go_ret
            exact ⟨ret_bool (NO.out (by simp [actB, k1, k3]; omega)).symm, HB.out _⟩
          by_cases m5 : 5 < x0
          · skip
            go_wp2
            go_ret
            exact ⟨ret_bool (NO.out (by simp [actB, k1, k3]; omega)).symm, HB.out _⟩
          go_wp2
          go_roundw
          case rel => exact ⟨k + 1, by omega, by go_num, HB.out _, YES.out (by simp [actB, k1, k3]; omega)⟩
          case measure => simp [intOf]; omega
        · have f02 : (x2 == 0) = false := by simpa using hz2
          by_cases k1 : x0 = 1
          · subst k1
            go_wp2
            go_ret
            exact ⟨ret_bool (NO.out (by simp [actB])).symm, HB.out _⟩
          have e1 : (x0 == 1) = false := by simpa using k1
          by_cases k3 : x0 = 3
          · subst k3
            go_wp2
            go_ret
            exact ⟨ret_bool (NO.out (by simp [actB])).symm, HB.out _⟩
          have e3 : (x0 == 3) = false := by simpa using k3
          go_wp2
          go_ret
          exact ⟨ret_bool (NO.out (by simp [actB, k1, k3, hz2])).symm, HB.out _⟩
      · have f01 : (x1 == 0) = false := by simpa using hz1
        by_cases hz2 : x2 = 0
        · subst hz2
          by_cases k1 : x0 = 1
          · subst k1
            by_cases p1 : 1 ≤ x1
            · by_cases p2 : x1 ≤ 255
              · skip
                go_wp2
                go_roundw
                case rel => exact ⟨k + 1, by omega, by go_num, HB.out _, YES.out (by simp [actB, p1, p2])⟩
                case measure => simp [intOf]; omega
              · skip
                go_wp2
                go_ret
                exact ⟨ret_bool (NO.out (by simp [actB]; omega)).symm, HB.out _⟩
            · skip
              go_wp2
              go_ret
              exact ⟨ret_bool (NO.out (by simp [actB]; omega)).symm, HB.out _⟩
          have e1 : (x0 == 1) = false := by simpa using k1
          by_cases k3 : x0 = 3
          · subst k3
            by_cases p1 : x1 = 1
            · subst p1
              cases hR : numOkB 0 6
              · have HR : Hid (numOkB 0 6 = false) := hR
                clear hR
                go_wp2_with (go_at_call 139; refine (num_any _ _).mono ?_; rw [HR.out]; rintro e w3 ⟨rfl, hw⟩; replace hw := hw.symm; subst hw)
                go_ret
                exact ⟨ret_bool (NO.out (by simp [actB]; exact HR.out)).symm, HB.out _⟩
              · have HR : Hid (numOkB 0 6 = true) := hR
                clear hR
                go_wp2_with (go_at_call 139; refine (num_any _ _).mono ?_; rw [HR.out]; rintro e w3 ⟨rfl, hw⟩; replace hw := hw.symm; subst hw)
                go_roundw
                case rel => exact ⟨k + 1, by omega, by go_num, HB.out _, YES.out (by simp [actB]; exact HR.out)⟩
                case measure => simp [intOf]; omega
            by_cases p2 : x1 = 2
            · subst p2
              cases hR : numOkB 0 6
              · have HR : Hid (numOkB 0 6 = false) := hR
                clear hR
                go_wp2_with (go_at_call 139; refine (num_any _ _).mono ?_; rw [HR.out]; rintro e w3 ⟨rfl, hw⟩; replace hw := hw.symm; subst hw)
                go_ret
                exact ⟨ret_bool (NO.out (by simp [actB]; exact HR.out)).symm, HB.out _⟩
              · have HR : Hid (numOkB 0 6 = true) := hR
                clear hR
                go_wp2_with (go_at_call 139; refine (num_any _ _).mono ?_; rw [HR.out]; rintro e w3 ⟨rfl, hw⟩; replace hw := hw.symm; subst hw)
                go_roundw
                case rel => exact ⟨k + 1, by omega, by go_num, HB.out _, YES.out (by simp [actB]; exact HR.out)⟩
                case measure => simp [intOf]; omega
            have f1 : (x1 == 1) = false := by simpa using p1
            have f2 : (x1 == 2) = false := by simpa using p2
            go_wp2
            go_ret
            exact ⟨ret_bool (NO.out (by simp [actB, p1, p2])).symm, HB.out _⟩
          have e3 : (x0 == 3) = false := by simpa using k3
          go_wp2
          go_ret
          exact ⟨ret_bool (NO.out (by simp [actB, k1, k3, hz1])).symm, HB.out _⟩
        · have f02 : (x2 == 0) = false := by simpa using hz2
          by_cases k1 : x0 = 1
          · subst k1
            by_cases p1 : 1 ≤ x1
            · by_cases p2 : x1 ≤ 255
              · skip
                go_wp2
                go_ret
                exact ⟨ret_bool (NO.out (by simp [actB, hz2])).symm, HB.out _⟩
              · skip
                go_wp2
                go_ret
                exact ⟨ret_bool (NO.out (by simp [actB]; omega)).symm, HB.out _⟩
            · skip
              go_wp2
              go_ret
              exact ⟨ret_bool (NO.out (by simp [actB]; omega)).symm, HB.out _⟩
          have e1 : (x0 == 1) = false := by simpa using k1
          by_cases k3 : x0 = 3
          · subst k3
            by_cases p1 : x1 = 1
            · subst p1
              cases hR : numOkB x2 6
              · have HR : Hid (numOkB x2 6 = false) := hR
                clear hR
                go_wp2_with (go_at_call 139; refine (num_any _ _).mono ?_; rw [HR.out]; rintro e w3 ⟨rfl, hw⟩; replace hw := hw.symm; subst hw)
                go_ret
                exact ⟨ret_bool (NO.out (by simp [actB]; exact HR.out)).symm, HB.out _⟩
              · have HR : Hid (numOkB x2 6 = true) := hR
                clear hR
                go_wp2_with (go_at_call 139; refine (num_any _ _).mono ?_; rw [HR.out]; rintro e w3 ⟨rfl, hw⟩; replace hw := hw.symm; subst hw)
                go_roundw
                case rel => exact ⟨k + 1, by omega, by go_num, HB.out _, YES.out (by simp [actB]; exact HR.out)⟩
                case measure => simp [intOf]; omega
            by_cases p2 : x1 = 2
            · subst p2
              cases hR : numOkB x2 6
              · have HR : Hid (numOkB x2 6 = false) := hR
                clear hR
                go_wp2_with (go_at_call 139; refine (num_any _ _).mono ?_; rw [HR.out]; rintro e w3 ⟨rfl, hw⟩; replace hw := hw.symm; subst hw)
                go_ret
                exact ⟨ret_bool (NO.out (by simp [actB]; exact HR.out)).symm, HB.out _⟩
              · have HR : Hid (numOkB x2 6 = true) := hR
                clear hR
                go_wp2_with (go_at_call 139; refine (num_any _ _).mono ?_; rw [HR.out]; rintro e w3 ⟨rfl, hw⟩; replace hw := hw.symm; subst hw)
                go_roundw
                case rel => exact ⟨k + 1, by omega, by go_num, HB.out _, YES.out (by simp [actB]; exact HR.out)⟩
                case measure => simp [intOf]; omega
            have f1 : (x1 == 1) = false := by simpa using p1
            have f2 : (x1 == 2) = false := by simpa using p2
            go_wp2
            go_ret
            exact ⟨ret_bool (NO.out (by simp [actB, p1, p2])).symm, HB.out _⟩
          have e3 : (x0 == 3) = false := by simpa using k3
          go_wp2
          go_ret
          exact ⟨ret_bool (NO.out (by simp [actB, k1, k3, hz1])).symm, HB.out _⟩
    · have he : k = n := by omega
      subst he
      go_wp2
      go_ret
      have := HN.out
      exact ⟨ret_bool (actsB_yes (l := l) (by omega) (by rw [← this]; exact HP.out)).symm, hbel⟩

end Go.Proofs.Ytcbgnfjnjfaacaa.Ye
