/-
  Contracts of the two PortsOk, on every list of integers.
-/
import Derived.Test.YtkakdldhinimoaaHg
namespace Go.Proofs.Ytkakdldhinimoaa.Ya
open Go Go.RowKit
open Num Pl Hr

/-- The first k ports are right and rise. -/
def pre (l : List Int) (k : Nat) : Prop := ∀ i, i < k → 1 ≤ l.getD i 0 ∧ l.getD i 0 ≤ 255 ∧ (0 < i → l.getD (i - 1) 0 < l.getD i 0)
instance (l : List Int) (k : Nat) : Decidable (pre l k) := by unfold pre; infer_instance
/-- The ports are right. -/
def portsB (l : List Int) : Bool := decide (l.length ≤ 8 ∧ pre l l.length)

theorem portsB_long {l : List Int} (h : 8 < l.length) : portsB l = false := by
  unfold portsB; rw [decide_eq_false]; omega
theorem portsB_yes {l : List Int} (h : l.length ≤ 8) (hp : pre l l.length) : portsB l = true := decide_eq_true ⟨h, hp⟩
theorem portsB_no {l : List Int} {k : Nat} (hk : k < l.length) (h : ¬ (1 ≤ l.getD k 0 ∧ l.getD k 0 ≤ 255 ∧ (0 < k → l.getD (k - 1) 0 < l.getD k 0))) : portsB l = false :=
  decide_eq_false fun hh => h (hh.2 k hk)
theorem pre_step {l : List Int} {k : Nat} (h : pre l k) (hk : 1 ≤ l.getD k 0 ∧ l.getD k 0 ≤ 255 ∧ (0 < k → l.getD (k - 1) 0 < l.getD k 0)) : pre l (k + 1) := by
  intro i hi
  by_cases e : i = k
  · subst e; exact hk
  · exact h i (by omega)
/-- The port ahead. -/
def last (l : List Int) (k : Nat) : Int := if k = 0 then 0 else l.getD (k - 1) 0

set_option maxHeartbeats 1000000 in
theorem portsI (a : Option Addr) (b off cap : Nat) (l : List Int) (w : World) (h : Rd w a b off l) :
    Calls Try.prog 14 #[.slice a l.length cap] w fun e w' => e = .returned (.bool (portsB l)) ∧ w' = w := by
  obtain ⟨hh, hc, hs⟩ := h
  by_cases h8 : 8 < l.length
  · have hz : (8 : Int) < (l.length : Int) := by omega
    rw [portsB_long h8]
    go_enter Try.func14, Try.ntmps14
    go_wp2
    go_ret
    exact ⟨rfl, rfl⟩
  obtain ⟨n, hn⟩ : ∃ n, n = l.length := ⟨_, rfl⟩
  rw [← hn] at hh hc hs h8 ⊢
  have HN : Hid (n = l.length) := hn
  clear hn
  have hz : ¬ (8 : Int) < (n : Int) := by omega
  go_enter Try.func14, Try.ntmps14
  go_wp2
  go_loop [3, 11] (fun q i => ∃ k : Nat, k ≤ n ∧ i = .int .i64 k ∧ q = .int .i64 (last l k) ∧ pre l k) (fun _ i => n - (intOf i).toNat)
  case atStart => exact ⟨0, Nat.zero_le _, rfl, rfl, fun i hi => by omega⟩
  case round =>
    obtain ⟨k, hk, rfl, rfl, hpre⟩ := hrel
    have HP : Hid (pre l k) := hpre
    clear hpre
    by_cases hlt : k < n
    · obtain rfl := hh (by omega)
      have hkz : (k : Int) < (n : Int) := by omega
      have g0 := hc k hlt
      obtain ⟨x, hx⟩ : ∃ x, x = l.getD k 0 := ⟨_, rfl⟩
      obtain ⟨y, hy⟩ : ∃ y, y = last l k := ⟨_, rfl⟩
      rw [← hx] at g0
      rw [← hy]
      have HX : Hid (x = l.getD k 0) := hx
      have HY : Hid (y = last l k) := hy
      clear hx hy hc hh
      have no : ¬ (1 ≤ x ∧ x ≤ 255 ∧ ¬ x ≤ y) → portsB l = false := fun hne => portsB_no (k := k) (by have := HN.out; omega) (by
        rw [← HX.out]
        intro ⟨q1, q2, q3⟩
        refine hne ⟨q1, q2, ?_⟩
        rw [HY.out]; unfold last
        split
        · omega
        · have := q3 (by omega); rw [HX.out] at this ⊢; omega)
      have NO : Hid (¬ (1 ≤ x ∧ x ≤ 255 ∧ ¬ x ≤ y) → portsB l = false) := no
      clear no
      by_cases h1 : 1 ≤ x
      · by_cases h2 : x ≤ 255
        · by_cases h3 : x ≤ y
          · go_wp2
            go_ret
            exact ⟨ret_bool (NO.out (by omega)).symm, rfl⟩
          · go_wp2
            go_round
            case rel =>
              refine ⟨k + 1, by omega, by go_num, ?_, ?_⟩
              · rw [HX.out]; simp [last]
              · refine pre_step HP.out ?_
                rw [← HX.out]
                refine ⟨h1, h2, fun hp => ?_⟩
                have := HY.out; unfold last at this; rw [if_neg (by omega)] at this; omega
            case measure => simp [intOf]; omega
        · go_wp2
          go_ret
          exact ⟨ret_bool (NO.out (by omega)).symm, rfl⟩
      · go_wp2
        go_ret
        exact ⟨ret_bool (NO.out (by omega)).symm, rfl⟩
    · have he : k = n := by omega
      subst he
      go_wp2
      go_ret
      have := HN.out
      exact ⟨ret_bool (portsB_yes (by omega) (by rw [← this]; exact HP.out)).symm, rfl⟩

set_option maxHeartbeats 1000000 in
theorem portsS (a : Option Addr) (b off cap : Nat) (l : List Int) (w : World) (h : Rd w a b off l) :
    Calls Try.prog 12 #[.slice a l.length cap] w fun e w' => e = .returned (.bool (portsB l)) ∧ w' = w := by
  obtain ⟨hh, hc, hs⟩ := h
  by_cases h8 : 8 < l.length
  · have hz : (8 : Int) < (l.length : Int) := by omega
    rw [portsB_long h8]
    go_enter Try.func12, Try.ntmps12
    go_wp2
    go_ret
    exact ⟨rfl, rfl⟩
  obtain ⟨n, hn⟩ : ∃ n, n = l.length := ⟨_, rfl⟩
  rw [← hn] at hh hc hs h8 ⊢
  have HN : Hid (n = l.length) := hn
  clear hn
  have hz : ¬ (8 : Int) < (n : Int) := by omega
  go_enter Try.func12, Try.ntmps12
  go_wp2
  go_loop [10] (fun i => ∃ k : Nat, k ≤ n ∧ i = .int .i64 k ∧ pre l k) (fun i => n - (intOf i).toNat)
  case atStart => exact ⟨0, Nat.zero_le _, rfl, fun i hi => by omega⟩
  case round =>
    obtain ⟨k, hk, rfl, hpre⟩ := hrel
    have HP : Hid (pre l k) := hpre
    clear hpre
    by_cases hlt : k < n
    · obtain rfl := hh (by omega)
      have hkz : (k : Int) < (n : Int) := by omega
      have g0 := hc k hlt
      obtain ⟨x, hx⟩ : ∃ x, x = l.getD k 0 := ⟨_, rfl⟩
      rw [← hx] at g0
      have HX : Hid (x = l.getD k 0) := hx
      clear hx
      have no : ¬ (1 ≤ x ∧ x ≤ 255 ∧ (0 < k → l.getD (k - 1) 0 < x)) → portsB l = false := fun hne => portsB_no (k := k) (by have := HN.out; omega) (by rw [← HX.out]; exact hne)
      have NO : Hid (¬ (1 ≤ x ∧ x ≤ 255 ∧ (0 < k → l.getD (k - 1) 0 < x)) → portsB l = false) := no
      clear no
      by_cases h1 : x < 1
      · clear hc hh
        go_wp2
        go_ret
        exact ⟨ret_bool (NO.out (by omega)).symm, rfl⟩
      · by_cases h2 : 255 < x
        · clear hc hh
          go_wp2
          go_ret
          exact ⟨ret_bool (NO.out (by omega)).symm, rfl⟩
        · rcases Nat.eq_zero_or_pos k with h0 | h0
          · subst h0
            have g00 : w.cell? ⟨b, off, none⟩ = some (.int .i64 x) := g0
            have hnz : (0 : Int) < (n : Int) := by omega
            clear hc hh
            go_wp2
            go_round
            case rel => exact ⟨1, by omega, by go_num, pre_step HP.out (by rw [← HX.out]; exact ⟨by omega, by omega, fun h => by omega⟩)⟩
            case measure => simp [intOf]; omega
          · obtain ⟨j, rfl⟩ : ∃ j, k = j + 1 := ⟨k - 1, by omega⟩
            have g1 := hc j (by omega)
            obtain ⟨y, hy⟩ : ∃ y, y = l.getD j 0 := ⟨_, rfl⟩
            rw [← hy] at g1
            have HY : Hid (y = l.getD j 0) := hy
            clear hy hc hh
            have hkp : (0 : Int) < ((j + 1 : Nat) : Int) := by omega
            have hjz : (j : Int) < (n : Int) := by omega
            have e1 : ((j + 1 : Nat) : Int) - 1 = (j : Int) := by omega
            by_cases h3 : x ≤ y
            · go_wp2
              go_ret
              exact ⟨ret_bool (NO.out (by intro ⟨_, _, q⟩; have := q (by omega); rw [Nat.add_sub_cancel, ← HY.out] at this; omega)).symm, rfl⟩
            · go_wp2
              go_round
              case rel => exact ⟨j + 1 + 1, by omega, by go_num, pre_step HP.out (by rw [← HX.out]; exact ⟨by omega, by omega, fun h => by rw [Nat.add_sub_cancel, ← HY.out]; omega⟩)⟩
              case measure => simp [intOf]; omega
    · have he : k = n := by omega
      subst he
      go_wp2
      go_ret
      have := HN.out
      exact ⟨ret_bool (portsB_yes (by omega) (by rw [← this]; exact HP.out)).symm, rfl⟩

end Go.Proofs.Ytkakdldhinimoaa.Ya
