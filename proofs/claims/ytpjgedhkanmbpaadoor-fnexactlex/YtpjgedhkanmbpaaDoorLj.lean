/-
  The specification's l14Sign: what it answers at every place of a text.
-/
import Derived.Test.YtpjgedhkanmbpaaDoorLi
namespace Go.Proofs.YtpjgedhkanmbpaaDoor.Li
open Go Go.RowKit
set_option maxRecDepth 8000
set_option linter.unusedVariables false
set_option linter.unusedSimpArgs false
open Lv (ch ltr cap lead varB len_eq ch_at ret_bool ret_int)
open Ly Pl Lg Lh

set_option maxHeartbeats 4000000 in
theorem sign_any (s : ByteArray) (i : Nat) (hi : i < s.size) (hs : s.size ≤ 6000) (w : World) :
    Calls Tryd.prog 10 #[.string s, .int .i64 (i : Int)] w fun e w' => e = .returned (.string (sg s i)) ∧ Below w.heap.size w w' := by
  have HC : Hid (((s[i]'hi).toNat : Int) = ch s i) := ch_at s i hi
  have hiz : (i : Int) < (s.size : Int) := by omega
  by_cases h2 : i + 2 ≤ s.size
  · have hz : (i : Int) + 1 < (s.size : Int) := by omega
    have hz2 : (i : Int) + 2 ≤ (s.size : Int) := by omega
    obtain ⟨T, hT⟩ : ∃ T, s.extract i (i + 2) = T := ⟨_, rfl⟩
    have hsl : ∀ W : World, (Instr.slice 9 (.string s) (some (.int .i64 (i : Int))) (some (.int .i64 ((i : Int) + 2))) none).run Tryd.prog W = .ok (.string T) W := fun W => by
      have := run_slice_string (P := Tryd.prog) (w := W) 9 s .i64 .i64 (i : Int) ((i : Int) + 2) Tryd.underlying9 (by omega) (by omega) (by omega)
      rw [show ((i : Int)).toNat = i by omega, show ((i : Int) + 2).toNat = i + 2 by omega, hT] at this
      exact this
    by_cases h0 : (s.extract i (i + 2)).toList = [58, 45]
    · have HR : Hid (sg s i = s.extract i (i + 2)) := sg_two (k := 0) (by decide) h2 (fun j hj => by
        match j, hj with
        | j + 0, h => omega) (bytes_inj (by rw [toList_of h0]; rfl))
      rw [hT] at h0 HR
      go_enter Tryd.func10, Tryd.ntmps10
      go_wp2
      go_ret
      exact ⟨ret_str HR.out.symm, Below.refl _ _⟩
    by_cases h1 : (s.extract i (i + 2)).toList = [33, 61]
    · have HR : Hid (sg s i = s.extract i (i + 2)) := sg_two (k := 1) (by decide) h2 (fun j hj => by
        match j, hj with
        | 0, _ => intro e; apply h0; rw [e, ByteArray.toList_eq]; rfl
        | j + 1, h => omega) (bytes_inj (by rw [toList_of h1]; rfl))
      rw [hT] at h1 HR h0
      go_enter Tryd.func10, Tryd.ntmps10
      go_wp2
      go_ret
      exact ⟨ret_str HR.out.symm, Below.refl _ _⟩
    by_cases h2' : (s.extract i (i + 2)).toList = [60, 61]
    · have HR : Hid (sg s i = s.extract i (i + 2)) := sg_two (k := 2) (by decide) h2 (fun j hj => by
        match j, hj with
        | 0, _ => intro e; apply h0; rw [e, ByteArray.toList_eq]; rfl
        | 1, _ => intro e; apply h1; rw [e, ByteArray.toList_eq]; rfl
        | j + 2, h => omega) (bytes_inj (by rw [toList_of h2']; rfl))
      rw [hT] at h2' HR h0 h1
      go_enter Tryd.func10, Tryd.ntmps10
      go_wp2
      go_ret
      exact ⟨ret_str HR.out.symm, Below.refl _ _⟩
    have HN : Hid (∀ j, j < 3 → pre s i (lit j) = false) := no_two hi (fun _ j hj => by
      match j, hj with
      | 0, _ => intro e; apply h0; rw [e, ByteArray.toList_eq]; rfl
      | 1, _ => intro e; apply h1; rw [e, ByteArray.toList_eq]; rfl
      | 2, _ => intro e; apply h2'; rw [e, ByteArray.toList_eq]; rfl
      | j + 3, h => omega)
    rw [hT] at h0 h1 h2'
    have b0 : (T.toList == [58, 45]) = false := by simpa using h0
    have b1 : (T.toList == [33, 61]) = false := by simpa using h1
    have b2 : (T.toList == [60, 61]) = false := by simpa using h2'
    go_enter Tryd.func10, Tryd.ntmps10
    go_wp2
    go_loop [35] (fun v => ∃ k : Nat, k ≤ 9 ∧ v = .int .i64 (k : Int) ∧ ∀ j, j < k → ch s i ≠ ((bt j).toNat : Int)) (fun v => 9 - (intOf v).toNat)
    case atStart => exact ⟨0, by omega, rfl, fun j hj => by omega⟩
    case round =>
      obtain ⟨k, hk, rfl, hall⟩ := hrel
      have HA : Hid (∀ j, j < k → ch s i ≠ ((bt j).toNat : Int)) := hall
      clear hall
      by_cases hlt : k < 9
      · have hkz : (k : Int) < 9 := by omega
        have hix := bt_ix k hlt
        have hcl := row_cell (w := w) k hlt
        unfold rowO at hcl
        by_cases hq : ((bt k).toNat : Int) = ((s[i]'hi).toNat : Int)
        · have HR : Hid (sg s i = ⟨#[bt k]⟩) := ones hi HN.out hlt HA.out (by rw [← HC.out]; exact hq.symm)
          have hb : (((bt k).toNat : Int) == ((s[i]'hi).toNat : Int)) = true := by rw [hq]; simp
          clear hq
          go_wp2
          go_ret
          exact ⟨ret_str HR.out.symm, below_alloc1 _ _⟩
        · have hb : (((bt k).toNat : Int) == ((s[i]'hi).toNat : Int)) = false := by simpa using hq
          have HR : Hid (ch s i ≠ ((bt k).toNat : Int)) := (by rw [← HC.out]; exact fun e => hq e.symm : ch s i ≠ ((bt k).toNat : Int))
          go_wp2
          go_round
          case rel => exact ⟨k + 1, by omega, by go_num, fun j hj => by
            by_cases e : j = k
            · subst e; exact HR.out
            · exact HA.out j (by omega)⟩
          case measure => simp [intOf]; omega
      · have hkz : ¬ (k : Int) < 9 := by omega
        have HR : Hid (sg s i = ⟨#[]⟩) := ones_none hi HN.out (fun j hj => HA.out j (by omega))
        go_wp2
        go_ret
        exact ⟨ret_str HR.out.symm, below_alloc1 _ _⟩
  · have hz : ¬ (i : Int) + 1 < (s.size : Int) := by omega
    have HN : Hid (∀ j, j < 3 → pre s i (lit j) = false) := no_two hi (fun h => absurd h h2)
    go_enter Tryd.func10, Tryd.ntmps10
    go_wp2
    go_loop [35] (fun v => ∃ k : Nat, k ≤ 9 ∧ v = .int .i64 (k : Int) ∧ ∀ j, j < k → ch s i ≠ ((bt j).toNat : Int)) (fun v => 9 - (intOf v).toNat)
    case atStart => exact ⟨0, by omega, rfl, fun j hj => by omega⟩
    case round =>
      obtain ⟨k, hk, rfl, hall⟩ := hrel
      have HA : Hid (∀ j, j < k → ch s i ≠ ((bt j).toNat : Int)) := hall
      clear hall
      by_cases hlt : k < 9
      · have hkz : (k : Int) < 9 := by omega
        have hix := bt_ix k hlt
        have hcl := row_cell (w := w) k hlt
        unfold rowO at hcl
        by_cases hq : ((bt k).toNat : Int) = ((s[i]'hi).toNat : Int)
        · have HR : Hid (sg s i = ⟨#[bt k]⟩) := ones hi HN.out hlt HA.out (by rw [← HC.out]; exact hq.symm)
          have hb : (((bt k).toNat : Int) == ((s[i]'hi).toNat : Int)) = true := by rw [hq]; simp
          clear hq
          go_wp2
          go_ret
          exact ⟨ret_str HR.out.symm, below_alloc1 _ _⟩
        · have hb : (((bt k).toNat : Int) == ((s[i]'hi).toNat : Int)) = false := by simpa using hq
          have HR : Hid (ch s i ≠ ((bt k).toNat : Int)) := (by rw [← HC.out]; exact fun e => hq e.symm : ch s i ≠ ((bt k).toNat : Int))
          go_wp2
          go_round
          case rel => exact ⟨k + 1, by omega, by go_num, fun j hj => by
            by_cases e : j = k
            · subst e; exact HR.out
            · exact HA.out j (by omega)⟩
          case measure => simp [intOf]; omega
      · have hkz : ¬ (k : Int) < 9 := by omega
        have HR : Hid (sg s i = ⟨#[]⟩) := ones_none hi HN.out (fun j hj => HA.out j (by omega))
        go_wp2
        go_ret
        exact ⟨ret_str HR.out.symm, below_alloc1 _ _⟩

end Go.Proofs.YtpjgedhkanmbpaaDoor.Li
