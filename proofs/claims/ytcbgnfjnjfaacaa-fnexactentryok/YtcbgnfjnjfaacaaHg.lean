/-
  Contracts of what fits a field and of the two HeadOk, on every head.
-/
import Derived.Test.YtcbgnfjnjfaacaaHf
import Derived.Deep.LoopGhost
namespace Go.Proofs.Ytcbgnfjnjfaacaa.Hg
open Go Go.RowKit
open Num Pl Hr Hh Hf

/-- The number fits the field. -/
def fits (f n : Int) : Bool := numOkB n (fb f / 8)
theorem fb_val (f : Int) : fb f = 0 ∨ fb f = 8 ∨ fb f = 16 ∨ fb f = 32 ∨ fb f = 48 := by
  unfold fb
  split
  · simp
  · split
    · simp
    · split
      · simp
      · split <;> simp
theorem fits_out {f n : Int} (h : f < 0 ∨ 8 ≤ f) : fits f n = false := by
  unfold fits; rw [fb_out h]; exact numOk_no1 (by decide)

/-- The first k numbers fit. -/
def upto (l : List Int) : Nat → Bool
  | 0 => true
  | k + 1 => upto l k && fits k (l.getD k 0)
theorem upto_no {l : List Int} {k : Nat} (h : fits k (l.getD k 0) = false) : ∀ j, k < j → upto l j = false
  | 0, hj => by omega
  | j + 1, hj => by
    by_cases e : j = k
    · subst e; simp only [upto, h, Bool.and_false]
    · simp only [upto, upto_no h j (by omega), Bool.false_and]
theorem upto_step {l : List Int} {k : Nat} (h : upto l k = true) (hk : fits k (l.getD k 0) = true) : upto l (k + 1) = true := by
  simp only [upto, h, hk, Bool.and_self]
/-- The head is right. -/
def headB (l : List Int) : Bool := decide (l.length = 8) && upto l 8

set_option maxHeartbeats 1000000 in
theorem implFits_any (f n : Int) (w : World) :
    Calls Try.prog 149 #[.int .i64 f, .int .i64 n] w fun e w' => e = .returned (.bool (fits f n)) ∧ w' = w := by
  have hb := implBits_any f w
  unfold fits
  rcases fb_val f with h | h | h | h | h
  all_goals
    rw [h] at hb ⊢
    clear h
    go_enter Try.func149, Try.ntmps149
    go_wp2_with (first | (go_at_call 123; refine hb.mono ?_; clear hb; rintro e w' ⟨rfl, hw'⟩; replace hw' := hw'.symm; subst hw') | (go_at_call 156; refine (implNumOk_any _ _ _).mono ?_; rintro e w' ⟨rfl, hw'⟩; replace hw' := hw'.symm; subst hw'))
    go_ret
    exact ⟨rfl, rfl⟩

set_option maxHeartbeats 1000000 in
theorem specFits_any (f n : Int) (w : World) :
    Calls Try.prog 119 #[.int .i64 f, .int .i64 n] w fun e w' => e = .returned (.bool (fits f n)) ∧ Below w.heap.size w w' := by
  by_cases h0 : f < 0
  · rw [fits_out (.inl h0)]
    have h1 : ¬ 0 ≤ f := by omega
    go_enter Try.func119, Try.ntmps119
    go_wp2
    go_ret
    exact ⟨rfl, Below.refl _ _⟩
  · have h1 : 0 ≤ f := by omega
    by_cases h8 : 8 ≤ f
    · rw [fits_out (.inr h8)]
      have h2 : ¬ f < 8 := by omega
      go_enter Try.func119, Try.ntmps119
      go_wp2
      go_ret
      exact ⟨rfl, Below.refl _ _⟩
    · have h2 : f < 8 := by omega
      have hb := specBits_any f w
      unfold fits
      rcases fb_val f with h | h | h | h | h
      all_goals
        rw [h] at hb ⊢
        clear h
        go_enter Try.func119, Try.ntmps119
        go_wp2_with (first | (go_at_call 66; refine hb.mono ?_; clear hb; rintro e wa ⟨rfl, hba⟩) | (go_at_call 146; refine (specNumOk_any _ _ _).mono ?_; rintro e w' ⟨rfl, hw'⟩; replace hw' := hw'.symm; subst hw'))
        go_ret
        exact ⟨rfl, hba⟩

theorem at_rd {w : World} {a : Option Addr} {b off k : Nat} {l : List Int} (h : Rd w a b off l) (hk : k < l.length) : a = some ⟨b, off, none⟩ ∧ w.cell? ⟨b, off + k, none⟩ = some (.int .i64 (l.getD k 0)) := ⟨h.head (by omega), h.cell k hk⟩

set_option maxHeartbeats 1000000 in
theorem specOk_any (a : Option Addr) (b off cap : Nat) (l : List Int) (w : World) (h : Rd w a b off l) :
    Calls Try.prog 97 #[.agg #[.slice a l.length cap]] w fun e w' => e = .returned (.bool (headB l)) ∧ Below w.heap.size w w' := by
  by_cases h8 : l.length = 8
  · have HB : Hid (headB l = upto l 8) := (by unfold headB; rw [decide_eq_true h8, Bool.true_and] : headB l = upto l 8)
    obtain ⟨rfl, _⟩ := at_rd h (k := 0) (by omega)
    obtain ⟨W0, hW0⟩ : ∃ W0, W0 = w.alloc (.cells #[.slice (some ⟨b, off, none⟩) 8 cap] 27) := ⟨_, rfl⟩
    have B0 : Below w.heap.size w W0 := by subst hW0; exact below_alloc1 _ _
    have k0 : W0.heap[w.heap.size]? = some (.cells #[.slice (some ⟨b, off, none⟩) 8 cap] 27 (0, 0)) := by subst hW0; exact at_new rfl
    have z0 : w.heap.size < W0.heap.size := by subst hW0; simp
    have HC : Hid (∀ k, k < 8 → w.cell? ⟨b, off + k, none⟩ = some (.int .i64 (l.getD k 0))) := (fun k hk => h.cell k (by omega) : ∀ k, k < 8 → w.cell? ⟨b, off + k, none⟩ = some (.int .i64 (l.getD k 0)))
    rw [h8]
    clear h h8
    go_enter Try.func97, Try.ntmps97
    go_wp2
    rw [← hW0]
    clear hW0
    go_loopw [3] (fun i wr => ∃ k : Nat, k ≤ 8 ∧ i = .int .i64 k ∧ Below w.heap.size w wr ∧ wr.heap[w.heap.size]? = some (.cells #[.slice (some ⟨b, off, none⟩) 8 cap] 27 (0, 0)) ∧ w.heap.size < wr.heap.size ∧ upto l k = true) (fun i _ => 8 - (intOf i).toNat)
    case atStart => exact ⟨0, Nat.zero_le _, rfl, B0, k0, z0, rfl⟩
    case round =>
      obtain ⟨k, hk, rfl, hbel, kr, zr, hup⟩ := hrel
      have HU : Hid (upto l k = true) := hup
      clear hup k0 z0 B0
      by_cases hlt : k < 8
      · have hkz : (k : Int) < 8 := by omega
        have g0 : wr.cell? ⟨b, off + k, none⟩ = some (.int .i64 (l.getD k 0)) := (hbel.cell (World.block_lt_of_cell? _ _ (HC.out k hlt))).trans (HC.out k hlt)
        have c0 := one kr
        have hf := specFits_any k (l.getD k 0) wr
        have HN : Hid (fits k (l.getD k 0) = false → upto l 8 = false) := (fun h => upto_no h 8 hlt : fits k (l.getD k 0) = false → upto l 8 = false)
        have HY : Hid (fits k (l.getD k 0) = true → upto l (k + 1) = true) := (fun h => upto_step HU.out h : fits k (l.getD k 0) = true → upto l (k + 1) = true)
        clear HC HU
        generalize l.getD k 0 = x at *
        cases hx : fits k x with
        | true =>
          rw [hx] at hf
          go_wp2_with (go_at_call 119; refine hf.mono ?_; rintro e wa ⟨rfl, hba⟩)
          go_roundw
          case rel => exact ⟨k + 1, by omega, by go_num, Rw.next hbel hba, (hba.block _ zr).trans kr, Nat.lt_of_lt_of_le zr hba.size, HY.out hx⟩
          case measure => simp [intOf]; omega
        | false =>
          rw [hx] at hf
          go_wp2_with (go_at_call 119; refine hf.mono ?_; rintro e wa ⟨rfl, hba⟩)
          go_ret
          exact ⟨Num.ret_bool (by rw [HB.out, HN.out hx]), Rw.next hbel hba⟩
      · have he : k = 8 := by omega
        subst he
        clear HC hlt
        go_wp2
        go_ret
        exact ⟨Num.ret_bool (by rw [HB.out, HU.out]), hbel⟩
  · have hne : ((l.length : Int) != 8) = true := by simp; omega
    have HB : Hid (headB l = false) := (by unfold headB; rw [decide_eq_false h8, Bool.false_and] : headB l = false)
    go_enter Try.func97, Try.ntmps97
    go_wp2
    go_ret
    exact ⟨Num.ret_bool (by rw [HB.out]), below_alloc1 _ _⟩

/-- The closure of HeadOk. -/
theorem okAt_any (g k : Nat) (b off cap : Nat) (x : Int) (w : World) (hg : w.cell? ⟨g, 0, none⟩ = some (.slice (some ⟨b, off, none⟩) 8 cap)) (hc : w.cell? ⟨b, off + k, none⟩ = some (.int .i64 x)) (hk : k < 8) :
    Calls Try.prog 148 #[.int .i64 k, .pointer (some ⟨g, 0, none⟩)] w fun e w' => e = .returned (.bool (fits k x)) ∧ w' = w := by
  have hkz : (k : Int) < 8 := by omega
  go_enter Try.func148, Try.ntmps148
  go_wp2_with (go_at_call 149; refine (implFits_any _ _ _).mono ?_; rintro e w' ⟨rfl, hw'⟩; replace hw' := hw'.symm; subst hw')
  go_ret
  exact ⟨rfl, rfl⟩

set_option maxHeartbeats 1000000 in
theorem every_any (g : Nat) (b off cap : Nat) (l : List Int) (w : World) (hg : w.cell? ⟨g, 0, none⟩ = some (.slice (some ⟨b, off, none⟩) 8 cap)) (hc : ∀ k, k < 8 → w.cell? ⟨b, off + k, none⟩ = some (.int .i64 (l.getD k 0))) :
    Calls Try.prog 147 #[.func (.func 148) #[] #[.pointer (some ⟨g, 0, none⟩)]] w fun e w' => e = .returned (.bool (upto l 8)) ∧ w' = w := by
  have HC : Hid (∀ k, k < 8 → w.cell? ⟨b, off + k, none⟩ = some (.int .i64 (l.getD k 0))) := hc
  have HG : Hid (w.cell? ⟨g, 0, none⟩ = some (.slice (some ⟨b, off, none⟩) 8 cap)) := hg
  clear hc hg
  go_enter Try.func147, Try.ntmps147
  go_wp2
  go_loop [4, 3] (fun i _ => ∃ k : Nat, k ≤ 8 ∧ i = .int .i64 k ∧ upto l k = true) (fun i _ => 8 - (intOf i).toNat)
  case atStart => exact ⟨0, Nat.zero_le _, rfl, rfl⟩
  case round =>
    obtain ⟨k, hk, rfl, hup⟩ := hrel
    have HU : Hid (upto l k = true) := hup
    clear hup
    by_cases hlt : k < 8
    · have hkz : (k : Int) < 8 := by omega
      have hf := okAt_any g k b off cap (l.getD k 0) w HG.out (HC.out k hlt) hlt
      have HN : Hid (fits k (l.getD k 0) = false → upto l 8 = false) := (fun h => upto_no h 8 hlt : fits k (l.getD k 0) = false → upto l 8 = false)
      have HY : Hid (fits k (l.getD k 0) = true → upto l (k + 1) = true) := (fun h => upto_step HU.out h : fits k (l.getD k 0) = true → upto l (k + 1) = true)
      clear HC HU HG
      generalize l.getD k 0 = x at *
      cases hx : fits k x with
      | true =>
        rw [hx] at hf
        go_wp2_with (go_at_call 148; refine hf.mono ?_; rintro e w' ⟨rfl, hw'⟩; replace hw' := hw'.symm; subst hw')
        go_round
        case rel => exact ⟨k + 1, by omega, by go_num, HY.out hx⟩
        case measure => simp [intOf]; omega
      | false =>
        rw [hx] at hf
        go_wp2_with (go_at_call 148; refine hf.mono ?_; rintro e w' ⟨rfl, hw'⟩; replace hw' := hw'.symm; subst hw')
        go_ret
        exact ⟨Num.ret_bool (by rw [HN.out hx]), rfl⟩
    · have he : k = 8 := by omega
      subst he
      clear HC hlt HG
      go_wp2
      go_ret
      exact ⟨Num.ret_bool HU.out.symm, rfl⟩

set_option maxHeartbeats 1000000 in
theorem implOk_any (a : Option Addr) (b off cap : Nat) (l : List Int) (w : World) (h : Rd w a b off l) :
    Calls Try.prog 121 #[.agg #[.slice a l.length cap]] w fun e w' => e = .returned (.bool (headB l)) ∧ Below w.heap.size w w' := by
  by_cases h8 : l.length = 8
  · have HB : Hid (headB l = upto l 8) := (by unfold headB; rw [decide_eq_true h8, Bool.true_and] : headB l = upto l 8)
    obtain ⟨rfl, _⟩ := at_rd h (k := 0) (by omega)
    have B0 := below_alloc1 w (.cells #[.slice (some ⟨b, off, none⟩) 8 cap] 27)
    have h1 := h.below B0
    have c0 : (w.alloc (.cells #[.slice (some ⟨b, off, none⟩) 8 cap] 27)).cell? ⟨w.heap.size, 0, none⟩ = some (.slice (some ⟨b, off, none⟩) 8 cap) := one (at_new rfl)
    have hf := every_any w.heap.size b off cap l _ c0 (fun k hk => h1.cell k (by omega))
    rw [h8]
    clear h h8 h1 c0
    go_enter Try.func121, Try.ntmps121
    go_wp2_with (go_at_call 147; refine hf.mono ?_; rintro e w' ⟨rfl, hw'⟩; replace hw' := hw'.symm; subst hw')
    go_ret
    exact ⟨Num.ret_bool (by rw [HB.out]), B0⟩
  · have hne : ((l.length : Int) == 8) = false := by simp; omega
    have HB : Hid (headB l = false) := (by unfold headB; rw [decide_eq_false h8, Bool.false_and] : headB l = false)
    go_enter Try.func121, Try.ntmps121
    go_wp2
    go_ret
    exact ⟨Num.ret_bool (by rw [HB.out]), below_alloc1 _ _⟩

end Go.Proofs.Ytcbgnfjnjfaacaa.Hg
