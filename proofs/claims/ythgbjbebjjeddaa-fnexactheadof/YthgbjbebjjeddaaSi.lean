/-
  The specification's IpRead where it reads nothing for its length, its first bytes or its length's number.
-/
import Derived.Test.YthgbjbebjjeddaaIy
namespace Go.Proofs.Ythgbjbebjjeddaa.Si
open Go Go.RowKit
open Num Rw Mk Un Put Pl App Pf Pb Ipl Hp Hd Su Cd Ir
set_option maxRecDepth 4000
set_option linter.unusedVariables false

set_option maxHeartbeats 1000000 in
theorem s1a (a : Option Addr) (b off cap : Nat) (l : List Int) (w : World) (h : Rd w a b off l) (hc : l.length < 20) :
    Calls Try.prog 68 #[.slice a l.length cap] w (ResC w 0 0 0 0 1 []) := by
  have hs := h.size
  have B : Below w.heap.size w ((w.alloc (.cells #[.int .i64 0, .int .i64 0, .int .i64 0, .int .i64 0, .slice none 0 0] 26)).alloc (.cells #[.int .i64 0, .int .i64 0, .int .i64 0, .int .i64 0, .slice none 0 0] 26)) := next (below_alloc1 _ _) (below_alloc1 _ _)
  replace h := h.below B
  have hq : (l.length : Int) < 20 := by omega
  have tok0 : True := trivial
  go_enter Try.func68, Try.ntmps68
  go_wp2
  refine bodyPost_ret (v := .tuple #[.agg #[.int .i64 0, .int .i64 0, .int .i64 0, .int .i64 0, .slice none 0 0], .int .i64 1]) (by simp [results, Try.results68, go_sem]) rfl ⟨none, w.heap.size, 0, rfl, Wt.nil _ _ _, Nat.le_refl _, fun _ => rfl, ?_⟩
  repeat (first | (with_reducible exact B) | (with_reducible refine bset ?_ _ _ ?_; rotate_left; (simp <;> omega)))

set_option maxHeartbeats 1000000 in
theorem s1b (a : Option Addr) (b off cap : Nat) (l : List Int) (w : World) (h : Rd w a b off l) (hc : 1500 < l.length) :
    Calls Try.prog 68 #[.slice a l.length cap] w (ResC w 0 0 0 0 1 []) := by
  have hs := h.size
  have B : Below w.heap.size w ((w.alloc (.cells #[.int .i64 0, .int .i64 0, .int .i64 0, .int .i64 0, .slice none 0 0] 26)).alloc (.cells #[.int .i64 0, .int .i64 0, .int .i64 0, .int .i64 0, .slice none 0 0] 26)) := next (below_alloc1 _ _) (below_alloc1 _ _)
  replace h := h.below B
  have hq : ¬ (l.length : Int) < 20 := by omega
  have hq2 : (1500 : Int) < (l.length : Int) := by omega
  have tok0 : True := trivial
  go_enter Try.func68, Try.ntmps68
  go_wp2
  refine bodyPost_ret (v := .tuple #[.agg #[.int .i64 0, .int .i64 0, .int .i64 0, .int .i64 0, .slice none 0 0], .int .i64 1]) (by simp [results, Try.results68, go_sem]) rfl ⟨none, w.heap.size, 0, rfl, Wt.nil _ _ _, Nat.le_refl _, fun _ => rfl, ?_⟩
  repeat (first | (with_reducible exact B) | (with_reducible refine bset ?_ _ _ ?_; rotate_left; (simp <;> omega)))

set_option maxHeartbeats 1000000 in
theorem s2 (b off cap : Nat) (l : List Int) (w : World) (h : Rd w (some ⟨b, off, none⟩) b off l) (h20 : 20 ≤ l.length) (h15 : l.length ≤ 1500) (h0 : ¬ l.getD 0 0 = 69) :
    Calls Try.prog 68 #[.slice (some ⟨b, off, none⟩) l.length cap] w (ResC w 0 0 0 0 2 []) := by
  have hs := h.size
  have B : Below w.heap.size w ((w.alloc (.cells #[.int .i64 0, .int .i64 0, .int .i64 0, .int .i64 0, .slice none 0 0] 26)).alloc (.cells #[.int .i64 0, .int .i64 0, .int .i64 0, .int .i64 0, .slice none 0 0] 26)) := next (below_alloc1 _ _) (below_alloc1 _ _)
  replace h := h.below B
  have hq : ¬ (l.length : Int) < 20 := by omega
  have hq2 : ¬ (1500 : Int) < (l.length : Int) := by omega
  have hz0 : (0 : Int) < (l.length : Int) := by omega
  have hz1 : (1 : Int) < (l.length : Int) := by omega
  have g0 : ((w.alloc (.cells #[.int .i64 0, .int .i64 0, .int .i64 0, .int .i64 0, .slice none 0 0] 26)).alloc (.cells #[.int .i64 0, .int .i64 0, .int .i64 0, .int .i64 0, .slice none 0 0] 26)).cell? ⟨b, off, none⟩ = some (.int .u8 (l.getD 0 0)) := by simpa using h.cell 0 (by omega)
  have g1 : ((w.alloc (.cells #[.int .i64 0, .int .i64 0, .int .i64 0, .int .i64 0, .slice none 0 0] 26)).alloc (.cells #[.int .i64 0, .int .i64 0, .int .i64 0, .int .i64 0, .slice none 0 0] 26)).cell? ⟨b, off + 1, none⟩ = some (.int .u8 (l.getD 1 0)) := h.cell 1 (by omega)
  generalize l.getD 0 0 = x0 at *
  have hne : (x0 != 69) = true := by simpa using h0
  have tok0 : True := trivial
  go_enter Try.func68, Try.ntmps68
  go_wp2
  refine bodyPost_ret (v := .tuple #[.agg #[.int .i64 0, .int .i64 0, .int .i64 0, .int .i64 0, .slice none 0 0], .int .i64 2]) (by simp [results, Try.results68, go_sem]) rfl ⟨none, w.heap.size, 0, rfl, Wt.nil _ _ _, Nat.le_refl _, fun _ => rfl, ?_⟩
  repeat (first | (with_reducible exact B) | (with_reducible refine bset ?_ _ _ ?_; rotate_left; (simp <;> omega)))

set_option maxHeartbeats 1000000 in
theorem s3a (b off cap : Nat) (l : List Int) (w : World) (h : Rd w (some ⟨b, off, none⟩) b off l) (h20 : 20 ≤ l.length) (h15 : l.length ≤ 1500) (h0 : l.getD 0 0 = 69) (h1 : ¬ l.getD 1 0 = 0) :
    Calls Try.prog 68 #[.slice (some ⟨b, off, none⟩) l.length cap] w (ResC w 0 0 0 0 3 []) := by
  have hs := h.size
  have B : Below w.heap.size w ((w.alloc (.cells #[.int .i64 0, .int .i64 0, .int .i64 0, .int .i64 0, .slice none 0 0] 26)).alloc (.cells #[.int .i64 0, .int .i64 0, .int .i64 0, .int .i64 0, .slice none 0 0] 26)) := next (below_alloc1 _ _) (below_alloc1 _ _)
  replace h := h.below B
  have hq : ¬ (l.length : Int) < 20 := by omega
  have hq2 : ¬ (1500 : Int) < (l.length : Int) := by omega
  have hz0 : (0 : Int) < (l.length : Int) := by omega
  have hz1 : (1 : Int) < (l.length : Int) := by omega
  have g0 : ((w.alloc (.cells #[.int .i64 0, .int .i64 0, .int .i64 0, .int .i64 0, .slice none 0 0] 26)).alloc (.cells #[.int .i64 0, .int .i64 0, .int .i64 0, .int .i64 0, .slice none 0 0] 26)).cell? ⟨b, off, none⟩ = some (.int .u8 (l.getD 0 0)) := by simpa using h.cell 0 (by omega)
  have g1 : ((w.alloc (.cells #[.int .i64 0, .int .i64 0, .int .i64 0, .int .i64 0, .slice none 0 0] 26)).alloc (.cells #[.int .i64 0, .int .i64 0, .int .i64 0, .int .i64 0, .slice none 0 0] 26)).cell? ⟨b, off + 1, none⟩ = some (.int .u8 (l.getD 1 0)) := h.cell 1 (by omega)
  rw [h0] at g0
  clear h0
  obtain ⟨V, hV⟩ : ∃ V, V = Get.acc l 4 4 := ⟨_, rfl⟩
  have HV : Hid (V = Get.acc l 4 4) := hV
  generalize l.getD 1 0 = x1 at *
  have hne : (x1 != 0) = true := by simpa using h1
  clear hV
  have tok0 : True := trivial
  go_enter Try.func68, Try.ntmps68
  go_wp2_with (first | (go_at_call 91; clear tok0; refine (numS _ b off cap 4 4 l _ h (by decide) (by decide) (by omega) V HV.out).mono ?_; rintro e w' ⟨rfl, hw'⟩; replace hw' := hw'.symm; subst hw'; have tok1 : True := trivial))
  refine bodyPost_ret (v := .tuple #[.agg #[.int .i64 0, .int .i64 0, .int .i64 0, .int .i64 0, .slice none 0 0], .int .i64 3]) (by simp [results, Try.results68, go_sem]) rfl ⟨none, w.heap.size, 0, rfl, Wt.nil _ _ _, Nat.le_refl _, fun _ => rfl, ?_⟩
  repeat (first | (with_reducible exact B) | (with_reducible refine bset ?_ _ _ ?_; rotate_left; (simp <;> omega)))

set_option maxHeartbeats 1000000 in
theorem s3b (b off cap : Nat) (l : List Int) (w : World) (h : Rd w (some ⟨b, off, none⟩) b off l) (h20 : 20 ≤ l.length) (h15 : l.length ≤ 1500) (h0 : l.getD 0 0 = 69) (h1 : l.getD 1 0 = 0) (h4 : ¬ Get.acc l 4 4 = 0) :
    Calls Try.prog 68 #[.slice (some ⟨b, off, none⟩) l.length cap] w (ResC w 0 0 0 0 3 []) := by
  have hs := h.size
  have B : Below w.heap.size w ((w.alloc (.cells #[.int .i64 0, .int .i64 0, .int .i64 0, .int .i64 0, .slice none 0 0] 26)).alloc (.cells #[.int .i64 0, .int .i64 0, .int .i64 0, .int .i64 0, .slice none 0 0] 26)) := next (below_alloc1 _ _) (below_alloc1 _ _)
  replace h := h.below B
  have hq : ¬ (l.length : Int) < 20 := by omega
  have hq2 : ¬ (1500 : Int) < (l.length : Int) := by omega
  have hz0 : (0 : Int) < (l.length : Int) := by omega
  have hz1 : (1 : Int) < (l.length : Int) := by omega
  have g0 : ((w.alloc (.cells #[.int .i64 0, .int .i64 0, .int .i64 0, .int .i64 0, .slice none 0 0] 26)).alloc (.cells #[.int .i64 0, .int .i64 0, .int .i64 0, .int .i64 0, .slice none 0 0] 26)).cell? ⟨b, off, none⟩ = some (.int .u8 (l.getD 0 0)) := by simpa using h.cell 0 (by omega)
  have g1 : ((w.alloc (.cells #[.int .i64 0, .int .i64 0, .int .i64 0, .int .i64 0, .slice none 0 0] 26)).alloc (.cells #[.int .i64 0, .int .i64 0, .int .i64 0, .int .i64 0, .slice none 0 0] 26)).cell? ⟨b, off + 1, none⟩ = some (.int .u8 (l.getD 1 0)) := h.cell 1 (by omega)
  rw [h0] at g0
  clear h0
  rw [h1] at g1
  clear h1
  obtain ⟨V, hV⟩ : ∃ V, V = Get.acc l 4 4 := ⟨_, rfl⟩
  have HV : Hid (V = Get.acc l 4 4) := hV
  rw [← hV] at h4
  have hne : (V != 0) = true := by simpa using h4
  clear hV h4
  have tok0 : True := trivial
  go_enter Try.func68, Try.ntmps68
  go_wp2_with (first | (go_at_call 91; clear tok0; refine (numS _ b off cap 4 4 l _ h (by decide) (by decide) (by omega) V HV.out).mono ?_; rintro e w' ⟨rfl, hw'⟩; replace hw' := hw'.symm; subst hw'; have tok1 : True := trivial))
  refine bodyPost_ret (v := .tuple #[.agg #[.int .i64 0, .int .i64 0, .int .i64 0, .int .i64 0, .slice none 0 0], .int .i64 3]) (by simp [results, Try.results68, go_sem]) rfl ⟨none, w.heap.size, 0, rfl, Wt.nil _ _ _, Nat.le_refl _, fun _ => rfl, ?_⟩
  repeat (first | (with_reducible exact B) | (with_reducible refine bset ?_ _ _ ?_; rotate_left; (simp <;> omega)))

set_option maxHeartbeats 1000000 in
theorem s4 (b off cap : Nat) (l : List Int) (w : World) (h : Rd w (some ⟨b, off, none⟩) b off l) (h20 : 20 ≤ l.length) (h15 : l.length ≤ 1500) (h0 : l.getD 0 0 = 69) (h1 : l.getD 1 0 = 0) (h4 : Get.acc l 4 4 = 0) (h2 : ¬ Get.acc l 2 2 = l.length) :
    Calls Try.prog 68 #[.slice (some ⟨b, off, none⟩) l.length cap] w (ResC w 0 0 0 0 4 []) := by
  have hs := h.size
  have B : Below w.heap.size w ((w.alloc (.cells #[.int .i64 0, .int .i64 0, .int .i64 0, .int .i64 0, .slice none 0 0] 26)).alloc (.cells #[.int .i64 0, .int .i64 0, .int .i64 0, .int .i64 0, .slice none 0 0] 26)) := next (below_alloc1 _ _) (below_alloc1 _ _)
  replace h := h.below B
  have hq : ¬ (l.length : Int) < 20 := by omega
  have hq2 : ¬ (1500 : Int) < (l.length : Int) := by omega
  have hz0 : (0 : Int) < (l.length : Int) := by omega
  have hz1 : (1 : Int) < (l.length : Int) := by omega
  have g0 : ((w.alloc (.cells #[.int .i64 0, .int .i64 0, .int .i64 0, .int .i64 0, .slice none 0 0] 26)).alloc (.cells #[.int .i64 0, .int .i64 0, .int .i64 0, .int .i64 0, .slice none 0 0] 26)).cell? ⟨b, off, none⟩ = some (.int .u8 (l.getD 0 0)) := by simpa using h.cell 0 (by omega)
  have g1 : ((w.alloc (.cells #[.int .i64 0, .int .i64 0, .int .i64 0, .int .i64 0, .slice none 0 0] 26)).alloc (.cells #[.int .i64 0, .int .i64 0, .int .i64 0, .int .i64 0, .slice none 0 0] 26)).cell? ⟨b, off + 1, none⟩ = some (.int .u8 (l.getD 1 0)) := h.cell 1 (by omega)
  rw [h0] at g0
  clear h0
  rw [h1] at g1
  clear h1
  obtain ⟨V, hV⟩ : ∃ V, V = Get.acc l 2 2 := ⟨_, rfl⟩
  have HV : Hid (V = Get.acc l 2 2) := hV
  have HZ : Hid (0 = Get.acc l 4 4) := h4.symm
  rw [← hV] at h2
  have hne : (V != (l.length : Int)) = true := by simpa using h2
  clear hV h2 h4
  have tok0 : True := trivial
  go_enter Try.func68, Try.ntmps68
  go_wp2_with (first | (go_at_call 91; clear tok1; refine (numS _ b off cap 2 2 l _ h (by decide) (by decide) (by omega) V HV.out).mono ?_; rintro e w' ⟨rfl, hw'⟩; replace hw' := hw'.symm; subst hw'; have tok2 : True := trivial) | (go_at_call 91; clear tok0; refine (numS _ b off cap 4 4 l _ h (by decide) (by decide) (by omega) 0 HZ.out).mono ?_; rintro e w' ⟨rfl, hw'⟩; replace hw' := hw'.symm; subst hw'; have tok1 : True := trivial))
  refine bodyPost_ret (v := .tuple #[.agg #[.int .i64 0, .int .i64 0, .int .i64 0, .int .i64 0, .slice none 0 0], .int .i64 4]) (by simp [results, Try.results68, go_sem]) rfl ⟨none, w.heap.size, 0, rfl, Wt.nil _ _ _, Nat.le_refl _, fun _ => rfl, ?_⟩
  repeat (first | (with_reducible exact B) | (with_reducible refine bset ?_ _ _ ?_; rotate_left; (simp <;> omega)))

end Go.Proofs.Ythgbjbebjjeddaa.Si
