/-
  Draws of values; the program's ValueText.
-/
import Derived.Test.YtfiebakgphcnbaaDv
namespace Go.Proofs.Ytfiebakgphcnbaa.Dr
open Go Go.RowKit
set_option maxRecDepth 8000
set_option linter.unusedSimpArgs false
set_option linter.unusedVariables false
open Num Rw Pl

theorem free {w : World} {g : Nat} {cs : Array Value} {t : TypeId} (h : w.heap[g]? = some (.cells cs t (0, 0))) (i : Nat) : w.frozen? ⟨g, i, none⟩ = false := by simp [World.frozen?, h]

set_option maxHeartbeats 2000000 in
theorem value_any (g : Nat) (a : Option Addr) (b off cap : Nat) (l : List Int) (w : World) (h : Cur w g a b off cap l) :
    Calls Try.prog 113 #[.pointer (some ⟨g, 0, none⟩)] w fun e w' => ∃ (n : Int) (s : ByteArray), e = .returned (.agg #[.int .i64 n, .string s]) ∧ s.size ≤ 100 ∧ Cur w' g a b off cap l ∧ Only g w w' := by
  obtain ⟨hg, hbl⟩ := cur_in h
  obtain ⟨W1, hW1⟩ : ∃ W1, W1 = w.alloc (.cells #[.int .i64 0, .string ⟨#[]⟩] 35) := ⟨_, rfl⟩
  have hC : Cur W1 g a b off cap l := by subst hW1; exact cur_alloc h _
  have hO : Only g w W1 := by subst hW1; exact only_alloc (Only.refl _ _) _
  have k0 : W1.heap[w.heap.size]? = some (.cells #[.int .i64 0, .string ⟨#[]⟩] 35 (0, 0)) := by subst hW1; exact at_new rfl
  have hne : w.heap.size ≠ g := by omega
  have hnb : l.length = 0 ∨ b ≠ w.heap.size := hbl.imp id (fun h => by omega)
  clear h hbl
  have t1 : True := trivial
  go_enter Try.func113, Try.ntmps113
  go_wp2_with (first
    | (go_at_call 81; clear t1; rw [← hW1]; clear hW1; refine (below_any _ _ _ _ _ _ _ _ hC (by omega) (by omega)).mono ?_; rintro e w1 ⟨x, rfl, x0, x1, hC1, hO1⟩; replace hO := only_trans hO hO1; replace k0 := only_at hO1 k0 hne; replace hC := hC1; clear hC1 hO1; obtain ⟨p0, p1⟩ := two k0; have f0 := free k0)
    | (go_at_call 81; clear p0 p1 f0; refine (below_any _ _ _ _ _ _ _ _ hC (by omega) (by omega)).mono ?_; rintro e w1 ⟨y, rfl, y0, y1, hC1, hO1⟩; replace hO := only_trans hO hO1; replace k0 := only_at hO1 k0 hne; replace hC := hC1; clear hC1 hO1; obtain ⟨p0, p1⟩ := two k0; have f0 := free k0)
    | (go_at_call 117; clear p0 p1 f0; refine (word_any _ _ _ _ _ _ _ hC).mono ?_; rintro e w1 ⟨s, rfl, hz, hC1, hO1⟩; replace hO := only_trans hO hO1; replace k0 := only_at hO1 k0 hne; replace hC := hC1; clear hC1 hO1; obtain ⟨p0, p1⟩ := two k0; have f0 := free k0)
    | (go_at_call 118; clear p0 p1 f0; refine (num6_any _ _ _ _ _ _ _ hC).mono ?_; rintro e w1 ⟨y, rfl, hC1, hO1⟩; replace hO := only_trans hO hO1; replace k0 := only_at hO1 k0 hne; replace hC := hC1; clear hC1 hO1; obtain ⟨p0, p1⟩ := two k0; have f0 := free k0))
  · refine bodyPost_ret (v := .agg #[.int .i64 y, .string ⟨#[]⟩]) (by simp [results, Try.results113, go_sem, p0, p1]) rfl ⟨y, ⟨#[]⟩, rfl, by decide, cur_set (cur_set hC hne hnb) hne hnb, only_set (only_set hO (Nat.le_refl _)) (Nat.le_refl _)⟩
  · refine bodyPost_ret (v := .agg #[.int .i64 0, .string s]) (by simp [results, Try.results113, go_sem, p0, p1]) rfl ⟨0, s, rfl, hz, cur_set (cur_set hC hne hnb) hne hnb, only_set (only_set hO (Nat.le_refl _)) (Nat.le_refl _)⟩
  · refine bodyPost_ret (v := .agg #[.int .i64 y, .string ⟨#[]⟩]) (by simp [results, Try.results113, go_sem, p0, p1]) rfl ⟨y, ⟨#[]⟩, rfl, by decide, cur_set (cur_set hC hne hnb) hne hnb, only_set (only_set hO (Nat.le_refl _)) (Nat.le_refl _)⟩

end Go.Proofs.Ytfiebakgphcnbaa.Dr
