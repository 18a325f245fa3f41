/-
  Draws of two values; the program's ValueText.
-/
import Derived.Test.YtfiebakgphcnbaaDw
namespace Go.Proofs.Ytfiebakgphcnbaa.Dr
open Go Go.RowKit
set_option maxRecDepth 8000
set_option linter.unusedSimpArgs false
set_option linter.unusedVariables false
open Num Rw Pl

set_option maxHeartbeats 4000000 in
theorem any_any (g : Nat) (a : Option Addr) (b off cap : Nat) (l : List Int) (w : World) (h : Cur w g a b off cap l) :
    Calls Try.prog 112 #[.pointer (some ⟨g, 0, none⟩)] w fun e w' => ∃ (n : Int) (s : ByteArray), e = .returned (.agg #[.int .i64 n, .string s]) ∧ s.size ≤ 100 ∧ Cur w' g a b off cap l ∧ Only g w w' := by
  obtain ⟨hg, hbl⟩ := cur_in h
  obtain ⟨W1, hW1⟩ : ∃ W1, W1 = w.alloc (.cells #[.int .i64 0, .string ⟨#[]⟩] 35) := ⟨_, rfl⟩
  have hC : Cur W1 g a b off cap l := by subst hW1; exact cur_alloc h _
  have hO : Only g w W1 := by subst hW1; exact only_alloc (Only.refl _ _) _
  have k0 : W1.heap[w.heap.size]? = some (.cells #[.int .i64 0, .string ⟨#[]⟩] 35 (0, 0)) := by subst hW1; exact at_new rfl
  have hne : w.heap.size ≠ g := by omega
  have hnb : l.length = 0 ∨ b ≠ w.heap.size := hbl.imp id (fun h => by omega)
  clear h
  have t1 : True := trivial
  go_enter Try.func112, Try.ntmps112
  go_wp2_with (first
    | (go_at_call 113; rw [← hW1]; clear hW1; refine (value_any _ _ _ _ _ _ _ hC).mono ?_; rintro e w1 ⟨n, s, rfl, hz, hC1, hO1⟩; replace hO := only_trans hO hO1; replace k0 := only_at hO1 k0 hne; replace hC := hC1; clear hC1 hO1)
    | (go_at_call 81; clear t1; exact (0 : Nat)))
  obtain ⟨W2, hW2⟩ : ∃ W2, W2 = w1.alloc (.cells #[.int .i64 n, .string s] 35) := ⟨_, rfl⟩
  have hM : w.heap.size < w1.heap.size := blk_lt k0
  replace hC : Cur W2 g a b off cap l := by subst hW2; exact cur_alloc hC _
  have k1 : W2.heap[w1.heap.size]? = some (.cells #[.int .i64 n, .string s] 35 (0, 0)) := by subst hW2; exact at_new rfl
  replace k0 : W2.heap[w.heap.size]? = some (.cells #[.int .i64 0, .string ⟨#[]⟩] 35 (0, 0)) := by subst hW2; rw [at_old (blk_lt k0)]; exact k0
  have hO0 := hO
  replace hO : Only g w W2 := by subst hW2; exact only_alloc hO _
  have hne2 : w1.heap.size ≠ g := by omega
  have hnb2 : l.length = 0 ∨ b ≠ w1.heap.size := hbl.imp id (fun h => by omega)
  have hle : w.heap.size ≤ w1.heap.size := by omega
  clear hbl hO0
  generalize w1.heap.size = M at *
  go_wp2_with (first
    | (go_at_call 81; clear t1; rw [← hW2]; clear hW2; refine (below_any _ _ _ _ _ _ _ _ hC (by omega) (by omega)).mono ?_; rintro e w2 ⟨x, rfl, x0, x1, hC1, hO1⟩; replace hO := only_trans hO hO1; replace k0 := only_at hO1 k0 hne; replace k1 := only_at hO1 k1 hne2; replace hC := hC1; clear hC1 hO1; obtain ⟨p0, p1⟩ := two k0; have f0 := free k0; obtain ⟨q0, q1⟩ := two k1; have f1 := free k1)
    | (go_at_call 98; clear p0 p1 f0 q0 q1 f1; refine (raw_any _ _ _ _ _ _ _ hC).mono ?_; rintro e w2 ⟨y, rfl, hC1, hO1⟩; replace hO := only_trans hO hO1; replace k0 := only_at hO1 k0 hne; replace k1 := only_at hO1 k1 hne2; replace hC := hC1; clear hC1 hO1; obtain ⟨p0, p1⟩ := two k0; have f0 := free k0; obtain ⟨q0, q1⟩ := two k1; have f1 := free k1)
    | (go_at_call 116; clear p0 p1 f0 q0 q1 f1; refine (text_any _ _ _ _ _ _ _ hC).mono ?_; rintro e w2 ⟨y, rfl, hy, hC1, hO1⟩; replace hO := only_trans hO hO1; replace k0 := only_at hO1 k0 hne; replace k1 := only_at hO1 k1 hne2; replace hC := hC1; clear hC1 hO1; obtain ⟨p0, p1⟩ := two k0; have f0 := free k0; obtain ⟨q0, q1⟩ := two k1; have f1 := free k1))
  · exact bodyPost_ret (v := .agg #[.int .i64 y, .string s]) (by simp [results, Try.results112, go_sem, p0, p1]) rfl ⟨y, s, rfl, hz, cur_set (cur_set (cur_set hC hne2 hnb2) hne hnb) hne hnb, only_set (only_set (only_set hO hle) (Nat.le_refl _)) (Nat.le_refl _)⟩
  · exact bodyPost_ret (v := .agg #[.int .i64 n, .string y]) (by simp [results, Try.results112, go_sem, p0, p1]) rfl ⟨n, y, rfl, hy, cur_set (cur_set (cur_set hC hne2 hnb2) hne hnb) hne hnb, only_set (only_set (only_set hO hle) (Nat.le_refl _)) (Nat.le_refl _)⟩
  · exact bodyPost_ret (v := .agg #[.int .i64 n, .string s]) (by simp [results, Try.results112, go_sem, p0, p1]) rfl ⟨n, s, rfl, hz, cur_set (cur_set hC hne hnb) hne hnb, only_set (only_set hO (Nat.le_refl _)) (Nat.le_refl _)⟩

end Go.Proofs.Ytfiebakgphcnbaa.Dr
