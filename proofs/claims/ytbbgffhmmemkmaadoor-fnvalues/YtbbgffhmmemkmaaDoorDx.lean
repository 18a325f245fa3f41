/-
  Draws of two values; the program's ValueText.
-/
import Derived.Test.YtbbgffhmmemkmaaDoorDw
namespace Go.Proofs.YtbbgffhmmemkmaaDoor.Dr
open Go Go.RowKit
set_option maxRecDepth 8000
set_option linter.unusedSimpArgs false
set_option linter.unusedVariables false
open Num Rw Pl

set_option maxHeartbeats 4000000 in
theorem any_any (g : Nat) (a : Option Addr) (b off cap : Nat) (l : List Int) (w : World) (h : Cur w g a b off cap l) :
    Calls Tryd.prog 14 #[.pointer (some ⟨g, 0, none⟩)] w fun e w' => ∃ (n : Int) (s : ByteArray), e = .returned (.agg #[.int .i64 n, .string s]) ∧ s.size ≤ 100 ∧ Cur w' g a b off cap l ∧ Only g w w' := by
  obtain ⟨hg, hbl⟩ := cur_in h
  obtain ⟨W1, hW1⟩ : ∃ W1, W1 = w.alloc (.cells #[.int .i64 0, .string ⟨#[]⟩] 24) := ⟨_, rfl⟩
  have hC : Cur W1 g a b off cap l := by subst hW1; exact cur_alloc h _
  have hO : Only g w W1 := by subst hW1; exact only_alloc (Only.refl _ _) _
  have k0 : W1.heap[w.heap.size]? = some (.cells #[.int .i64 0, .string ⟨#[]⟩] 24 (0, 0)) := by subst hW1; exact at_new rfl
  have hne : w.heap.size ≠ g := by omega
  have hnb : l.length = 0 ∨ b ≠ w.heap.size := hbl.imp id (fun h => by omega)
  clear h
  have t1 : True := trivial
  go_enter Tryd.func14, Tryd.ntmps14
  go_wp2_with (first
    | (go_at_call 22; rw [← hW1]; clear hW1; refine (value_any _ _ _ _ _ _ _ hC).mono ?_; rintro e w1 ⟨n, s, rfl, hz, hC1, hO1⟩; replace hO := only_trans hO hO1; replace k0 := only_at hO1 k0 hne; replace hC := hC1; clear hC1 hO1)
    | (go_at_call 23; clear t1; exact (0 : Nat)))
  obtain ⟨W2, hW2⟩ : ∃ W2, W2 = w1.alloc (.cells #[.int .i64 n, .string s] 24) := ⟨_, rfl⟩
  have hM : w.heap.size < w1.heap.size := blk_lt k0
  replace hC : Cur W2 g a b off cap l := by subst hW2; exact cur_alloc hC _
  have k1 : W2.heap[w1.heap.size]? = some (.cells #[.int .i64 n, .string s] 24 (0, 0)) := by subst hW2; exact at_new rfl
  replace k0 : W2.heap[w.heap.size]? = some (.cells #[.int .i64 0, .string ⟨#[]⟩] 24 (0, 0)) := by subst hW2; rw [at_old (blk_lt k0)]; exact k0
  have hO0 := hO
  replace hO : Only g w W2 := by subst hW2; exact only_alloc hO _
  have hne2 : w1.heap.size ≠ g := by omega
  have hnb2 : l.length = 0 ∨ b ≠ w1.heap.size := hbl.imp id (fun h => by omega)
  have hle : w.heap.size ≤ w1.heap.size := by omega
  clear hbl hO0
  generalize w1.heap.size = M at *
  go_wp2_with (first
    | (go_at_call 23; clear t1; rw [← hW2]; clear hW2; refine (below_any _ _ _ _ _ _ _ _ hC (by omega) (by omega)).mono ?_; rintro e w2 ⟨x, rfl, x0, x1, hC1, hO1⟩; replace hO := only_trans hO hO1; replace k0 := only_at hO1 k0 hne; replace k1 := only_at hO1 k1 hne2; replace hC := hC1; clear hC1 hO1; obtain ⟨p0, p1⟩ := two k0; have f0 := free k0; obtain ⟨q0, q1⟩ := two k1; have f1 := free k1)
    | (go_at_call 24; clear p0 p1 f0 q0 q1 f1; refine (raw_any _ _ _ _ _ _ _ hC).mono ?_; rintro e w2 ⟨y, rfl, hC1, hO1⟩; replace hO := only_trans hO hO1; replace k0 := only_at hO1 k0 hne; replace k1 := only_at hO1 k1 hne2; replace hC := hC1; clear hC1 hO1; obtain ⟨p0, p1⟩ := two k0; have f0 := free k0; obtain ⟨q0, q1⟩ := two k1; have f1 := free k1)
    | (go_at_call 25; clear p0 p1 f0 q0 q1 f1; refine (text_any _ _ _ _ _ _ _ hC).mono ?_; rintro e w2 ⟨y, rfl, hy, hC1, hO1⟩; replace hO := only_trans hO hO1; replace k0 := only_at hO1 k0 hne; replace k1 := only_at hO1 k1 hne2; replace hC := hC1; clear hC1 hO1; obtain ⟨p0, p1⟩ := two k0; have f0 := free k0; obtain ⟨q0, q1⟩ := two k1; have f1 := free k1))
  · exact bodyPost_ret (v := .agg #[.int .i64 y, .string s]) (by simp [results, Tryd.results14, go_sem, p0, p1]) rfl ⟨y, s, rfl, hz, cur_set (cur_set (cur_set hC hne2 hnb2) hne hnb) hne hnb, only_set (only_set (only_set hO hle) (Nat.le_refl _)) (Nat.le_refl _)⟩
  · exact bodyPost_ret (v := .agg #[.int .i64 n, .string y]) (by simp [results, Tryd.results14, go_sem, p0, p1]) rfl ⟨n, y, rfl, hy, cur_set (cur_set (cur_set hC hne2 hnb2) hne hnb) hne hnb, only_set (only_set (only_set hO hle) (Nat.le_refl _)) (Nat.le_refl _)⟩
  · exact bodyPost_ret (v := .agg #[.int .i64 n, .string s]) (by simp [results, Tryd.results14, go_sem, p0, p1]) rfl ⟨n, s, rfl, hz, cur_set (cur_set hC hne hnb) hne hnb, only_set (only_set hO (Nat.le_refl _)) (Nat.le_refl _)⟩

set_option maxHeartbeats 4000000 in
theorem draw_any (a : Option Addr) (b off cap : Nat) (l : List Int) (w : World) (h : Rd w a b off l) :
    Calls Tryd.prog 5 #[.slice a l.length cap] w fun e w' => ∃ (n m : Int) (s t : ByteArray), e = .returned (.tuple #[.agg #[.int .i64 n, .string s], .agg #[.int .i64 m, .string t]]) ∧ s.size ≤ 100 ∧ t.size ≤ 100 ∧ Below w.heap.size w w' := by
  obtain ⟨W1, hW1⟩ : ∃ W1, W1 = (w.alloc (.cells #[.int .i64 0, .string ⟨#[]⟩] 24)).alloc (.cells #[.int .i64 0, .string ⟨#[]⟩] 24) := ⟨_, rfl⟩
  have B1 : Below w.heap.size w W1 := by subst hW1; exact below_alloc2 _ _ _
  have k0 : W1.heap[w.heap.size]? = some (.cells #[.int .i64 0, .string ⟨#[]⟩] 24 (0, 0)) := by subst hW1; rw [at_old (by simp), at_new rfl]
  have k1 : W1.heap[w.heap.size + 1]? = some (.cells #[.int .i64 0, .string ⟨#[]⟩] 24 (0, 0)) := by subst hW1; rw [at_new (by simp)]
  replace h := h.below B1
  have t1 : True := trivial
  go_enter Tryd.func5, Tryd.ntmps5
  go_wp2_with (first
    | (go_at_call 13; rw [← hW1]; clear hW1; refine (new_any _ _ _ _ _ _ h).mono ?_; rintro e w1 ⟨rfl, hC, hb⟩; have hgW := blk_lt k1; replace k0 := (hb.block _ (blk_lt k0)).trans k0; replace k1 := (hb.block _ (blk_lt k1)).trans k1; replace B1 := Rw.next B1 hb; have hlg : w.heap.size + 1 < W1.heap.size := hgW; clear hb hgW; generalize W1.heap.size = g at *)
    | (go_at_call 14; clear t1; refine (any_any _ _ _ _ _ _ _ hC).mono ?_; rintro e w2 ⟨n, s, rfl, hz, hC1, hO1⟩; replace k0 := only_at hO1 k0 (by omega); replace k1 := only_at hO1 k1 (by omega); have B2 := hO1.below B1 B1.size (by omega); have hl2 := blk_lt k1; replace hC := hC1; clear hC1 hO1 B1))
  obtain ⟨W2, hW2⟩ : ∃ W2, W2 = w2.alloc (.cells #[.int .i64 n, .string s] 24) := ⟨_, rfl⟩
  have hgl := (cur_in hC).1
  replace hC : Cur W2 g a b off cap l := by subst hW2; exact cur_alloc hC _
  have k2 : W2.heap[w2.heap.size]? = some (.cells #[.int .i64 n, .string s] 24 (0, 0)) := by subst hW2; exact at_new rfl
  replace k0 : W2.heap[w.heap.size]? = some (.cells #[.int .i64 0, .string ⟨#[]⟩] 24 (0, 0)) := by subst hW2; rw [at_old (blk_lt k0)]; exact k0
  replace k1 : W2.heap[w.heap.size + 1]? = some (.cells #[.int .i64 0, .string ⟨#[]⟩] 24 (0, 0)) := by subst hW2; rw [at_old (blk_lt k1)]; exact k1
  replace B2 : Below w.heap.size w W2 := by subst hW2; exact Rw.next B2 (below_alloc1 _ _)
  have hne2 : w2.heap.size ≠ g := by omega
  have t2 : True := trivial
  go_wp2_with (go_at_call 14; clear t2; rw [← hW2]; clear hW2; refine (any_any _ _ _ _ _ _ _ hC).mono ?_; rintro e w3 ⟨m, t, rfl, hy, hC1, hO1⟩; replace k0 := only_at hO1 k0 (by omega); replace k1 := only_at hO1 k1 (by omega); replace k2 := only_at hO1 k2 hne2; replace B2 := hO1.below B2 B2.size (by omega); clear hC1 hO1 hC)
  obtain ⟨W3, hW3⟩ : ∃ W3, W3 = w3.alloc (.cells #[.int .i64 m, .string t] 24) := ⟨_, rfl⟩
  have k3 : W3.heap[w3.heap.size]? = some (.cells #[.int .i64 m, .string t] 24 (0, 0)) := by subst hW3; exact at_new rfl
  have s0 := blk_lt k0
  have s1 := blk_lt k1
  have s2 := blk_lt k2
  replace k0 : W3.heap[w.heap.size]? = some (.cells #[.int .i64 0, .string ⟨#[]⟩] 24 (0, 0)) := by subst hW3; rw [at_old (blk_lt k0)]; exact k0
  replace k1 : W3.heap[w.heap.size + 1]? = some (.cells #[.int .i64 0, .string ⟨#[]⟩] 24 (0, 0)) := by subst hW3; rw [at_old (blk_lt k1)]; exact k1
  replace k2 : W3.heap[w2.heap.size]? = some (.cells #[.int .i64 n, .string s] 24 (0, 0)) := by subst hW3; rw [at_old (blk_lt k2)]; exact k2
  replace B2 : Below w.heap.size w W3 := by subst hW3; exact Rw.next B2 (below_alloc1 _ _)
  obtain ⟨p0, p1⟩ := two k0
  obtain ⟨p2, p3⟩ := two k1
  obtain ⟨q0, q1⟩ := two k2
  obtain ⟨q2, q3⟩ := two k3
  have f0 := free k0
  have f1 := free k1
  rw [← hW3]
  clear hW3
  have n1 : w2.heap.size ≠ w.heap.size := by omega
  have n2 : w2.heap.size ≠ w.heap.size + 1 := by omega
  have n3 : w3.heap.size ≠ w.heap.size := by omega
  have n4 : w3.heap.size ≠ w.heap.size + 1 := by omega
  generalize w3.heap.size = g3 at *
  generalize w2.heap.size = g2 at *
  go_region
  all_goals go_wp2
  all_goals refine bodyPost_ret (v := .tuple #[.agg #[.int .i64 n, .string s], .agg #[.int .i64 m, .string t]]) (by simp [results, Tryd.results5, go_sem, p0, p1, p2, p3]) rfl ⟨n, m, s, t, rfl, hz, hy, ?_⟩
  all_goals
    repeat (first | with_reducible exact B2 | apply Below.drew | refine Below.setCell ?_ (by simp <;> omega) _)

end Go.Proofs.YtbbgffhmmemkmaaDoor.Dr
