/-
  Contracts of the specification's MatchAll.
-/
import Derived.Test.YtkakdldhinimoaaMp
namespace Go.Proofs.Ytkakdldhinimoaa.Mr
set_option maxRecDepth 8000
open Go Go.RowKit
open Num Pl Hr Hh Hf Hg Pa Pm Po Pq Mi Bw Mo Mp
set_option linter.unusedSimpArgs false
set_option linter.unusedVariables false

theorem half_zero {w : World} {g : Nat} (h : Half w g 0 nul) : Mine w g (lst nul) := by
  refine Half.mine (World.rowIs.congr h (fun i hi => ?_))
  simp [cut, nul]
theorem mine_set2 {w : World} {g b k : Nat} {l : List Int} {u : Value} (h : Mine w g l) (hne : b ≠ g) : Mine (w.setCell ⟨b, k, none⟩ u) g l := h.set (by simpa using hne)

set_option maxHeartbeats 2000000 in
theorem allS_any (w : World) : Calls Try.prog 79 #[] w (ResM w (lst nul) (lst nul)) := by
  have hmk : ∀ w : World, (Instr.makeSlice 22 (.int .i64 8) (.int .i64 8)).run Try.prog w = .ok (.slice (some ⟨w.heap.size, 0, none⟩) 8 8) (w.alloc (.cells (madeCells #[.int .i64 0] 8) 3)) :=
    run_make_row' (P := Try.prog) 22 3 (.int .i64 0) 8 Try.underlying22 info3 rfl .i64 .i64 8 (by omega) (by omega)
  obtain ⟨W0, hW0⟩ : ∃ W0, W0 = w.alloc (.cells #[.slice none 0 0, .slice none 0 0] 63) := ⟨_, rfl⟩
  have B0 : Below w.heap.size w W0 := by subst hW0; exact below_alloc1 _ _
  have kR : W0.heap[w.heap.size]? = some (.cells #[.slice none 0 0, .slice none 0 0] 63 (0, 0)) := by subst hW0; exact at_new rfl
  have zR := (Array.getElem?_eq_some_iff.1 kR).1
  obtain ⟨r0, r1⟩ := two kR
  have fr := Bl.free kR
  clear kR
  go_enter Try.func79, Try.ntmps79
  go_wp2
  rw [← hW0]
  clear hW0
  go_region
  all_goals go_wp2
  · refine bodyPost_ret (v := .agg #[.slice (some ⟨W0.heap.size, 0, none⟩) 8 8, .slice (some ⟨W0.heap.size + 1, 0, none⟩) 8 8]) (by simp [results, Try.results79, go_sem, r0, r1, zR]) rfl ⟨_, W0.heap.size, _, _, W0.heap.size + 1, _, by rw [lst_len], mine_wt (half_zero (Half.drew ((Half.made nul (by simp)).old))), mine_wt (half_zero (Half.drew (Half.made nul (by simp)))), by omega, by omega, by omega, ?_⟩
    exact ((bset (bset B0 (Nat.le_refl _)) (Nat.le_refl _)).alloc (by simp; omega) _ |>.alloc (by simp; omega) _).drew
  · refine bodyPost_ret (v := .agg #[.slice (some ⟨W0.heap.size + 1, 0, none⟩) 8 8, .slice (some ⟨W0.heap.size, 0, none⟩) 8 8]) (by simp [results, Try.results79, go_sem, r0, r1, zR]) rfl ⟨_, W0.heap.size + 1, _, _, W0.heap.size, _, by rw [lst_len], mine_wt (half_zero (Half.drew (Half.made nul (by simp)))), mine_wt (half_zero (Half.drew ((Half.made nul (by simp)).old))), by omega, by omega, by omega, ?_⟩
    exact ((bset (bset B0 (Nat.le_refl _)) (Nat.le_refl _)).alloc (by simp; omega) _ |>.alloc (by simp; omega) _).drew

end Go.Proofs.Ytkakdldhinimoaa.Mr
