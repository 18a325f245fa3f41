/-
  The program's SameRel.
-/
import Derived.Test.YtljlgjgfmgilaaaGreatRi
namespace Go.Proofs.YtljlgjgfmgilaaaGreat.Rl
set_option maxRecDepth 8000
set_option linter.unusedSimpArgs false
set_option linter.unusedVariables false
open Go Go.RowKit
open Num Word Pl Rp
open Vl (ordRow)

theorem rord_zero {l m : RowL} (h : Vl.rowB l = true) : (Vl.rordB l m == 0) = decide (l = m) := by
  by_cases e : l = m
  · subst e
    rw [rord_right h h, ordRow_self, decide_eq_true rfl]; rfl
  · rw [decide_eq_false e]
    rw [beq_eq_false_iff_ne]
    intro h0
    unfold Vl.rordB at h0
    split at h0
    · rename_i hb
      rw [Bool.and_eq_true] at hb
      exact e (ordRow_eq (okL_of hb.1) (okL_of hb.2) h0)
    · omega

theorem two_right {x y : Int} {Q P : List Rm} (h : twoB x (said Q) y (said P) = true) : RelP x (said Q) ∧ RelP y (said P) ∧ x = y := by
  unfold twoB at h
  rw [Bool.and_eq_true, Bool.and_eq_true, decide_eq_true_eq] at h
  exact ⟨relP_of h.1.1, relP_of h.1.2, h.2⟩
theorem right_at {x : Int} {Q : List Rm} (h : RelP x (said Q)) : ∀ i, i < Q.length → Vl.rowB (Q.getD i rm0).l = true := fun i hi => h.right _ (List.mem_map_of_mem (getD_mem hi))

end Go.Proofs.YtljlgjgfmgilaaaGreat.Rl
