/-
  Both RelOk.
-/
import Derived.Test.YtljlgjgfmgilaaaGreatRb
namespace Go.Proofs.YtljlgjgfmgilaaaGreat.Rl
set_option maxRecDepth 8000
set_option linter.unusedSimpArgs false
set_option linter.unusedVariables false
open Go Go.RowKit
open Num Word Pl Rp
open Vl (ordRow)

theorem relB_eq (ar : Int) (R : List RowL) : relB ar R = (decide (0 ≤ ar ∧ ar ≤ 6) && decide (R.length ≤ 300) && R.all (fitB ar) && risesB R) := rfl
theorem all_right {ar : Int} {Q : List Rm} (h : (said Q).all (fitB ar) = true) : ∀ i, i < Q.length → (((Q.getD i rm0).l.length : Int) = ar) ∧ Vl.rowB (Q.getD i rm0).l = true := by
  intro i hi
  have hi' : i < (said Q).length := by rw [said_len]; exact hi
  have := List.all_eq_true.1 h _ (List.getElem_mem hi')
  have e : (said Q)[i] = (Q.getD i rm0).l := by rw [← said_at hi]; simp [List.getD, hi']
  rw [e] at this
  unfold fitB at this
  simpa using this

/-- What is found wrong at row k. -/
def upB (ar : Int) (Q : List Rm) (k : Nat) : Bool := fitB ar (Q.getD k rm0).l && (decide (k = 0) || decide (Vl.rordB (Q.getD (k - 1) rm0).l (Q.getD k rm0).l = -1))
theorem rel_loop {ar : Int} {Q : List Rm} (hA : 0 ≤ ar ∧ ar ≤ 6) (hB : Q.length ≤ 300) : (∀ i, i < Q.length → upB ar Q i = true) → relB ar (said Q) = true := by
  intro h
  have h1 : ∀ i, i < Q.length → fitB ar (Q.getD i rm0).l = true := fun i hi => by have := h i hi; unfold upB at this; rw [Bool.and_eq_true] at this; exact this.1
  have hF : (said Q).all (fitB ar) = true := by
    refine List.all_eq_true.2 fun x hx => ?_
    obtain ⟨i, hi, rfl⟩ := List.getElem_of_mem hx
    have hi' : i < Q.length := by rw [said_len] at hi; exact hi
    have := h1 i hi'
    rw [← said_at hi'] at this
    simpa [List.getD, hi] using this
  rw [relB_eq, said_len, decide_eq_true hA, decide_eq_true hB, hF]
  simp only [Bool.true_and]
  rw [rises_iff]
  intro i hi
  rw [said_len] at hi
  have h2 := h (i + 1) hi
  unfold upB at h2
  simp only [Nat.add_sub_cancel, Bool.and_eq_true, Bool.or_eq_true, decide_eq_true_eq] at h2
  have r := all_right hF
  rw [said_at (by omega), said_at hi, ← rord_right (r i (by omega)).2 (r (i + 1) hi).2]
  rcases h2.2 with e | e <;> omega
theorem rel_bad {ar : Int} {Q : List Rm} {k : Nat} (hk : k < Q.length) (h : upB ar Q k = false) : relB ar (said Q) = false := by
  rw [← Bool.not_eq_true]
  intro e
  rw [relB_eq] at e
  simp only [Bool.and_eq_true] at e
  have r := all_right e.1.2
  have h1 : fitB ar (Q.getD k rm0).l = true := by unfold fitB; rw [decide_eq_true (r k hk).1, (r k hk).2]; rfl
  unfold upB at h
  rw [h1] at h
  simp only [Bool.true_and, Bool.or_eq_false_iff, decide_eq_false_iff_not] at h
  obtain ⟨j, rfl⟩ : ∃ j, k = j + 1 := ⟨k - 1, by omega⟩
  simp only [Nat.add_sub_cancel] at h
  have := (rises_iff _).1 e.2 j (by rw [said_len]; exact hk)
  rw [said_at (by omega), said_at hk] at this
  rw [rord_right (r j (by omega)).2 (r (j + 1) hk).2] at h
  rcases ordRow_one3 (Q.getD j rm0).l (Q.getD (j + 1) rm0).l with o | o | o <;> omega

end Go.Proofs.YtljlgjgfmgilaaaGreat.Rl
