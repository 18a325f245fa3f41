/-
  Few marks; what laws over changes want.
-/
import Derived.Test.YtkpchlojapkimaaEp
import Derived.Test.YtkpchlojapkimaaEn
import Derived.Test.YtkpchlojapkimaaMda
namespace Go.Proofs.Ytkpchlojapkimaa.Ch
set_option maxRecDepth 8000
set_option linter.unusedSimpArgs false
set_option linter.unusedVariables false
open Go Go.ChangeShapes Go.WideShapes Go.RowKit
open Num Word Pl Rp
open Rl (Rm rm0 said)

/-- Both relations of the change are right. -/
def Fine (z : CL) : Prop := (∃ ar, RelP ar z.2.1.2) ∧ ∃ ar, RelP ar z.2.2.2
/-- The marks of a small delta are few. -/
theorem few_marks {F : List Cm} {M : List CL} (h : told F = M) (hl : M.length ≤ 24) (h1 : ∀ z ∈ M, Fine z) : kC F 1 F.length ≤ 10000000 := by
  have hF : F.length ≤ 24 := by rw [← told_len, h]; exact hl
  have key : ∀ i, i ≤ F.length → kC F 1 i ≤ 1 + i * 7203 := by
    intro i
    induction i with
    | zero => intro _; simp [kC]
    | succ i ih =>
      intro hi
      have q := ih (by omega)
      obtain ⟨⟨ar, h3⟩, ⟨br, h5⟩⟩ := h1 _ (by rw [← h]; exact List.mem_map_of_mem (f := Cm.l) (mem_at (i := i) (by omega)))
      have h4 := (Rl.small_said (F := (F.getD i cm0).p.Q) rfl ⟨h3.few, fun l hl => by have := h3.fit l hl; have := h3.hi; omega⟩).2
      have h6 := (Rl.small_said (F := (F.getD i cm0).m.Q) rfl ⟨h5.few, fun l hl => by have := h5.fit l hl; have := h5.hi; omega⟩).2
      simp only [kC, cn]
      omega
  have := key F.length (Nat.le_refl _)
  omega
theorem fine_of {x : CL} (h : changeB x = true) : Fine x := by
  obtain ⟨h1, h2, _⟩ := change_parts h
  exact ⟨⟨_, h1⟩, _, h2⟩
theorem deltaL_parts {T : List CL} (h : deltaB T = true) : T.length ≤ 24 ∧ ∀ z ∈ T, changeB z = true := by
  unfold deltaB at h
  simp only [Bool.and_eq_true, decide_eq_true_eq] at h
  exact ⟨h.1.1, fun z hz => List.all_eq_true.1 h.1.2 z hz⟩
theorem BA_some (T : List CL) : ∃ M, BA T M ∧ M.length ≤ 24 ∧ ∀ z ∈ M, Fine z := by
  cases h : deltaB T with
  | false => exact ⟨[], by unfold BA; rw [h, if_neg (by simp)], by simp, fun z hz => by simp at hz⟩
  | true =>
    obtain ⟨h1, h2⟩ := deltaL_parts h
    refine ⟨backL T, by unfold BA; rw [h, if_pos rfl], by simpa [backL] using h1, fun z hz => ?_⟩
    obtain ⟨x, hx, rfl⟩ := List.mem_map.1 hz
    obtain ⟨q1, q2⟩ := fine_of (h2 x hx)
    exact ⟨q2, q1⟩

end Go.Proofs.Ytkpchlojapkimaa.Ch
