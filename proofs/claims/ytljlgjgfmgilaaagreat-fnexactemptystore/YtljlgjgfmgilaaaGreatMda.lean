/-
  How many marks a relation takes.
-/
import Derived.Test.YtljlgjgfmgilaaaGreatMc
namespace Go.Proofs.YtljlgjgfmgilaaaGreat.Rl
set_option maxRecDepth 8000
set_option linter.unusedSimpArgs false
set_option linter.unusedVariables false
open Go Go.RowKit
open Num Word Pl Rp

theorem cnt_said {Q P : List Rm} (h : said Q = said P) : ∀ i, cnt Q i = cnt P i
  | 0 => rfl
  | i + 1 => by
    simp only [cnt, cnt_said h i]
    have hl : Q.length = P.length := by rw [← said_len, ← said_len, h]
    by_cases hi : i < Q.length
    · rw [← said_at hi, ← said_at (by omega), h]
    · have e1 : Q.getD i rm0 = rm0 := by simp [List.getD, List.getElem?_eq_none (Nat.le_of_not_lt hi)]
      have e2 : P.getD i rm0 = rm0 := by simp [List.getD, List.getElem?_eq_none (by omega : P.length ≤ i)]
      rw [e1, e2]
theorem cnt_raw {Q : List Rm} {S : List Raw} (h : said Q = S.map Raw.l) (hl : Q.length = S.length) : ∀ i, i ≤ Q.length → cnt Q i ≤ totR S i
  | 0, _ => Nat.le_refl _
  | i + 1, hi => by
    have := cnt_raw h hl i (by omega)
    have e : (Q.getD i rm0).l = (S.getD i raw0).l := by
      rw [← said_at (by omega), h]; simp [List.getD, show i < S.length by omega]
    simp only [cnt, totR]
    rw [e]; omega
theorem cnt_few {F : List Rm} (h : ∀ r ∈ F, r.l.length ≤ 6) : ∀ i, i ≤ F.length → cnt F i ≤ i * 6
  | 0, _ => Nat.le_refl _
  | i + 1, hi => by
    have := cnt_few h i (by omega)
    have := h _ (getD_mem (by omega : i < F.length))
    simp only [cnt]; omega
theorem small_said {F : List Rm} {X : List RowL} (h : said F = X) (hX : X.length ≤ 300 ∧ ∀ l ∈ X, l.length ≤ 6) : F.length ≤ 300 ∧ cnt F F.length ≤ 1800 := by
  have hl : F.length ≤ 300 := by have := congrArg List.length h; rw [said_len] at this; omega
  have := cnt_few (F := F) (fun r hr => hX.2 _ (by rw [← h]; exact List.mem_map_of_mem hr)) F.length (Nat.le_refl _)
  exact ⟨hl, by omega⟩

end Go.Proofs.YtljlgjgfmgilaaaGreat.Rl
