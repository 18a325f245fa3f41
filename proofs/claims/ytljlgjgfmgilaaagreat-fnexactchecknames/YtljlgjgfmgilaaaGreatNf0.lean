/-
  A rule's code, plain: what it takes to tell it.
-/
import Derived.Test.YtljlgjgfmgilaaaGreatNc
import Derived.Test.YtljlgjgfmgilaaaGreatNe
import Derived.BigQuiet
import Derived.Deep.RegionHeld3
import Derived.Deep.Cut
import Derived.Handy
namespace Go.Proofs.YtljlgjgfmgilaaaGreat.Nq
set_option maxRecDepth 8000
set_option linter.unusedSimpArgs false
set_option linter.unusedVariables false
open Go Go.ChangeShapes Go.WideShapes Go.RowKit
open Num Pl Pm

theorem any_at {α : Type} {l : List α} {f : α → Bool} {i : Nat} {d : α} (hi : i < l.length) (h : f (l.getD i d) = true) : l.any f = true := by
  have e : l.getD i d = l[i] := by simp [List.getD, hi]
  rw [e] at h
  exact List.any_eq_true.2 ⟨_, List.getElem_mem hi, h⟩
theorem any_no {α : Type} {l : List α} {f : α → Bool} (d : α) (h : ∀ i, i < l.length → f (l.getD i d) = false) : l.any f = false := by
  cases e : l.any f with
  | false => rfl
  | true =>
    obtain ⟨x, hx, hf⟩ := List.any_eq_true.1 e
    obtain ⟨i, hi, rfl⟩ := List.getElem_of_mem hx
    have := h i hi
    have e2 : l.getD i d = l[i] := by simp [List.getD, hi]
    rw [e2, hf] at this; cases this
def an3 (D : List Dc) (T : List HdL) : Bool := T.any (fun a => decide (arOf D a.1 < 0))
def an4 (D : List Dc) (T : List HdL) : Bool := T.any (fun a => decide (arOf D a.1 ≠ (a.2 : Int)))
def an6 (T : List HdL) : Bool := T.any (fun a => decide (a.1 = fw))
theorem codeR_eq (D : List Dc) (r : RuL) : codeR D r = if an3 D (atoms r) then 3 else if an4 D (atoms r) then 4 else if headBad D r then 5 else if an6 (atoms r).tail then 6 else if newsBad D r then 7 else 0 := rfl
def hd0 : HdL := kdHa.l ha0
/-- From the f-th literal on no news. -/
def from_ (r : RuL) : Nat := if movesR r then 1 else 0
theorem news_hit {D : List Dc} {r : RuL} {i : Nat} (hf : from_ r ≤ i) (hi : i < r.2.2.length) (h : newsB D (r.2.2.getD i lt0) = true) : newsBad D r = true := by
  unfold newsBad
  unfold from_ at hf
  by_cases hm : movesR r = true
  · rw [if_pos hm] at hf ⊢
    have : (r.2.2.drop 1).any (newsB D) = true := by
      refine any_at (i := i - 1) (d := lt0) (by simp; omega) ?_
      have e : (r.2.2.drop 1).getD (i - 1) lt0 = r.2.2.getD i lt0 := by
        simp only [List.getD, List.getElem?_drop]
        rw [show 1 + (i - 1) = i by omega]
      rw [e]; exact h
    rw [this]; simp
  · rw [if_neg hm] at hf ⊢
    exact any_at hi h
theorem news_ok {D : List Dc} {r : RuL} (hf : movesR r = true → firstBad D r = false) (h : ∀ i, from_ r ≤ i → i < r.2.2.length → newsB D (r.2.2.getD i lt0) = false) : newsBad D r = false := by
  unfold newsBad
  unfold from_ at h
  by_cases hm : movesR r = true
  · rw [if_pos hm] at h ⊢
    rw [hf hm]
    refine any_no lt0 fun i hi => ?_
    have := h (i + 1) (by omega) (by simp at hi; omega)
    have e : (r.2.2.drop 1).getD i lt0 = r.2.2.getD (i + 1) lt0 := by
      simp only [List.getD, List.getElem?_drop]
      rw [show 1 + i = i + 1 by omega]
    rw [e]; exact this
  · rw [if_neg hm] at h ⊢
    exact any_no lt0 fun i hi => h i (Nat.zero_le _) hi
theorem first_bad {D : List Dc} {r : RuL} (hm : movesR r = true) (h : firstBad D r = true) : newsBad D r = true := by
  unfold newsBad; rw [if_pos hm, h]; rfl
theorem tail_get (T : List HdL) (i : Nat) (d : HdL) : T.tail.getD i d = T.getD (i + 1) d := by
  cases T with
  | nil => simp [List.getD]
  | cons a T => simp [List.getD]
theorem first_eq (D : List Dc) (r : RuL) : firstBad D r = if r.2.2.length = 0 then true else (decide ((r.2.2.getD 0 lt0).1 ≠ 1) || !movB D (r.2.2.getD 0 lt0).2.1.1 || decide (r.1 = 1 ∧ (r.2.2.getD 0 lt0).2.1.1 ≠ pk)) := by
  unfold firstBad
  cases r.2.2 with
  | nil => rfl
  | cons l B => simp [List.getD]
theorem ret_nat {a b : Nat} (h : a = b) : Ending.returned (.int .i64 (a : Int)) = .returned (.int .i64 (b : Int)) := by rw [h]

theorem four {w : World} {g : Nat} {a b c d : Value} {t : TypeId} {fr : Nat × Nat} (h : w.heap[g]? = some (.cells #[a, b, c, d] t fr)) : w.cell? ⟨g, 0, none⟩ = some a ∧ w.cell? ⟨g, 1, none⟩ = some b ∧ w.cell? ⟨g, 2, none⟩ = some c ∧ w.cell? ⟨g, 3, none⟩ = some d := by simp [World.cell?, h]

end Go.Proofs.YtljlgjgfmgilaaaGreat.Nq
