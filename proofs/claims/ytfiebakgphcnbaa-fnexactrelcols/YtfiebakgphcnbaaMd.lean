/-
  What the program and the specification say of relations is one.
-/
import Derived.Test.YtfiebakgphcnbaaRw1
import Derived.Test.YtfiebakgphcnbaaRza
import Derived.Test.YtfiebakgphcnbaaMc
namespace Go.Proofs.Ytfiebakgphcnbaa.Rl
set_option maxRecDepth 8000
set_option linter.unusedSimpArgs false
set_option linter.unusedVariables false
open Go Go.RowKit
open Num Word Pl Rp

theorem two_add (x : Int) (R : List RowL) (m : RowL) : twoB x R x [m] = addB x R m := by
  unfold twoB addB
  cases hr : relB x R
  · simp
  · have P := relP_of hr
    rw [one_relB P.lo P.hi, decide_eq_true rfl, Bool.and_true, Bool.true_and, Bool.true_and, Bool.and_comm]
theorem add_right {x : Int} {R : List RowL} {m : RowL} (h : addB x R m = true) : RelP x R ∧ RelP x [m] ∧ okL m := by
  unfold addB at h
  rw [Bool.and_eq_true, Bool.and_eq_true, decide_eq_true_eq] at h
  have P := relP_of h.1
  exact ⟨P, one_relP P.lo P.hi h.2.2 h.2.1, okL_of h.2.1⟩
theorem add_bridge {x : Int} {R : List RowL} {m : RowL} {ar : Int} {X : List RowL} {c : Int} (h : MA stAll x R x [m] ar X c) :
    if addB x R m = true then (if (putL R m).length ≤ 300 then ar = x ∧ X = putL R m ∧ c = 0 else ar = 0 ∧ X = [] ∧ c = 2) else ar = 0 ∧ X = [] ∧ c = 1 := by
  unfold MA at h
  rw [two_add] at h
  by_cases hb : addB x R m = true
  · rw [if_pos hb] at h ⊢
    obtain ⟨P, _, ok⟩ := add_right hb
    rw [addL_eq P.sorted P.ok ok] at h
    exact h
  · rw [if_neg hb] at h ⊢; exact h
theorem drop_bridge {x : Int} {R : List RowL} {m : RowL} {ar : Int} {X : List RowL} {c : Int} (h : MA stOne x R x [m] ar X c) :
    if addB x R m = true then ar = x ∧ X = (R.filter fun z => !decide (z = m)) ∧ c = 0 else ar = 0 ∧ X = [] ∧ c = 1 := by
  unfold MA at h
  rw [two_add] at h
  by_cases hb : addB x R m = true
  · rw [if_pos hb] at h ⊢
    obtain ⟨P, _, ok⟩ := add_right hb
    have e : mergeL stOne R [m] = R.filter fun z => !decide (z = m) := by
      rw [dropL_eq P.sorted P.ok ok]; congr 1; funext z; simp
    rw [e, if_pos (Nat.le_trans (List.length_filter_le _ _) P.few)] at h
    exact h
  · rw [if_neg hb] at h ⊢; exact h
theorem two_rel {x y : Int} {R S : List RowL} (h : twoB x R y S = true) : RelP x R ∧ RelP y S := by
  unfold twoB at h
  rw [Bool.and_eq_true, Bool.and_eq_true] at h
  exact ⟨relP_of h.1.1, relP_of h.1.2⟩
theorem union_bridge {x y : Int} {R S : List RowL} {ar : Int} {X : List RowL} {c : Int} (h : MA stAll x R y S ar X c) :
    if twoB x R y S = true then (if (S.foldl putL R).length ≤ 300 then ar = x ∧ X = S.foldl putL R ∧ (c == 0) = true else ar = 0 ∧ X = [] ∧ (c == 0) = false) else ar = 0 ∧ X = [] ∧ (c == 0) = false := by
  unfold MA at h
  by_cases hb : twoB x R y S = true
  · rw [if_pos hb] at h ⊢
    obtain ⟨P, P'⟩ := two_rel hb
    rw [union_eq P.sorted P'.sorted P.ok P'.ok] at h
    by_cases hf : (S.foldl putL R).length ≤ 300
    · rw [if_pos hf] at h ⊢
      exact ⟨h.1, h.2.1, by rw [h.2.2]; rfl⟩
    · rw [if_neg hf] at h ⊢
      exact ⟨h.1, h.2.1, by rw [h.2.2]; rfl⟩
  · rw [if_neg hb] at h ⊢; exact ⟨h.1, h.2.1, by rw [h.2.2]; rfl⟩
theorem minus_bridge {x y : Int} {R S : List RowL} {ar : Int} {X : List RowL} {c : Int} (h : MA stOne x R y S ar X c) :
    if twoB x R y S = true then ar = x ∧ X = (R.filter fun z => decide (z ∈ S) == false) ∧ (c == 0) = true else ar = 0 ∧ X = [] ∧ (c == 0) = false := by
  unfold MA at h
  by_cases hb : twoB x R y S = true
  · rw [if_pos hb] at h ⊢
    obtain ⟨P, P'⟩ := two_rel hb
    have e : mergeL stOne R S = R.filter fun z => decide (z ∈ S) == false := by
      rw [minus_eq P.sorted P'.sorted P.ok P'.ok]; congr 1; funext z; by_cases h : z ∈ S <;> simp [h]
    rw [e, if_pos (Nat.le_trans (List.length_filter_le _ _) P.few)] at h
    exact ⟨h.1, h.2.1, by rw [h.2.2]; rfl⟩
  · rw [if_neg hb] at h ⊢; exact ⟨h.1, h.2.1, by rw [h.2.2]; rfl⟩
theorem both_bridge {x y : Int} {R S : List RowL} {ar : Int} {X : List RowL} {c : Int} (h : MA stTwo x R y S ar X c) :
    if twoB x R y S = true then ar = x ∧ X = (R.filter fun z => decide (z ∈ S) == true) ∧ (c == 0) = true else ar = 0 ∧ X = [] ∧ (c == 0) = false := by
  unfold MA at h
  by_cases hb : twoB x R y S = true
  · rw [if_pos hb] at h ⊢
    obtain ⟨P, P'⟩ := two_rel hb
    have e : mergeL stTwo R S = R.filter fun z => decide (z ∈ S) == true := by
      rw [both_eq P.sorted P'.sorted P.ok P'.ok]; congr 1; funext z; by_cases h : z ∈ S <;> simp [h]
    rw [e, if_pos (Nat.le_trans (List.length_filter_le _ _) P.few)] at h
    exact ⟨h.1, h.2.1, by rw [h.2.2]; rfl⟩
  · rw [if_neg hb] at h ⊢; exact ⟨h.1, h.2.1, by rw [h.2.2]; rfl⟩

/-- How many values a copy has. -/
theorem cnt_said {Q P : List Rm} (h : said Q = said P) : ∀ i, cnt Q i = cnt P i
  | 0 => rfl
  | i + 1 => by
    simp only [cnt, cnt_said h i]
    have hl : Q.length = P.length := by rw [← said_len, ← said_len, h]
    by_cases hi : i < Q.length
    · rw [← said_at hi, ← said_at (by omega), h]
    · have e1 : Q.getD i rm0 = rm0 := by simp [List.getD, List.getElem?_eq_none (Nat.le_of_not_lt hi)]
      have e2 : P.getD i rm0 = rm0 := by simp [List.getD, List.getElem?_eq_none (by omega : P.length ≤ i)]
      rw [e1, e2]
theorem cnt_raw {Q : List Rm} {S : List Raw} (h : said Q = S.map Raw.l) (hl : Q.length = S.length) : ∀ i, i ≤ Q.length → cnt Q i ≤ totR S i
  | 0, _ => Nat.le_refl _
  | i + 1, hi => by
    have := cnt_raw h hl i (by omega)
    have e : (Q.getD i rm0).l = (S.getD i raw0).l := by
      rw [← said_at (by omega), h]; simp [List.getD, show i < S.length by omega]
    simp only [cnt, totR]
    rw [e]; omega
theorem cnt_few {F : List Rm} (h : ∀ r ∈ F, r.l.length ≤ 6) : ∀ i, i ≤ F.length → cnt F i ≤ i * 6
  | 0, _ => Nat.le_refl _
  | i + 1, hi => by
    have := cnt_few h i (by omega)
    have := h _ (getD_mem (by omega : i < F.length))
    simp only [cnt]; omega
theorem small_ma {st : Int → Bool} {x y : Int} {R S : List RowL} {ar : Int} {X : List RowL} {c : Int} (h : MA st x R y S ar X c) : X.length ≤ 300 ∧ ∀ l ∈ X, l.length ≤ 6 := by
  unfold MA at h
  split at h
  · rename_i hb
    obtain ⟨P, P'⟩ := two_rel hb
    split at h
    · rename_i hf
      obtain ⟨_, rfl, _⟩ := h
      refine ⟨hf, fun l hl => ?_⟩
      rcases mem_both P.sorted P'.sorted P.ok P'.ok hl with q | q
      · exact (Vl.row_at (P.right l q)).1
      · exact (Vl.row_at (P'.right l q)).1
    · obtain ⟨_, rfl, _⟩ := h; simp
  · obtain ⟨_, rfl, _⟩ := h; simp
theorem small_said {F : List Rm} {X : List RowL} (h : said F = X) (hX : X.length ≤ 300 ∧ ∀ l ∈ X, l.length ≤ 6) : F.length ≤ 300 ∧ cnt F F.length ≤ 1800 := by
  have hl : F.length ≤ 300 := by have := congrArg List.length h; rw [said_len] at this; omega
  have := cnt_few (F := F) (fun r hr => hX.2 _ (by rw [← h]; exact List.mem_map_of_mem hr)) F.length (Nat.le_refl _)
  exact ⟨hl, by omega⟩

end Go.Proofs.Ytfiebakgphcnbaa.Rl
