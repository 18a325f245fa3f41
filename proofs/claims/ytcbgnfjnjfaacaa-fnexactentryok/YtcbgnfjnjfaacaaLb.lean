/-
  The program's answer and the specification's by one word: SameMatch.
-/
import Derived.Test.YtcbgnfjnjfaacaaMt
namespace Go.Proofs.Ytcbgnfjnjfaacaa.Lb
set_option maxRecDepth 8000
open Go Go.RowKit
open Num Pl Hr Hh Pa Pm Po Pe Rg

theorem lens {V M : List Int} (h : matchB V M = true) : V.length = 8 ∧ M.length = 8 := by
  unfold matchB at h
  simp at h
  exact ⟨h.1.1, h.1.2⟩
theorem sameB_iff (x y x' y' : Nat → Int) : sameB x y x' y' = true ↔ ∀ k, k < 8 → x k = x' k ∧ y k = y' k := by
  unfold sameB
  simp [List.all_eq_true]
theorem same_lists {V M V' M' : List Int} (h : matchB V M = true) (h' : matchB V' M' = true) : sameB (nth V) (nth M) (nth V') (nth M') = (decide (V = V') && decide (M = M')) := by
  obtain ⟨a1, a2⟩ := lens h
  obtain ⟨b1, b2⟩ := lens h'
  rw [Bool.eq_iff_iff, sameB_iff]
  simp only [Bool.and_eq_true, decide_eq_true_eq]
  constructor
  · intro q
    exact ⟨Rw.ext_getD (by omega) (fun i hi => (q i (by omega)).1), Rw.ext_getD (by omega) (fun i hi => (q i (by omega)).2)⟩
  · rintro ⟨rfl, rfl⟩ k _
    exact ⟨rfl, rfl⟩
theorem same_eq (V M V' M' : List Int) : ((matchB V M && matchB V' M') && sameB (pv V M) (pm V M) (pv V' M') (pm V' M')) = (matchB V M && matchB V' M' && (decide (V = V') && decide (M = M'))) := by
  cases h : matchB V M with
  | false => simp
  | true =>
    cases h' : matchB V' M' with
    | false => simp
    | true => rw [pv_yes h, pm_yes h, pv_yes h', pm_yes h', same_lists h h']

end Go.Proofs.Ytcbgnfjnjfaacaa.Lb
