/-
  What FnSets asks.
-/
import Derived.Test.YtfiebakgphcnbaaMd
namespace Go.Proofs.Ytfiebakgphcnbaa.Rl
set_option maxRecDepth 8000
set_option linter.unusedSimpArgs false
set_option linter.unusedVariables false
open Go Go.RowKit
open Num Word Pl Rp
open Vl (ordRow)

theorem ins_len (x : RowL) : ∀ R : List RowL, (insL x R).length = R.length + 1
  | [] => by simp [insL]
  | y :: R => by
    rw [insL]
    split
    · simp
    · simp [ins_len x R]
theorem put_lenE (R : List RowL) (x : RowL) : (putL R x).length = if x ∈ R then R.length else R.length + 1 := by
  unfold putL
  split
  · rfl
  · exact ins_len x R
theorem foldput_len : ∀ (S R : List RowL), S.Nodup → (S.foldl putL R).length = R.length + (S.filter fun z => decide (z ∉ R)).length
  | [], R, _ => by simp
  | x :: S, R, h => by
    obtain ⟨hx, hS⟩ := List.nodup_cons.1 h
    rw [List.foldl_cons, foldput_len S (putL R x) hS, put_lenE]
    have e : (S.filter fun z => decide (z ∉ putL R x)) = S.filter fun z => decide (z ∉ R) := by
      refine List.filter_congr fun z hz => ?_
      have hne : z ≠ x := fun e => hx (e ▸ hz)
      simp [put_mem, hne]
    rw [e]
    by_cases hm : x ∈ R
    · simp [hm]
    · simp [hm]; omega
theorem split_len (R : List RowL) (p : RowL → Bool) : (R.filter fun z => !p z).length + (R.filter p).length = R.length := by
  induction R with
  | nil => rfl
  | cons x R ih => by_cases h : p x = true <;> simp [h] <;> omega
theorem sorted_nodup {R : List RowL} (h : Sorted R) : R.Nodup := by
  refine List.Pairwise.imp ?_ h
  intro a b hab e
  subst e
  rw [ordRow_self] at hab
  omega
theorem set_facts {x y : Int} {R S : List RowL} {ar : Int} {X : List RowL} {c : Int} (h : MA stAll x R y S ar X c) :
    (¬ c = 0 ∧ X = []) ∨ (c = 0 ∧ ar = x ∧ ∃ D E Z, MA stOne x R y S x D 0 ∧ MA stOne y S x R y E 0 ∧ MA stTwo x R y S x Z 0 ∧ MA stAll x D x Z x R 0 ∧ MA stAll x R y E x X 0 ∧ sameB x R x R = true ∧ sameB x X x X = true ∧ D.length + E.length + Z.length = X.length) := by
  unfold MA at h
  split at h
  · rename_i h2
    split at h
    · rename_i hle
      obtain ⟨rfl, rfl, rfl⟩ := h
      obtain ⟨hR, hS⟩ := two_rel h2
      have hxy : ar = y := by unfold twoB at h2; simp only [Bool.and_eq_true, decide_eq_true_eq] at h2; exact h2.2
      subst hxy
      have tw : ∀ {A C : List RowL}, RelP ar A → RelP ar C → twoB ar A ar C = true := fun hA hC => by unfold twoB; rw [relB_of hA, relB_of hC]; simp
      have eD : mergeL stOne R S = R.filter fun z => decide (z ∉ S) := minus_eq hR.sorted hS.sorted hR.ok hS.ok
      have eE : mergeL stOne S R = S.filter fun z => decide (z ∉ R) := minus_eq hS.sorted hR.sorted hS.ok hR.ok
      have eZ : mergeL stTwo R S = R.filter fun z => decide (z ∈ S) := both_eq hR.sorted hS.sorted hR.ok hS.ok
      have lD : (mergeL stOne R S).length ≤ 300 := by rw [eD]; exact Nat.le_trans (List.length_filter_le _ _) hR.few
      have lE : (mergeL stOne S R).length ≤ 300 := by rw [eE]; exact Nat.le_trans (List.length_filter_le _ _) hS.few
      have lZ : (mergeL stTwo R S).length ≤ 300 := by rw [eZ]; exact Nat.le_trans (List.length_filter_le _ _) hR.few
      have hD := merge_relP stOne hR hS lD
      have hE := merge_relP stOne hS hR lE
      have hZ := merge_relP stTwo hR hS lZ
      have hX := merge_relP stAll hR hS hle
      have eA : mergeL stAll (mergeL stOne R S) (mergeL stTwo R S) = R := by
        rw [union_eq hD.sorted hZ.sorted hD.ok hZ.ok]
        refine sorted_ext (foldput_sorted _ _ hD.sorted hD.ok hZ.ok) hR.sorted fun z => ?_
        rw [foldput_mem, eD, eZ]
        simp only [List.mem_filter, decide_eq_true_eq]
        constructor
        · rintro (h | h) <;> exact h.1
        · intro h
          by_cases k : z ∈ S
          · exact .inr ⟨h, k⟩
          · exact .inl ⟨h, k⟩
      have eB : mergeL stAll R (mergeL stOne S R) = mergeL stAll R S := by
        rw [union_eq hR.sorted hE.sorted hR.ok hE.ok, union_eq hR.sorted hS.sorted hR.ok hS.ok]
        refine sorted_ext (foldput_sorted _ _ hR.sorted hR.ok hE.ok) (foldput_sorted _ _ hR.sorted hR.ok hS.ok) fun z => ?_
        rw [foldput_mem, foldput_mem, eE]
        simp only [List.mem_filter, decide_eq_true_eq]
        constructor
        · rintro (h | h)
          · exact .inl h
          · exact .inr h.1
        · rintro (h | h)
          · exact .inl h
          · by_cases k : z ∈ R
            · exact .inl k
            · exact .inr ⟨h, k⟩
      refine .inr ⟨rfl, rfl, mergeL stOne R S, mergeL stOne S R, mergeL stTwo R S, ?_, ?_, ?_, ?_, ?_, ?_, ?_, ?_⟩
      · unfold MA; rw [if_pos (tw hR hS), if_pos lD]; exact ⟨rfl, rfl, rfl⟩
      · unfold MA; rw [if_pos (tw hS hR), if_pos lE]; exact ⟨rfl, rfl, rfl⟩
      · unfold MA; rw [if_pos (tw hR hS), if_pos lZ]; exact ⟨rfl, rfl, rfl⟩
      · unfold MA; rw [if_pos (tw hD hZ), eA, if_pos hR.few]; exact ⟨rfl, rfl, rfl⟩
      · unfold MA; rw [if_pos (tw hR hE), eB, if_pos hle]; exact ⟨rfl, rfl, rfl⟩
      · unfold sameB; rw [tw hR hR]; simp
      · unfold sameB; rw [tw hX hX]; simp
      · rw [union_eq hR.sorted hS.sorted hR.ok hS.ok, foldput_len S R (sorted_nodup hS.sorted), eD, eE, eZ]
        have := split_len R (fun z => decide (z ∈ S))
        simp only [decide_not] at this ⊢
        omega
    · obtain ⟨_, rfl, rfl⟩ := h
      exact .inl ⟨by decide, rfl⟩
  · obtain ⟨_, rfl, rfl⟩ := h
    exact .inl ⟨by decide, rfl⟩

end Go.Proofs.Ytfiebakgphcnbaa.Rl
