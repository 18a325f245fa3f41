/-
  Both RelOk.
-/
import Derived.Test.YtkpchlojapkimaaGreatRb
namespace Go.Proofs.YtkpchlojapkimaaGreat.Rl
set_option maxRecDepth 8000
set_option linter.unusedSimpArgs false
set_option linter.unusedVariables false
open Go Go.RowKit
open Num Word Pl Rp
open Vl (ordRow)

theorem relB_eq (ar : Int) (R : List RowL) : relB ar R = (decide (0 ≤ ar ∧ ar ≤ 6) && decide (R.length ≤ 300) && R.all (fitB ar) && risesB R) := rfl
theorem all_right {ar : Int} {Q : List Rm} (h : (said Q).all (fitB ar) = true) : ∀ i, i < Q.length → (((Q.getD i rm0).l.length : Int) = ar) ∧ Vl.rowB (Q.getD i rm0).l = true := by
  intro i hi
  have hi' : i < (said Q).length := by rw [said_len]; exact hi
  have := List.all_eq_true.1 h _ (List.getElem_mem hi')
  have e : (said Q)[i] = (Q.getD i rm0).l := by rw [← said_at hi]; simp [List.getD, hi']
  rw [e] at this
  unfold fitB at this
  simpa using this

set_option maxHeartbeats 1000000 in
theorem relI_any (ar : Int) (a : Option Addr) (b off cap : Nat) (Q : List Rm) (w : World) (h : Rd w a b off Q) :
    Calls Tryz.prog 89 #[.agg #[.int .i64 ar, .slice a Q.length cap]] w fun e w' => e = .returned (.bool (relB ar (said Q))) ∧ Below w.heap.size w w' := by
  obtain ⟨W1, hW1⟩ : ∃ W1, W1 = w.alloc (.cells #[.int .i64 ar, .slice a Q.length cap] 67) := ⟨_, rfl⟩
  have B1 : Below w.heap.size w W1 := by subst hW1; exact below_alloc1 _ _
  have k0 : W1.heap[w.heap.size]? = some (.cells #[.int .i64 ar, .slice a Q.length cap] 67 (0, 0)) := by subst hW1; exact at_new rfl
  obtain ⟨p0, p1⟩ := two k0
  replace h := h.below B1
  rw [relB_eq]
  have hU := fun W => Vl.upTo_any 6 ar W
  cases hA : decide (0 ≤ ar ∧ ar ≤ 6) with
  | false =>
    rw [hA] at hU
    go_enter Tryz.func89, Tryz.ntmps89
    go_wp2_with (go_at_call 135; rw [← hW1]; clear hW1; refine (hU _).mono ?_; rintro e w1 ⟨rfl, hw⟩; replace hw := hw.symm; subst hw)
    go_ret
    exact ⟨ret_bool (by simp), B1⟩
  | true =>
    rw [hA] at hU
    clear hA
    rw [said_len]
    by_cases hB : Q.length ≤ 300
    · have hB' : (Q.length : Int) ≤ 300 := by omega
      rw [decide_eq_true hB]
      have hC := contains61 ar w.heap.size (.slice a Q.length cap) a b off cap Q W1 h k0
      cases hF : (said Q).all (fitB ar) with
      | false =>
        rw [hF] at hC
        clear hB
        go_enter Tryz.func89, Tryz.ntmps89
        go_wp2_with (first
          | (go_at_call 135; rw [← hW1]; clear hW1; refine (hU _).mono ?_; rintro e w1 ⟨rfl, hw⟩; replace hw := hw.symm; subst hw)
          | (go_at_call 136; refine hC.mono ?_; rintro e w1 ⟨rfl, hb⟩))
        go_ret
        exact ⟨ret_bool (by simp), Rw.next B1 hb⟩
      | true =>
        rw [hF] at hC
        have hr := fun i hi => (all_right hF i hi).2
        have hS := fun W h' => rises_any a b off cap Q W h' hr
        generalize risesB (said Q) = R at hS ⊢
        clear hB hr hF
        have t1 : True := trivial
        go_enter Tryz.func89, Tryz.ntmps89
        go_wp2_with (first
          | (go_at_call 135; rw [← hW1]; clear hW1; refine (hU _).mono ?_; rintro e w1 ⟨rfl, hw⟩; replace hw := hw.symm; subst hw)
          | (go_at_call 136; refine hC.mono ?_; rintro e w1 ⟨rfl, hb⟩; clear p0 p1; replace B1 := Rw.next B1 hb; replace k0 := (hb.block _ (blk_lt k0)).trans k0; replace h := h.below hb; clear hb; obtain ⟨p0, p1⟩ := two k0)
          | (go_at_call 99; refine (rowSet_any _ (.int .i64 0) _ _ _ _).mono ?_; rintro e w2 ⟨rfl, hb⟩; replace B1 := Rw.next B1 hb; replace h := h.below hb; clear hb)
          | (go_at_call 137; refine (hS _ h).mono ?_; rintro e w3 ⟨rfl, hb⟩))
        go_ret
        exact ⟨ret_bool (by simp), Rw.next B1 hb⟩
    · have hB' : ¬ (Q.length : Int) ≤ 300 := by omega
      rw [decide_eq_false hB]
      clear hB
      go_enter Tryz.func89, Tryz.ntmps89
      go_wp2_with (go_at_call 135; rw [← hW1]; clear hW1; refine (hU _).mono ?_; rintro e w1 ⟨rfl, hw⟩; replace hw := hw.symm; subst hw)
      go_ret
      exact ⟨ret_bool (by simp), B1⟩

/-- What is found wrong at row k. -/
def upB (ar : Int) (Q : List Rm) (k : Nat) : Bool := fitB ar (Q.getD k rm0).l && (decide (k = 0) || decide (Vl.rordB (Q.getD (k - 1) rm0).l (Q.getD k rm0).l = -1))
theorem rel_loop {ar : Int} {Q : List Rm} (hA : 0 ≤ ar ∧ ar ≤ 6) (hB : Q.length ≤ 300) : (∀ i, i < Q.length → upB ar Q i = true) → relB ar (said Q) = true := by
  intro h
  have h1 : ∀ i, i < Q.length → fitB ar (Q.getD i rm0).l = true := fun i hi => by have := h i hi; unfold upB at this; rw [Bool.and_eq_true] at this; exact this.1
  have hF : (said Q).all (fitB ar) = true := by
    refine List.all_eq_true.2 fun x hx => ?_
    obtain ⟨i, hi, rfl⟩ := List.getElem_of_mem hx
    have hi' : i < Q.length := by rw [said_len] at hi; exact hi
    have := h1 i hi'
    rw [← said_at hi'] at this
    simpa [List.getD, hi] using this
  rw [relB_eq, said_len, decide_eq_true hA, decide_eq_true hB, hF]
  simp only [Bool.true_and]
  rw [rises_iff]
  intro i hi
  rw [said_len] at hi
  have h2 := h (i + 1) hi
  unfold upB at h2
  simp only [Nat.add_sub_cancel, Bool.and_eq_true, Bool.or_eq_true, decide_eq_true_eq] at h2
  have r := all_right hF
  rw [said_at (by omega), said_at hi, ← rord_right (r i (by omega)).2 (r (i + 1) hi).2]
  rcases h2.2 with e | e <;> omega
theorem rel_bad {ar : Int} {Q : List Rm} {k : Nat} (hk : k < Q.length) (h : upB ar Q k = false) : relB ar (said Q) = false := by
  rw [← Bool.not_eq_true]
  intro e
  rw [relB_eq] at e
  simp only [Bool.and_eq_true] at e
  have r := all_right e.1.2
  have h1 : fitB ar (Q.getD k rm0).l = true := by unfold fitB; rw [decide_eq_true (r k hk).1, (r k hk).2]; rfl
  unfold upB at h
  rw [h1] at h
  simp only [Bool.true_and, Bool.or_eq_false_iff, decide_eq_false_iff_not] at h
  obtain ⟨j, rfl⟩ : ∃ j, k = j + 1 := ⟨k - 1, by omega⟩
  simp only [Nat.add_sub_cancel] at h
  have := (rises_iff _).1 e.2 j (by rw [said_len]; exact hk)
  rw [said_at (by omega), said_at hk] at this
  rw [rord_right (r j (by omega)).2 (r (j + 1) hk).2] at h
  rcases ordRow_one3 (Q.getD j rm0).l (Q.getD (j + 1) rm0).l with o | o | o <;> omega

end Go.Proofs.YtkpchlojapkimaaGreat.Rl
