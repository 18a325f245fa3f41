/-
  Two relations of one arity; both SameRel.
-/
import Derived.Test.YtkpchlojapkimaaRg
import Derived.Test.YtkpchlojapkimaaHn
namespace Go.Proofs.Ytkpchlojapkimaa.Rl
set_option maxRecDepth 8000
set_option linter.unusedSimpArgs false
set_option linter.unusedVariables false
open Go Go.RowKit
open Num Word Pl Rp
open Vl (ordRow)

/-- Are both right, and of one arity? -/
def twoB (x : Int) (R : List RowL) (y : Int) (S : List RowL) : Bool := relB x R && relB y S && decide (x = y)

set_option maxHeartbeats 1000000 in
theorem twoS_any (x y : Int) (a a' : Option Addr) (b off cap b' off' cap' : Nat) (Q P : List Rm) (w : World) (h : Rd w a b off Q) (h' : Rd w a' b' off' P) :
    Calls Try.prog 23 #[.agg #[.int .i64 x, .slice a Q.length cap], .agg #[.int .i64 y, .slice a' P.length cap']] w fun e w' => e = .returned (.bool (twoB x (said Q) y (said P))) ∧ Below w.heap.size w w' := by
  obtain ⟨W1, hW1⟩ : ∃ W1, W1 = (w.alloc (.cells #[.int .i64 x, .slice a Q.length cap] 51)).alloc (.cells #[.int .i64 y, .slice a' P.length cap'] 51) := ⟨_, rfl⟩
  have B1 : Below w.heap.size w W1 := by subst hW1; exact below_alloc2 _ _ _
  have k0 : W1.heap[w.heap.size]? = some (.cells #[.int .i64 x, .slice a Q.length cap] 51 (0, 0)) := by subst hW1; rw [at_old (by simp), at_new rfl]
  have k1 : W1.heap[w.heap.size + 1]? = some (.cells #[.int .i64 y, .slice a' P.length cap'] 51 (0, 0)) := by subst hW1; rw [at_new (by simp)]
  replace h := h.below B1
  replace h' := h'.below B1
  have hR := fun W h => relS_any x a b off cap Q W h
  have hR' := fun W h => relS_any y a' b' off' cap' P W h
  unfold twoB
  have t1 : True := trivial
  cases hr : relB x (said Q) with
  | false =>
    rw [hr] at hR
    go_enter Try.func23, Try.ntmps23
    go_wp2_with (go_at_call 46; rw [← hW1]; clear hW1; refine (hR _ h).mono ?_; rintro e w1 ⟨rfl, hb⟩)
    go_ret
    exact ⟨ret_bool (by simp), Rw.next B1 hb⟩
  | true =>
    rw [hr] at hR
    cases hs : relB y (said P) with
    | false =>
      rw [hs] at hR'
      go_enter Try.func23, Try.ntmps23
      go_wp2_with (first
        | (go_at_call 46; clear t1; rw [← hW1]; clear hW1; refine (hR _ h).mono ?_; rintro e w1 ⟨rfl, hb⟩; replace B1 := Rw.next B1 hb; replace k0 := (hb.block _ (blk_lt k0)).trans k0; replace k1 := (hb.block _ (blk_lt k1)).trans k1; replace h' := h'.below hb; clear hb; obtain ⟨p0, p1⟩ := two k0; obtain ⟨q0, q1⟩ := two k1)
        | (go_at_call 46; refine (hR' _ h').mono ?_; rintro e w1 ⟨rfl, hb⟩))
      go_ret
      exact ⟨ret_bool (by simp), Rw.next B1 hb⟩
    | true =>
      rw [hs] at hR'
      go_enter Try.func23, Try.ntmps23
      go_wp2_with (first
        | (go_at_call 46; clear t1; rw [← hW1]; clear hW1; refine (hR _ h).mono ?_; rintro e w1 ⟨rfl, hb⟩; replace B1 := Rw.next B1 hb; replace k0 := (hb.block _ (blk_lt k0)).trans k0; replace k1 := (hb.block _ (blk_lt k1)).trans k1; replace h' := h'.below hb; clear hb; obtain ⟨p0, p1⟩ := two k0; obtain ⟨q0, q1⟩ := two k1)
        | (go_at_call 46; refine (hR' _ h').mono ?_; rintro e w1 ⟨rfl, hb⟩; clear p0 p1 q0 q1; replace B1 := Rw.next B1 hb; replace k0 := (hb.block _ (blk_lt k0)).trans k0; replace k1 := (hb.block _ (blk_lt k1)).trans k1; clear hb; obtain ⟨p0, p1⟩ := two k0; obtain ⟨q0, q1⟩ := two k1))
      go_ret
      exact ⟨ret_bool (by simp only [Bool.true_and]; rfl), B1⟩

set_option maxHeartbeats 1000000 in
theorem twoI_any (x y : Int) (a a' : Option Addr) (b off cap b' off' cap' : Nat) (Q P : List Rm) (w : World) (h : Rd w a b off Q) (h' : Rd w a' b' off' P) :
    Calls Try.prog 98 #[.agg #[.int .i64 x, .slice a Q.length cap], .agg #[.int .i64 y, .slice a' P.length cap']] w fun e w' => e = .returned (.bool (twoB x (said Q) y (said P))) ∧ Below w.heap.size w w' := by
  obtain ⟨W1, hW1⟩ : ∃ W1, W1 = (w.alloc (.cells #[.int .i64 x, .slice a Q.length cap] 51)).alloc (.cells #[.int .i64 y, .slice a' P.length cap'] 51) := ⟨_, rfl⟩
  have B1 : Below w.heap.size w W1 := by subst hW1; exact below_alloc2 _ _ _
  have k0 : W1.heap[w.heap.size]? = some (.cells #[.int .i64 x, .slice a Q.length cap] 51 (0, 0)) := by subst hW1; rw [at_old (by simp), at_new rfl]
  have k1 : W1.heap[w.heap.size + 1]? = some (.cells #[.int .i64 y, .slice a' P.length cap'] 51 (0, 0)) := by subst hW1; rw [at_new (by simp)]
  replace h := h.below B1
  replace h' := h'.below B1
  have hR := fun W h => relI_any x a b off cap Q W h
  have hR' := fun W h => relI_any y a' b' off' cap' P W h
  unfold twoB
  have t1 : True := trivial
  cases hr : relB x (said Q) with
  | false =>
    rw [hr] at hR
    go_enter Try.func98, Try.ntmps98
    go_wp2_with (go_at_call 61; rw [← hW1]; clear hW1; refine (hR _ h).mono ?_; rintro e w1 ⟨rfl, hb⟩)
    go_ret
    exact ⟨ret_bool (by simp), Rw.next B1 hb⟩
  | true =>
    rw [hr] at hR
    cases hs : relB y (said P) with
    | false =>
      rw [hs] at hR'
      go_enter Try.func98, Try.ntmps98
      go_wp2_with (first
        | (go_at_call 61; clear t1; rw [← hW1]; clear hW1; refine (hR _ h).mono ?_; rintro e w1 ⟨rfl, hb⟩; replace B1 := Rw.next B1 hb; replace k0 := (hb.block _ (blk_lt k0)).trans k0; replace k1 := (hb.block _ (blk_lt k1)).trans k1; replace h' := h'.below hb; clear hb; obtain ⟨p0, p1⟩ := two k0; obtain ⟨q0, q1⟩ := two k1)
        | (go_at_call 61; refine (hR' _ h').mono ?_; rintro e w1 ⟨rfl, hb⟩))
      go_ret
      exact ⟨ret_bool (by simp), Rw.next B1 hb⟩
    | true =>
      rw [hs] at hR'
      go_enter Try.func98, Try.ntmps98
      go_wp2_with (first
        | (go_at_call 61; clear t1; rw [← hW1]; clear hW1; refine (hR _ h).mono ?_; rintro e w1 ⟨rfl, hb⟩; replace B1 := Rw.next B1 hb; replace k0 := (hb.block _ (blk_lt k0)).trans k0; replace k1 := (hb.block _ (blk_lt k1)).trans k1; replace h' := h'.below hb; clear hb; obtain ⟨p0, p1⟩ := two k0; obtain ⟨q0, q1⟩ := two k1)
        | (go_at_call 61; refine (hR' _ h').mono ?_; rintro e w1 ⟨rfl, hb⟩; clear p0 p1 q0 q1; replace B1 := Rw.next B1 hb; replace k0 := (hb.block _ (blk_lt k0)).trans k0; replace k1 := (hb.block _ (blk_lt k1)).trans k1; clear hb; obtain ⟨p0, p1⟩ := two k0; obtain ⟨q0, q1⟩ := two k1))
      go_ret
      exact ⟨ret_bool (by simp only [Bool.true_and]; rfl), B1⟩

def sameB (x : Int) (R : List RowL) (y : Int) (S : List RowL) : Bool := twoB x R y S && decide (R = S)
theorem said_ext {Q P : List Rm} (hl : Q.length = P.length) (h : ∀ i, i < Q.length → (Q.getD i rm0).l = (P.getD i rm0).l) : said Q = said P := by
  refine List.ext_getElem (by simp [said, hl]) fun i h1 h2 => ?_
  have hi : i < Q.length := by rw [said_len] at h1; exact h1
  have := h i hi
  rw [← said_at hi, ← said_at (by omega)] at this
  simpa [List.getD, h1, h2] using this

end Go.Proofs.Ytkpchlojapkimaa.Rl
