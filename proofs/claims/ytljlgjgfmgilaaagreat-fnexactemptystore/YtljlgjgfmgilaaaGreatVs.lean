/-
  The specification's order of rows; both RowOrder.
-/
import Derived.Test.YtljlgjgfmgilaaaGreatVr
namespace Go.Proofs.YtljlgjgfmgilaaaGreat.Vl
set_option maxRecDepth 8000
set_option linter.unusedSimpArgs false
set_option linter.unusedVariables false
open Go Go.RowKit
open Num Word Pl

/-- What both RowOrder answer. -/
def rordB (l m : List V2) : Int := if (rowB l && rowB m) = true then ordRow l m else 2

set_option maxHeartbeats 1000000 in
theorem rorderI_any (a a' : Option Addr) (b off cap b' off' cap' : Nat) (l m : List V2) (w : World) (h : Rd w a b off l) (h' : Rd w a' b' off' m) :
    Calls Tryz.prog 121 #[.agg #[.slice a l.length cap], .agg #[.slice a' m.length cap']] w fun e w' => e = .returned (.int .i64 (rordB l m)) ∧ Below w.heap.size w w' := by
  obtain ⟨W1, hW1⟩ : ∃ W1, W1 = (w.alloc (.cells #[.slice a l.length cap] 149)).alloc (.cells #[.slice a' m.length cap'] 149) := ⟨_, rfl⟩
  have B1 : Below w.heap.size w W1 := by subst hW1; exact below_alloc2 _ _ _
  have k0 : W1.heap[w.heap.size]? = some (.cells #[.slice a l.length cap] 149 (0, 0)) := by subst hW1; rw [at_old (by simp), at_new rfl]
  have k1 : W1.heap[w.heap.size + 1]? = some (.cells #[.slice a' m.length cap'] 149 (0, 0)) := by subst hW1; rw [at_new (by simp)]
  replace h := h.below B1
  replace h' := h'.below B1
  have hA := fun W h => rowI_any a b off cap l W h
  have hB := fun W h => rowI_any a' b' off' cap' m W h
  have hC := fun W h h' => compare_any a a' b off cap b' off' cap' l m W h h'
  have t1 : True := trivial
  unfold rordB
  cases hx : rowB l with
  | false =>
    rw [hx] at hA
    go_enter Tryz.func121, Tryz.ntmps121
    go_wp2_with (go_at_call 145; rw [← hW1]; clear hW1; refine (hA _ h).mono ?_; rintro e w1 ⟨rfl, hb⟩)
    go_ret
    exact ⟨rfl, Rw.next B1 hb⟩
  | true =>
    rw [hx] at hA
    cases hy : rowB m with
    | false =>
      rw [hy] at hB
      go_enter Tryz.func121, Tryz.ntmps121
      go_wp2_with (first
        | (go_at_call 145; clear t1; rw [← hW1]; clear hW1; refine (hA _ h).mono ?_; rintro e w1 ⟨rfl, hb⟩; replace B1 := Rw.next B1 hb; replace k0 := (hb.block _ (blk_lt k0)).trans k0; replace k1 := (hb.block _ (blk_lt k1)).trans k1; replace h' := h'.below hb; clear hb; have p0 := one k0; have p1 := one k1)
        | (go_at_call 145; refine (hB _ h').mono ?_; rintro e w1 ⟨rfl, hb⟩))
      go_ret
      exact ⟨rfl, Rw.next B1 hb⟩
    | true =>
      rw [hy] at hB
      have hl := (row_at hx).2
      have hm := (row_at hy).2
      have HC : Hid (∀ W, Rd W a b off l → Rd W a' b' off' m → Calls Tryz.prog 146 #[.slice a l.length cap, .slice a' m.length cap', .func (.func 147) #[] #[]] W fun e w' => e = .returned (.int .i64 (ordRow l m)) ∧ Below W.heap.size W w') := fun W h h' => hC W h h' hl hm
      clear hC hl hm
      go_enter Tryz.func121, Tryz.ntmps121
      go_wp2_with (first
        | (go_at_call 145; clear t1; rw [← hW1]; clear hW1; refine (hA _ h).mono ?_; rintro e w1 ⟨rfl, hb⟩; replace B1 := Rw.next B1 hb; replace k0 := (hb.block _ (blk_lt k0)).trans k0; replace k1 := (hb.block _ (blk_lt k1)).trans k1; replace h := h.below hb; replace h' := h'.below hb; clear hb; have p0 := one k0; have p1 := one k1)
        | (go_at_call 145; refine (hB _ h').mono ?_; rintro e w1 ⟨rfl, hb⟩; clear p0 p1; replace B1 := Rw.next B1 hb; replace k0 := (hb.block _ (blk_lt k0)).trans k0; replace k1 := (hb.block _ (blk_lt k1)).trans k1; replace h := h.below hb; replace h' := h'.below hb; clear hb; have p0 := one k0; have p1 := one k1)
        | (go_at_call 146; refine (HC.out _ h h').mono ?_; rintro e w1 ⟨rfl, hb⟩))
      go_ret
      exact ⟨rfl, Rw.next B1 hb⟩

end Go.Proofs.YtljlgjgfmgilaaaGreat.Vl
