/-
  RelUnion, RelMinus, RelBoth, RelAdd, RelDrop of the program.
-/
import Derived.Test.YtkpchlojapkimaaGreatRv
namespace Go.Proofs.YtkpchlojapkimaaGreat.Rl
set_option maxRecDepth 8000
set_option linter.unusedSimpArgs false
set_option linter.unusedVariables false
open Go Go.RowKit
open Num Word Pl Rp

/-- What is said of two relations merged. -/
def MA (st : Int → Bool) (x : Int) (R : List RowL) (y : Int) (S : List RowL) (ar : Int) (X : List RowL) (c : Int) : Prop :=
  if twoB x R y S = true then (if (mergeL st R S).length ≤ 300 then ar = x ∧ X = mergeL st R S ∧ c = 0 else ar = 0 ∧ X = [] ∧ c = 2) else ar = 0 ∧ X = [] ∧ c = 1
theorem MA_some (st : Int → Bool) (x : Int) (R : List RowL) (y : Int) (S : List RowL) : ∃ ar X c, MA st x R y S ar X c ∧ X.length ≤ 300 := by
  unfold MA
  split
  · split
    · rename_i h; exact ⟨_, _, _, ⟨rfl, rfl, rfl⟩, h⟩
    · exact ⟨_, _, _, ⟨rfl, rfl, rfl⟩, by simp⟩
  · exact ⟨_, _, _, ⟨rfl, rfl, rfl⟩, by simp⟩
theorem eq_zero (c : Int) : (c == 0) = decide (c = 0) := rfl

set_option maxHeartbeats 2000000 in
theorem unionI_any (x y : Int) (a a' : Option Addr) (b off cap b' off' cap' : Nat) (Q P : List Rm) (w : World) (h : Rd w a b off Q) (h' : Rd w a' b' off' P) (hc : Q.length ≤ cap) (hc' : P.length ≤ cap') (ar : Int) (X : List RowL) (c : Int) (hA : MA stAll x (said Q) y (said P) ar X c) :
    Calls Tryz.prog 139 #[.agg #[.int .i64 x, .slice a Q.length cap], .agg #[.int .i64 y, .slice a' P.length cap']] w (ResC w ar X (.bool (c == 0))) := by
  obtain ⟨W1, hW1⟩ : ∃ W1, W1 = ((w.alloc (.cells #[.int .i64 x, .slice a Q.length cap] 67)).alloc (.cells #[.int .i64 y, .slice a' P.length cap'] 67)).alloc (.cells #[.int .i64 0, .slice none 0 0] 67) := ⟨_, rfl⟩
  have B1 : Below w.heap.size w W1 := by subst hW1; exact Rw.next (Rw.next (below_alloc1 _ _) (below_alloc1 _ _)) (below_alloc1 _ _)
  have k2 : W1.heap[w.heap.size + 1 + 1]? = some (.cells #[.int .i64 0, .slice none 0 0] 67 (0, 0)) := by subst hW1; exact at_new (by simp)
  have l2 := blk_lt k2
  have hM := mrel43 x y a a' b off cap b' off' cap' Q P W1 (h.below B1) (h'.below B1) hc hc' ar X c hA
  have sB := B1.size
  clear hA
  go_enter Tryz.func139, Tryz.ntmps139
  go_wp2_with (go_at_call 116; rw [← hW1]; clear hW1; refine hM.mono ?_; rintro e w4 ⟨v4, F4, rfl, hot, sF4, hb⟩; replace B1 := Rw.next B1 hb; replace k2 := (hb.block _ l2).trans k2; have sb := hb.size; clear hb; obtain ⟨r0, r1⟩ := two k2; have f2 := Vl.free k2; have l4 := blk_lt k2; obtain ⟨ua, un, uc, hv⟩ := hot.og.slice; subst hv; have HS4 : Hid (said F4 = X) := sF4; clear sF4)
  have kk : (((w4.setCell ⟨w.heap.size + 1 + 1, 0, none⟩ (.int .i64 ar)).setCell ⟨w.heap.size + 1 + 1, 1, none⟩ (.slice ua un uc)).alloc (.cells #[.int .i64 ar, .slice ua un uc] 67)).heap[w.heap.size + 1 + 1]? = some (.cells #[.int .i64 ar, .slice ua un uc] 67 (0, 0)) := (at_old (by simp; exact l4)).trans (two_set1 (two_set0 k2))
  obtain ⟨c0, c1⟩ := two kk
  refine bodyPost_ret (v := .tuple #[.agg #[.int .i64 ar, .slice ua un uc], .bool (c == 0)]) (by simp [results, Tryz.results139, go_sem, c0, c1]) rfl ⟨.slice ua un uc, F4, rfl, ?_, HS4.out, ?_⟩
  · refine OT.mono (B := W1.heap.size) ?_ sB
    refine hot.keep fun z hz hzB => ?_
    repeat (first | rfl | (rw [Below.heap_alloc _ _ _ (by first | exact hz | (simp; exact hz))]) | refine (Below.heap_setCell _ _ _ _ (by simp; omega)).trans ?_)
  · have hbs := B1.size
    repeat (first | with_reducible exact B1 | refine Vl.bset ?_ (by simp <;> omega) | refine Below.alloc ?_ (by simp <;> omega) _)

set_option maxHeartbeats 2000000 in
theorem minusI_any (x y : Int) (a a' : Option Addr) (b off cap b' off' cap' : Nat) (Q P : List Rm) (w : World) (h : Rd w a b off Q) (h' : Rd w a' b' off' P) (hc : Q.length ≤ cap) (hc' : P.length ≤ cap') (ar : Int) (X : List RowL) (c : Int) (hA : MA stOne x (said Q) y (said P) ar X c) :
    Calls Tryz.prog 65 #[.agg #[.int .i64 x, .slice a Q.length cap], .agg #[.int .i64 y, .slice a' P.length cap']] w (ResC w ar X (.bool (c == 0))) := by
  obtain ⟨W1, hW1⟩ : ∃ W1, W1 = ((w.alloc (.cells #[.int .i64 x, .slice a Q.length cap] 67)).alloc (.cells #[.int .i64 y, .slice a' P.length cap'] 67)).alloc (.cells #[.int .i64 0, .slice none 0 0] 67) := ⟨_, rfl⟩
  have B1 : Below w.heap.size w W1 := by subst hW1; exact Rw.next (Rw.next (below_alloc1 _ _) (below_alloc1 _ _)) (below_alloc1 _ _)
  have k2 : W1.heap[w.heap.size + 1 + 1]? = some (.cells #[.int .i64 0, .slice none 0 0] 67 (0, 0)) := by subst hW1; exact at_new (by simp)
  have l2 := blk_lt k2
  have hM := mrel47 x y a a' b off cap b' off' cap' Q P W1 (h.below B1) (h'.below B1) hc hc' ar X c hA
  have sB := B1.size
  clear hA
  go_enter Tryz.func65, Tryz.ntmps65
  go_wp2_with (go_at_call 116; rw [← hW1]; clear hW1; refine hM.mono ?_; rintro e w4 ⟨v4, F4, rfl, hot, sF4, hb⟩; replace B1 := Rw.next B1 hb; replace k2 := (hb.block _ l2).trans k2; have sb := hb.size; clear hb; obtain ⟨r0, r1⟩ := two k2; have f2 := Vl.free k2; have l4 := blk_lt k2; obtain ⟨ua, un, uc, hv⟩ := hot.og.slice; subst hv; have HS4 : Hid (said F4 = X) := sF4; clear sF4)
  have kk : (((w4.setCell ⟨w.heap.size + 1 + 1, 0, none⟩ (.int .i64 ar)).setCell ⟨w.heap.size + 1 + 1, 1, none⟩ (.slice ua un uc)).alloc (.cells #[.int .i64 ar, .slice ua un uc] 67)).heap[w.heap.size + 1 + 1]? = some (.cells #[.int .i64 ar, .slice ua un uc] 67 (0, 0)) := (at_old (by simp; exact l4)).trans (two_set1 (two_set0 k2))
  obtain ⟨c0, c1⟩ := two kk
  refine bodyPost_ret (v := .tuple #[.agg #[.int .i64 ar, .slice ua un uc], .bool (c == 0)]) (by simp [results, Tryz.results65, go_sem, c0, c1]) rfl ⟨.slice ua un uc, F4, rfl, ?_, HS4.out, ?_⟩
  · refine OT.mono (B := W1.heap.size) ?_ sB
    refine hot.keep fun z hz hzB => ?_
    repeat (first | rfl | (rw [Below.heap_alloc _ _ _ (by first | exact hz | (simp; exact hz))]) | refine (Below.heap_setCell _ _ _ _ (by simp; omega)).trans ?_)
  · have hbs := B1.size
    repeat (first | with_reducible exact B1 | refine Vl.bset ?_ (by simp <;> omega) | refine Below.alloc ?_ (by simp <;> omega) _)

set_option maxHeartbeats 2000000 in
theorem bothI_any (x y : Int) (a a' : Option Addr) (b off cap b' off' cap' : Nat) (Q P : List Rm) (w : World) (h : Rd w a b off Q) (h' : Rd w a' b' off' P) (hc : Q.length ≤ cap) (hc' : P.length ≤ cap') (ar : Int) (X : List RowL) (c : Int) (hA : MA stTwo x (said Q) y (said P) ar X c) :
    Calls Tryz.prog 66 #[.agg #[.int .i64 x, .slice a Q.length cap], .agg #[.int .i64 y, .slice a' P.length cap']] w (ResC w ar X (.bool (c == 0))) := by
  obtain ⟨W1, hW1⟩ : ∃ W1, W1 = ((w.alloc (.cells #[.int .i64 x, .slice a Q.length cap] 67)).alloc (.cells #[.int .i64 y, .slice a' P.length cap'] 67)).alloc (.cells #[.int .i64 0, .slice none 0 0] 67) := ⟨_, rfl⟩
  have B1 : Below w.heap.size w W1 := by subst hW1; exact Rw.next (Rw.next (below_alloc1 _ _) (below_alloc1 _ _)) (below_alloc1 _ _)
  have k2 : W1.heap[w.heap.size + 1 + 1]? = some (.cells #[.int .i64 0, .slice none 0 0] 67 (0, 0)) := by subst hW1; exact at_new (by simp)
  have l2 := blk_lt k2
  have hM := mrel48 x y a a' b off cap b' off' cap' Q P W1 (h.below B1) (h'.below B1) hc hc' ar X c hA
  have sB := B1.size
  clear hA
  go_enter Tryz.func66, Tryz.ntmps66
  go_wp2_with (go_at_call 116; rw [← hW1]; clear hW1; refine hM.mono ?_; rintro e w4 ⟨v4, F4, rfl, hot, sF4, hb⟩; replace B1 := Rw.next B1 hb; replace k2 := (hb.block _ l2).trans k2; have sb := hb.size; clear hb; obtain ⟨r0, r1⟩ := two k2; have f2 := Vl.free k2; have l4 := blk_lt k2; obtain ⟨ua, un, uc, hv⟩ := hot.og.slice; subst hv; have HS4 : Hid (said F4 = X) := sF4; clear sF4)
  have kk : (((w4.setCell ⟨w.heap.size + 1 + 1, 0, none⟩ (.int .i64 ar)).setCell ⟨w.heap.size + 1 + 1, 1, none⟩ (.slice ua un uc)).alloc (.cells #[.int .i64 ar, .slice ua un uc] 67)).heap[w.heap.size + 1 + 1]? = some (.cells #[.int .i64 ar, .slice ua un uc] 67 (0, 0)) := (at_old (by simp; exact l4)).trans (two_set1 (two_set0 k2))
  obtain ⟨c0, c1⟩ := two kk
  refine bodyPost_ret (v := .tuple #[.agg #[.int .i64 ar, .slice ua un uc], .bool (c == 0)]) (by simp [results, Tryz.results66, go_sem, c0, c1]) rfl ⟨.slice ua un uc, F4, rfl, ?_, HS4.out, ?_⟩
  · refine OT.mono (B := W1.heap.size) ?_ sB
    refine hot.keep fun z hz hzB => ?_
    repeat (first | rfl | (rw [Below.heap_alloc _ _ _ (by first | exact hz | (simp; exact hz))]) | refine (Below.heap_setCell _ _ _ _ (by simp; omega)).trans ?_)
  · have hbs := B1.size
    repeat (first | with_reducible exact B1 | refine Vl.bset ?_ (by simp <;> omega) | refine Below.alloc ?_ (by simp <;> omega) _)

theorem one_rd {w : World} {g : Nat} {r : Rm} (k : w.heap[g]? = some (.cells #[r.val] 107 (0, 0))) (h : r.Ok w) : Rd w (some ⟨g, 0, none⟩) g 0 [r] := by
  refine ⟨fun _ => rfl, fun i hi => ?_, fun i hi => ?_, by simp⟩
  · obtain rfl : i = 0 := by simp at hi; exact hi
    simpa [List.getD] using one k
  · obtain rfl : i = 0 := by simp at hi; exact hi
    simpa [List.getD] using h

end Go.Proofs.YtkpchlojapkimaaGreat.Rl
