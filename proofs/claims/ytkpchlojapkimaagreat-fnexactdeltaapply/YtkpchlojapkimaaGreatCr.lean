/-
  A copy of a relation.
-/
import Derived.Test.YtkpchlojapkimaaGreatMq
import Derived.Test.YtkpchlojapkimaaGreatRo
namespace Go.Proofs.YtkpchlojapkimaaGreat.Mp
set_option maxRecDepth 8000
set_option linter.unusedSimpArgs false
set_option linter.unusedVariables false
open Go Go.ChangeShapes Go.WideShapes Go.RowKit
open Num Word Pl Rp
open Rl (Rm rm0 said)
open St (Nm nm0 NL told)

set_option maxHeartbeats 4000000 in
theorem copyRel_any (ar : Int) (a : Option Addr) (b off cap : Nat) (Q : List Rm) (w : World) (h : Rl.Rd w a b off Q) (h4 : Q.length ≤ 100000) :
    Calls Tryz.prog 44 #[.agg #[.int .i64 ar, .slice a Q.length cap]] w (Rl.ResL w ar (said Q)) := by
  obtain ⟨W1, hW1⟩ : ∃ W1, W1 = (w.alloc (.cells #[.int .i64 ar, .slice a Q.length cap] 67)).alloc (.cells #[.int .i64 0, .slice none 0 0] 67) := ⟨_, rfl⟩
  have B1 : Below w.heap.size w W1 := by subst hW1; exact below_alloc2 _ _ _
  have k0 : W1.heap[w.heap.size]? = some (.cells #[.int .i64 ar, .slice a Q.length cap] 67 (0, 0)) := by subst hW1; rw [at_old (by simp), at_new rfl]
  have k1 : W1.heap[w.heap.size + 1]? = some (.cells #[.int .i64 0, .slice none 0 0] 67 (0, 0)) := by subst hW1; exact at_new (by simp)
  have r0 := h.below B1
  obtain ⟨p0, p1⟩ := two k0
  obtain ⟨z0, z1⟩ := two k1
  have f1 := Vl.free k1
  clear h
  go_enter Tryz.func44, Tryz.ntmps44
  go_wp2
  rw [← hW1]
  clear hW1
  go_region_held3 (fun w' => w'.cell? ⟨w.heap.size, 0, none⟩ = some (.int .i64 ar) ∧ w'.cell? ⟨w.heap.size, 1, none⟩ = some (.slice a Q.length cap)) (go_keep) (first
    | (go_at_call 99; clear p0 p1 z0 z1 f1; refine (Rl.rowSet_any _ (.int .i64 0) _ _ _ _).mono ?_; rintro e w2 ⟨rfl, hb⟩; replace hb := Rw.next ((Below.refl _ _).drew) hb; replace B1 := Rw.next B1 hb; replace k0 := (hb.block _ (blk_lt k0)).trans k0; replace k1 := (hb.block _ (blk_lt k1)).trans k1; replace r0 := r0.below hb; clear hb; obtain ⟨p0, p1⟩ := two k0; obtain ⟨z0, z1⟩ := two k1; have f1 := Vl.free k1)
    | (go_at_call 98; clear p0 p1 z0 z1 f1; refine (Rl.relOf_any _ _ _ _ _ _ _ r0 h4).mono ?_; rintro e w3 ⟨v, F, rfl, hot, sF, hb⟩; obtain ⟨ua, un, uc, rfl⟩ := hot.og.slice; replace B1 := Rw.next B1 hb; replace k0 := (hb.block _ (blk_lt k0)).trans k0; have hs1 := blk_lt k1; replace k1 := (hb.block _ (blk_lt k1)).trans k1; have sb := hb.size; clear hb; obtain ⟨p0, p1⟩ := two k0; obtain ⟨z0, z1⟩ := two k1; have f1 := Vl.free k1; have HS : Hid (said F = said Q) := sF; clear sF))
  go_wp2
  have hs := B1.size
  refine bodyPost_ret (v := .agg #[.int .i64 ar, .slice ua un uc]) (by simp [results, Tryz.results44, go_sem, z0, z1]) rfl ⟨.slice ua un uc, F, rfl, ?_, HS.out, ?_⟩
  · refine Rl.OT.mono (B := w2.heap.size) ?_ (by omega)
    refine hot.keep fun z hz hzB => ?_
    repeat (first | rfl | refine (Below.heap_setCell _ _ _ _ (by simp; omega)).trans ?_)
  · repeat (first | with_reducible exact B1 | refine Vl.bset ?_ (by simp <;> omega))

end Go.Proofs.YtkpchlojapkimaaGreat.Mp
