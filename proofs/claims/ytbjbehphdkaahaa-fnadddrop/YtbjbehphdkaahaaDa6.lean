/-
  What FnAddDrop draws.
-/
import Derived.Test.YtbjbehphdkaahaaDa5
namespace Go.Proofs.Ytbjbehphdkaahaa.Dr
set_option maxRecDepth 8000
set_option linter.unusedSimpArgs false
set_option linter.unusedVariables false
open Go Go.RowKit
open Num Rw Pl
open Rl (flatV Rm OG rm0)
open Vl (V2 z2)

theorem below_only {n g : Nat} {w w2 w3 : World} (hb : Below n w w2) (ho : Only g w2 w3) (hg : n ≤ g) (hn : n ≤ w2.heap.size) : Below n w w3 :=
  ⟨ho.os.trans hb.os, ho.tape.trans hb.tape, ho.output.trans hb.output, Nat.le_trans hb.size ho.size, fun k hk => (ho.block k (Nat.lt_of_lt_of_le hk hn) (by simp; omega)).trans (hb.block k hk)⟩

set_option maxHeartbeats 8000000 in
theorem drawadd_any (a : Option Addr) (b off cap : Nat) (c : List Int) (w : World) (h : Rw.Rd w a b off c) :
    Calls Try.prog 19 #[.slice a c.length cap] w fun e w' => ∃ ar va vn vc Q r, e = .returned (.tuple #[.agg #[.int .i64 ar, .slice va vn vc], .agg #[Rm.val r]]) ∧ OR w' w.heap.size (.slice va vn vc) Q ∧ Q.length ≤ 1000 ∧ Rl.NewR w.heap.size w' r ∧ Below w.heap.size w w' := by
  obtain ⟨W1, hW1⟩ : ∃ W1, W1 = (w.alloc (.cells #[.int .i64 0, .slice none 0 0] 25)).alloc (.cells #[.slice none 0 0] 34) := ⟨_, rfl⟩
  have kR : W1.heap[w.heap.size]? = some (.cells #[.int .i64 0, .slice none 0 0] 25 (0, 0)) := by subst hW1; rw [at_old (by simp), at_new rfl]
  have kS : W1.heap[w.heap.size + 1]? = some (.cells #[.slice none 0 0] 34 (0, 0)) := by subst hW1; exact at_new (by simp)
  have B1 : Below w.heap.size w W1 := by subst hW1; exact below_alloc2 _ _ _
  replace h := h.below B1
  have z1 : w.heap.size + 1 < W1.heap.size := blk_lt kS
  go_enter Try.func19, Try.ntmps19
  go_wp2_with (first
    | (go_at_call 40; rw [← hW1]; clear hW1; refine (new_any _ _ _ _ _ _ h).mono ?_; rintro e w2 ⟨rfl, hC, hb⟩; replace kR := (hb.block _ (blk_lt kR)).trans kR; replace kS := (hb.block _ (blk_lt kS)).trans kS; replace B1 := Rw.next B1 hb; clear h hb)
    | (go_at_call 50; refine (withrow_any _ _ _ _ _ _ _ hC).mono ?_; rintro e w3 ⟨ar, va, vn, vc, Q, ⟨da, rb, ro, dc, rl⟩, rfl, orr, hQ, hnr, hC1, hO1⟩; have sA := blk_lt kS; have sB := (cur_in hC).1; obtain ⟨B, hB⟩ : ∃ B, B = w2.heap.size := ⟨_, rfl⟩; rw [← hB] at orr hnr sA sB; replace kR := only_at hO1 kR (by omega); replace kS := only_at hO1 kS (by omega); replace B1 := below_only B1 hO1 (by omega) (by omega); have zB : B ≤ w3.heap.size := (by rw [hB]; exact hO1.size); clear hC hC1 hO1 hB; simp only [Rm.val]))
  obtain ⟨ab, hab⟩ : ∃ ab, ab = w3.heap.size := ⟨_, rfl⟩
  obtain ⟨W5, hW5⟩ : ∃ W5, W5 = (w3.alloc (.cells #[.int .i64 ar, .slice va vn vc] 25)).alloc (.cells #[.slice da rl.length dc] 34) := ⟨_, rfl⟩
  have kA : W5.heap[ab]? = some (.cells #[.int .i64 ar, .slice va vn vc] 25 (0, 0)) := by subst hW5; rw [at_old (by simp [hab]), at_new hab]
  have kB : W5.heap[ab + 1]? = some (.cells #[.slice da rl.length dc] 34 (0, 0)) := by subst hW5; exact at_new (by simp [hab])
  have hb : Below w3.heap.size w3 W5 := by subst hW5; exact below_alloc2 _ _ _
  have hBa : B ≤ ab := by omega
  replace kR := (hb.block _ (blk_lt kR)).trans kR
  replace kS := (hb.block _ (blk_lt kS)).trans kS
  replace B1 := Rw.next B1 hb
  replace orr := orr.below hb
  replace hnr := hnr.below hb
  clear hb
  rw [← hW5, ← hab]
  clear hW5 hab
  obtain ⟨o0, o1⟩ := two kA
  have t0 := one kB
  obtain ⟨r0, r1⟩ := two kR
  have s0 := one kS
  have fR := Vl.free kR
  have fS := Vl.free kS
  go_region
  go_wp2
  all_goals
    refine bodyPost_ret (v := .tuple #[.agg #[.int .i64 ar, .slice va vn vc], .agg #[.slice da rl.length dc]]) (by simp [results, Try.results19, go_sem, r0, r1, s0]) rfl ⟨ar, va, vn, vc, Q, ⟨da, rb, ro, dc, rl⟩, rfl, ?_, hQ, ?_, ?_⟩
    · refine OR.mono (B := B) ?_ (by omega); refine OR.below (w := _) ?_ ((Below.refl _ _).drew); repeat (first | with_reducible exact orr | refine OR.set ?_ (by simp only; omega))
    · refine Rl.NewR.mono (lo := B) ?_ (by omega); repeat (first | with_reducible exact hnr | refine Rl.NewR.keep ?_ (fun h0 => Below.heap_setCell _ _ _ _ (by have := (hnr.own h0).2.1; simp only at this ⊢; omega)))
    · refine Below.drew ?_; repeat (first | with_reducible exact B1 | refine Vl.bset ?_ (by simp only; omega))

end Go.Proofs.Ytbjbehphdkaahaa.Dr
