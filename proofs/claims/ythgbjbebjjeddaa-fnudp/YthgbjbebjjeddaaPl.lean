/-
  Contracts of the law's helpers over packets: the size, a copy, held against each other, marks.
-/
import Derived.Test.YthgbjbebjjeddaaPk
namespace Go.Proofs.Ythgbjbebjjeddaa.Pl
open Go.RowKit
open Num Rw Mk

theorem below_alloc1 (w : World) (o : Obj) : Below w.heap.size w (w.alloc o) := (Below.refl _ _).alloc (Nat.le_refl _) o
theorem below_only {g : Nat} {w w1 w2 : World} (hb : Below w.heap.size w w1) (h : Only g w1 w2) : Only g w w2 :=
  ⟨h.os.trans hb.os, h.tape.trans hb.tape, h.output.trans hb.output, Nat.le_trans hb.size h.size, fun k hk hne => (h.block k (Nat.lt_of_lt_of_le hk hb.size) hne).trans (hb.block k hk)⟩

theorem Bl.cell {w : World} {g : Nat} {cs : Array Value} {t : TypeId} {fr : Nat × Nat} (h : w.heap[g]? = some (.cells cs t fr)) (i : Nat) : w.cell? ⟨g, i, none⟩ = cs[i]? := by simp [World.cell?, h]
theorem Bl.free {w : World} {g : Nat} {cs : Array Value} {t : TypeId} (h : w.heap[g]? = some (.cells cs t (0, 0))) (i : Nat) : w.frozen? ⟨g, i, none⟩ = false := by simp [World.frozen?, h]

theorem at_new {w : World} {n : Nat} {cs : Array Value} {t : TypeId} (h : n = w.heap.size) : (w.alloc (.cells cs t)).heap[n]? = some (.cells cs t (0, 0)) := by subst h; exact heap_alloc_new _ _
theorem at_old {w : World} {n : Nat} {o : Obj} (h : n < w.heap.size) : (w.alloc o).heap[n]? = w.heap[n]? := (below_alloc1 w o).block n h
theorem mine_set {w : World} {g : Nat} {l : List Int} {a : Addr} {u : Value} (h : Mine w g l) (hne : ¬ a.block = g) : Mine (w.setCell a u) g l :=
  ⟨h.row.of_block (Below.heap_setCell w a u g (fun e => hne e.symm)), h.size, h.byt⟩

theorem sz_small (d s t y : Int) (a : Option Addr) (n c : Nat) (w : World) (h : n ≤ 1048576) :
    Calls Try.prog 24 #[.agg #[.int .i64 d, .int .i64 s, .int .i64 t, .int .i64 y, .slice a n c], .int .i64 1048576] w fun e w' => e = .returned (.int .i64 (1048576 - (n : Int))) ∧ Below w.heap.size w w' := by
  have h0 : ¬ (1048576 - (n : Int) < 0) := by omega
  go_enter Try.func24, Try.ntmps24
  go_wp2
  go_ret
  exact ⟨rfl, below_alloc1 _ _⟩

theorem sz_big (d s t y : Int) (a : Option Addr) (n c : Nat) (w : World) (h : 1048576 < n) (hm : n ≤ maxLen) :
    Calls Try.prog 24 #[.agg #[.int .i64 d, .int .i64 s, .int .i64 t, .int .i64 y, .slice a n c], .int .i64 1048576] w fun e w' => e = .returned (.int .i64 (-1)) ∧ Below w.heap.size w w' := by
  unfold maxLen at hm
  have h0 : 1048576 - (n : Int) < 0 := by omega
  go_enter Try.func24, Try.ntmps24
  go_wp2
  go_ret
  exact ⟨rfl, below_alloc1 _ _⟩

set_option maxHeartbeats 1000000 in
theorem toPacket_any (d s t y : Int) (a : Option Addr) (b off cap : Nat) (l : List Int) (w : World) (h : Rd w a b off l) :
    Calls Try.prog 26 #[.agg #[.int .i64 d, .int .i64 s, .int .i64 t, .int .i64 y, .slice a l.length cap]] w fun e w' => ∃ g, e = .returned (.agg #[.int .i64 d, .int .i64 s, .int .i64 t, .int .i64 y, .slice (some ⟨g, 0, none⟩) l.length l.length]) ∧ Below w.heap.size w w' ∧ w.heap.size ≤ g ∧ Mine w' g l := by
  obtain ⟨W0, hW0⟩ : ∃ W0, W0 = ((w.alloc (.cells #[.int .i64 d, .int .i64 s, .int .i64 t, .int .i64 y, .slice a l.length cap] 55)).alloc (.cells #[.int .i64 0, .int .i64 0, .int .i64 0, .int .i64 0, .slice none 0 0] 28)).alloc (.cells #[.int .i64 d, .int .i64 s, .int .i64 t, .int .i64 y, .slice none 0 0] 28) := ⟨_, rfl⟩
  have B0 : Below w.heap.size w W0 := by subst hW0; exact next (next (below_alloc1 _ _) (below_alloc1 _ _)) (below_alloc1 _ _)
  have z0 : W0.heap.size = w.heap.size + 3 := by subst hW0; simp
  have k1 : W0.heap[w.heap.size + 1]? = some (.cells #[.int .i64 0, .int .i64 0, .int .i64 0, .int .i64 0, .slice none 0 0] 28 (0, 0)) := by subst hW0; rw [at_old (by simp), at_new (by simp)]
  have k2 : W0.heap[w.heap.size + 2]? = some (.cells #[.int .i64 d, .int .i64 s, .int .i64 t, .int .i64 y, .slice none 0 0] 28 (0, 0)) := by subst hW0; rw [at_new (by simp)]
  have h0 := h.below B0
  clear h
  go_enter Try.func26, Try.ntmps26
  go_wp2_with (go_at_call 69; rw [← hW0]; refine (toByteS_any _ _ _ _ _ _ h0).mono ?_; rintro e wa ⟨rfl, hba, hma⟩; replace k1 := (hba.block _ (by omega)).trans k1; replace k2 := (hba.block _ (by omega)).trans k2; have c10 := Bl.cell k1 0; have c11 := Bl.cell k1 1; have c12 := Bl.cell k1 2; have c13 := Bl.cell k1 3; have c14 := Bl.cell k1 4; have c20 := Bl.cell k2 0; have c21 := Bl.cell k2 1; have c22 := Bl.cell k2 2; have c23 := Bl.cell k2 3; have c24 := Bl.cell k2 4; have f1 := Bl.free k1; have f2 := Bl.free k2; simp at c10 c11 c12 c13 c14 c20 c21 c22 c23 c24)
  refine bodyPost_ret (v := .agg #[.int .i64 d, .int .i64 s, .int .i64 t, .int .i64 y, .slice (some ⟨w.heap.size + 1 + 1 + 1, 0, none⟩) l.length l.length]) (by simp [results, Try.results26, go_sem, c10, c11, c12, c13, c14]) rfl ⟨_, rfl, ?_, by omega, ?_⟩
  · have B1 := next B0 hba
    exact (((((B1.setCell (by simp <;> omega) _).setCell (by simp) _).setCell (by simp) _).setCell (by simp) _).setCell (by simp) _).setCell (by simp) _
  · rw [z0] at hma
    exact mine_set (mine_set (mine_set (mine_set (mine_set (mine_set hma (by simp)) (by simp)) (by simp)) (by simp)) (by simp)) (by simp)

set_option maxHeartbeats 1000000 in
theorem eqPacket_same (d s t y : Int) (a a' : Option Addr) (b off cap b' off' cap' : Nat) (l : List Int) (w : World) (h : Rd w a b off l) (h' : Rd w a' b' off' l) :
    Calls Try.prog 27 #[.agg #[.int .i64 d, .int .i64 s, .int .i64 t, .int .i64 y, .slice a l.length cap], .agg #[.int .i64 d, .int .i64 s, .int .i64 t, .int .i64 y, .slice a' l.length cap']] w fun e w' => e = .returned (.bool true) ∧ Below w.heap.size w w' := by
  have B := next (below_alloc1 w (.cells #[.int .i64 d, .int .i64 s, .int .i64 t, .int .i64 y, .slice a l.length cap] 28)) (below_alloc1 _ (.cells #[.int .i64 d, .int .i64 s, .int .i64 t, .int .i64 y, .slice a' l.length cap'] 28))
  have hr := h.below B
  have hr' := h'.below B
  go_enter Try.func27, Try.ntmps27
  go_wp2_with (go_at_call 70; refine (eqByteS_any _ _ _ _ _ _ _ _ _ _ _ hr hr').mono ?_; rw [decide_eq_true rfl]; rintro e w' ⟨rfl, hb⟩)
  go_ret
  exact ⟨rfl, next B hb⟩

set_option maxHeartbeats 1000000 in
theorem markPacket_any (d s t y : Int) (a : Option Addr) (g cap : Nat) (l : List Int) (w : World) (h : Wt w a g l) :
    Calls Try.prog 28 #[.agg #[.int .i64 d, .int .i64 s, .int .i64 t, .int .i64 y, .slice a l.length cap], .int .i64 1] w fun e w' => e = .returned (.int .i64 (1 + (l.length : Int))) ∧ Only g w w' ∧ Wt w' a g (marks l.length) := by
  have B := below_alloc1 w (.cells #[.int .i64 d, .int .i64 s, .int .i64 t, .int .i64 y, .slice a l.length cap] 28)
  have hr := h.below B
  go_enter Try.func28, Try.ntmps28
  go_wp2_with (go_at_call 71; refine (mark_any _ _ _ _ _ hr).mono ?_; rintro e w' ⟨rfl, ho, hw⟩)
  go_ret
  exact ⟨rfl, below_only B ho, hw⟩

end Go.Proofs.Ythgbjbebjjeddaa.Pl
