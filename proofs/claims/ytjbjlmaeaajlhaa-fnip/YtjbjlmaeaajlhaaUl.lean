/-
  Contracts of the law's helpers over inner datagrams: the size, a copy, held against each other, marks; opening an argument that is one.
-/
import Derived.Test.YtjbjlmaeaajlhaaLw
namespace Go.Proofs.Ytjbjlmaeaajlhaa.Ul
open Go.ChangeShapes Go.WideShapes Go.RowKit
open Num Rw Mk Pl Pf

theorem array3 {α : Type} {cs : Array α} (h : cs.size = 3) : ∃ c0 c1 c2, cs = #[c0, c1, c2] := by
  obtain ⟨l⟩ := cs
  match l, h with
  | [c0, c1, c2], _ => exact ⟨c0, c1, c2, rfl⟩

theorem three {w : World} {g : Nat} {v0 v1 v2 : Value} {t : TypeId} {fr : Nat × Nat} (k : w.heap[g]? = some (.cells #[v0, v1, v2] t fr)) :
    w.cell? ⟨g, 0, none⟩ = some v0 ∧ w.cell? ⟨g, 1, none⟩ = some v1 ∧ w.cell? ⟨g, 2, none⟩ = some v2 := by
  simp [World.cell?, k]

theorem open_udp {H : Type} {enc : TypeId × Value → H} {W : World} {r : Reach} {b0 : Nat} {v : Value} {d : DataW H} {p : List MemPlace}
    (hv : Value.okWide Try.prog W r b0 43 v) (h : DataW.Trod enc Try.prog W 0 (fun _ => true) true 43 v d p) :
    ∃ (x0 x1 : Int) (a : Option Addr) (len cap : Nat) (zs : List Int), v = .agg #[.int .i64 x0, .int .i64 x1, .slice a len cap] ∧ Rw.IsRow .u8 W a len cap zs := by
  obtain ⟨cs, rfl, hsz⟩ := okWide_struct Try.underlying43 hv
  have hC : Try.prog.cellsOf 43 = 3 := by kernel_rfl
  have h3 : Try.prog.cellsOf 3 = 1 := by kernel_rfl
  have h22 : Try.prog.cellsOf 22 = 1 := by kernel_rfl
  obtain ⟨c0, c1, c2, rfl⟩ := array3 (hsz.trans hC)
  obtain ⟨fuel, hf⟩ := h
  obtain ⟨xs, n, _, _, _, hlen, hx⟩ := DataW.trod_struct Try.underlying43 hf
  have hlen3 : xs.length = 3 := by simpa using hlen
  obtain ⟨y0, e0⟩ := some_of_len hlen3 (i := 0) (by omega)
  obtain ⟨y1, e1⟩ := some_of_len hlen3 (i := 1) (by omega)
  obtain ⟨y2, e2⟩ := some_of_len hlen3 (i := 2) (by omega)
  have t0 := (hx 0 _ rfl).trans e0
  have t1 := (hx 1 _ rfl).trans e1
  have t2 := (hx 2 _ rfl).trans e2
  simp [Value.cells, h3, h22] at t0 t1 t2
  obtain ⟨x0, q0, _, _⟩ := DataW.trod_int Try.underlying3 t0
  obtain ⟨x1, q1, _, _⟩ := DataW.trod_int Try.underlying3 t1
  simp at q0 q1
  subst q0 q1
  rcases open_ints Try.underlying22 Try.underlying5 (by kernel_rfl) t2 with ⟨hcs, _⟩ | ⟨x, l, c, zs, hcs, _, hl, hm, hz, _, hcell, hwz⟩
  · simp at hcs
    subst hcs
    exact ⟨x0, x1, _, _, _, [], rfl, .inl ⟨rfl, rfl, rfl, rfl⟩⟩
  · simp at hcs
    subst hcs
    exact ⟨x0, x1, _, _, _, zs, rfl, .inr ⟨_, rfl, hl, hm, by simpa using hz, hcell, hwz⟩⟩

theorem sz_small (d s : Int) (a : Option Addr) (n c : Nat) (w : World) (h : n ≤ 1048576) :
    Calls Try.prog 29 #[.agg #[.int .i64 d, .int .i64 s, .slice a n c], .int .i64 1048576] w fun e w' => e = .returned (.int .i64 (1048576 - (n : Int))) ∧ Below w.heap.size w w' := by
  have h0 : ¬ (1048576 - (n : Int) < 0) := by omega
  go_enter Try.func29, Try.ntmps29
  go_wp2
  go_ret
  exact ⟨rfl, below_alloc1 _ _⟩

theorem sz_big (d s : Int) (a : Option Addr) (n c : Nat) (w : World) (h : 1048576 < n) (hm : n ≤ maxLen) :
    Calls Try.prog 29 #[.agg #[.int .i64 d, .int .i64 s, .slice a n c], .int .i64 1048576] w fun e w' => e = .returned (.int .i64 (-1)) ∧ Below w.heap.size w w' := by
  unfold maxLen at hm
  have h0 : 1048576 - (n : Int) < 0 := by omega
  go_enter Try.func29, Try.ntmps29
  go_wp2
  go_ret
  exact ⟨rfl, below_alloc1 _ _⟩

set_option maxHeartbeats 1000000 in
theorem toUdp_any (d s : Int) (a : Option Addr) (b off cap : Nat) (l : List Int) (w : World) (h : Rd w a b off l) :
    Calls Try.prog 31 #[.agg #[.int .i64 d, .int .i64 s, .slice a l.length cap]] w fun e w' => ∃ g, e = .returned (.agg #[.int .i64 d, .int .i64 s, .slice (some ⟨g, 0, none⟩) l.length l.length]) ∧ Below w.heap.size w w' ∧ w.heap.size ≤ g ∧ Mine w' g l := by
  obtain ⟨W0, hW0⟩ : ∃ W0, W0 = ((w.alloc (.cells #[.int .i64 d, .int .i64 s, .slice a l.length cap] 43)).alloc (.cells #[.int .i64 0, .int .i64 0, .slice none 0 0] 46)).alloc (.cells #[.int .i64 d, .int .i64 s, .slice none 0 0] 46) := ⟨_, rfl⟩
  have B0 : Below w.heap.size w W0 := by subst hW0; exact next (next (below_alloc1 _ _) (below_alloc1 _ _)) (below_alloc1 _ _)
  have z0 : W0.heap.size = w.heap.size + 3 := by subst hW0; simp
  have k1 : W0.heap[w.heap.size + 1]? = some (.cells #[.int .i64 0, .int .i64 0, .slice none 0 0] 46 (0, 0)) := by subst hW0; rw [at_old (by simp), at_new (by simp)]
  have k2 : W0.heap[w.heap.size + 2]? = some (.cells #[.int .i64 d, .int .i64 s, .slice none 0 0] 46 (0, 0)) := by subst hW0; rw [at_new (by simp)]
  have h0 := h.below B0
  clear h
  go_enter Try.func31, Try.ntmps31
  go_wp2_with (go_at_call 24; rw [← hW0]; refine (toByteS_any _ _ _ _ _ _ h0).mono ?_; rintro e wa ⟨rfl, hba, hma⟩; replace k1 := (hba.block _ (by omega)).trans k1; replace k2 := (hba.block _ (by omega)).trans k2; obtain ⟨c10, c11, c12⟩ := three k1; obtain ⟨c20, c21, c22⟩ := three k2; have f1 := Bl.free k1; have f2 := Bl.free k2)
  refine bodyPost_ret (v := .agg #[.int .i64 d, .int .i64 s, .slice (some ⟨w.heap.size + 1 + 1 + 1, 0, none⟩) l.length l.length]) (by simp [results, Try.results31, go_sem, c10, c11, c12]) rfl ⟨_, rfl, ?_, by omega, ?_⟩
  · have B1 := next B0 hba
    exact (((B1.setCell (by simp <;> omega) _).setCell (by simp) _).setCell (by simp) _).setCell (by simp) _
  · rw [z0] at hma
    exact mine_set (mine_set (mine_set (mine_set hma (by simp)) (by simp)) (by simp)) (by simp)

set_option maxHeartbeats 1000000 in
theorem eqUdp_same (d s : Int) (a a' : Option Addr) (b off cap b' off' cap' : Nat) (l : List Int) (w : World) (h : Rd w a b off l) (h' : Rd w a' b' off' l) :
    Calls Try.prog 33 #[.agg #[.int .i64 d, .int .i64 s, .slice a l.length cap], .agg #[.int .i64 d, .int .i64 s, .slice a' l.length cap']] w fun e w' => e = .returned (.bool true) ∧ Below w.heap.size w w' := by
  have B := next (below_alloc1 w (.cells #[.int .i64 d, .int .i64 s, .slice a l.length cap] 46)) (below_alloc1 _ (.cells #[.int .i64 d, .int .i64 s, .slice a' l.length cap'] 46))
  have hr := h.below B
  have hr' := h'.below B
  go_enter Try.func33, Try.ntmps33
  go_wp2_with (go_at_call 19; refine (eqByteS_any _ _ _ _ _ _ _ _ _ _ _ hr hr').mono ?_; rw [decide_eq_true rfl]; rintro e w' ⟨rfl, hb⟩)
  go_ret
  exact ⟨rfl, next B hb⟩

set_option maxHeartbeats 1000000 in
theorem markUdp_any (d s : Int) (a : Option Addr) (g cap : Nat) (l : List Int) (w : World) (h : Wt w a g l) :
    Calls Try.prog 36 #[.agg #[.int .i64 d, .int .i64 s, .slice a l.length cap], .int .i64 1] w fun e w' => e = .returned (.int .i64 (1 + (l.length : Int))) ∧ Only g w w' ∧ Wt w' a g (marks l.length) := by
  have B := below_alloc1 w (.cells #[.int .i64 d, .int .i64 s, .slice a l.length cap] 46)
  have hr := h.below B
  go_enter Try.func36, Try.ntmps36
  go_wp2_with (go_at_call 21; refine (mark_any _ _ _ _ _ hr).mono ?_; rintro e w' ⟨rfl, ho, hw⟩)
  go_ret
  exact ⟨rfl, below_only B ho, hw⟩

set_option maxHeartbeats 1000000 in
theorem heldUdp_any (d s : Int) (a : Option Addr) (g cap n : Nat) (w : World) (h : Wt w a g (marks n)) :
    Calls Try.prog 39 #[.agg #[.int .i64 d, .int .i64 s, .slice a n cap], .int .i64 1] w fun e w' => e = .returned (.int .i64 (1 + (n : Int))) ∧ Below w.heap.size w w' := by
  have B := below_alloc1 w (.cells #[.int .i64 d, .int .i64 s, .slice a n cap] 46)
  have hr := h.below B
  have h0 : ¬ (1 + (n : Int) < 0) := by omega
  go_enter Try.func39, Try.ntmps39
  go_wp2_with (go_at_call 22; refine (held_any _ _ _ _ _ hr).mono ?_; rintro e w' ⟨rfl, rfl⟩)
  go_ret
  exact ⟨rfl, B⟩

set_option maxHeartbeats 1000000 in
theorem markU_any (d s : Int) (a : Option Addr) (g cap : Nat) (l : List Int) (w : World) (h : Wt w a g l) :
    Calls Try.prog 36 #[.agg #[.int .i64 d, .int .i64 s, .slice a l.length cap], .int .i64 1] w fun e w' => e = .returned (.int .i64 (1 + (l.length : Int))) ∧ Only g w w' ∧ (l.length = 0 → Below w.heap.size w w') ∧ Wt w' a g (marks l.length) := by
  rcases Nat.eq_zero_or_pos l.length with h0 | h0
  · have B := below_alloc1 w (.cells #[.int .i64 d, .int .i64 s, .slice a 0 cap] 46)
    have hm : (marks 0).length = 0 := rfl
    rw [h0]
    clear h h0
    go_enter Try.func36, Try.ntmps36
    go_wp2_with (go_at_call 21; refine (Lw.mark_nil _ _ _).mono ?_; rintro e w' ⟨rfl, rfl⟩)
    go_ret
    exact ⟨rfl, ⟨B.os, B.tape, B.output, B.size, fun k hk _ => B.block k hk⟩, fun _ => B, Lw.wt_zero hm⟩
  · refine (markUdp_any d s a g cap l w h).mono ?_
    rintro e w' ⟨he, ho, hw⟩
    exact ⟨he, ho, fun h => by omega, hw⟩

end Go.Proofs.Ytjbjlmaeaajlhaa.Ul
