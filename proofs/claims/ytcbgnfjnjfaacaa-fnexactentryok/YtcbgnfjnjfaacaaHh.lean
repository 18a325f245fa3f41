/-
  Contracts of the law's helpers over heads: the size, a copy, held against each other, marks; opening an argument that is a head.
-/
import Derived.Test.YtcbgnfjnjfaacaaHr
import Derived.Test.YtcbgnfjnjfaacaaPf
namespace Go.Proofs.Ytcbgnfjnjfaacaa.Hh
open Go Go.ChangeShapes Go.WideShapes Go.RowKit
open Num Pl Hr

theorem one {w : World} {g : Nat} {v0 : Value} {t : TypeId} {fr : Nat × Nat} (k : w.heap[g]? = some (.cells #[v0] t fr)) : w.cell? ⟨g, 0, none⟩ = some v0 := by
  simp [World.cell?, k]

theorem sz_small (a : Option Addr) (n c : Nat) (w : World) (h : n ≤ 1048576) :
    Calls Try.prog 51 #[.agg #[.slice a n c], .int .i64 1048576] w fun e w' => e = .returned (.int .i64 (1048576 - (n : Int))) ∧ Below w.heap.size w w' := by
  have h0 : ¬ (1048576 - (n : Int) < 0) := by omega
  go_enter Try.func51, Try.ntmps51
  go_wp2
  go_ret
  exact ⟨rfl, below_alloc1 _ _⟩

theorem sz_big (a : Option Addr) (n c : Nat) (w : World) (h : 1048576 < n) (hm : n ≤ maxLen) :
    Calls Try.prog 51 #[.agg #[.slice a n c], .int .i64 1048576] w fun e w' => e = .returned (.int .i64 (-1)) ∧ Below w.heap.size w w' := by
  unfold maxLen at hm
  have h0 : 1048576 - (n : Int) < 0 := by omega
  go_enter Try.func51, Try.ntmps51
  go_wp2
  go_ret
  exact ⟨rfl, below_alloc1 _ _⟩

set_option maxHeartbeats 1000000 in
theorem toHead_any (a : Option Addr) (b off cap : Nat) (l : List Int) (w : World) (h : Rd w a b off l) :
    Calls Try.prog 52 #[.agg #[.slice a l.length cap]] w fun e w' => ∃ g, e = .returned (.agg #[.slice (some ⟨g, 0, none⟩) l.length l.length]) ∧ Below w.heap.size w w' ∧ w.heap.size ≤ g ∧ Mine w' g l := by
  obtain ⟨W0, hW0⟩ : ∃ W0, W0 = ((w.alloc (.cells #[.slice a l.length cap] 78)).alloc (.cells #[.slice none 0 0] 27)).alloc (.cells #[.slice none 0 0] 27) := ⟨_, rfl⟩
  have B0 : Below w.heap.size w W0 := by subst hW0; exact Rw.next (Rw.next (below_alloc1 _ _) (below_alloc1 _ _)) (below_alloc1 _ _)
  have z0 : W0.heap.size = w.heap.size + 3 := by subst hW0; simp
  have k1 : W0.heap[w.heap.size + 1]? = some (.cells #[.slice none 0 0] 27 (0, 0)) := by subst hW0; rw [at_old (by simp), at_new (by simp)]
  have k2 : W0.heap[w.heap.size + 2]? = some (.cells #[.slice none 0 0] 27 (0, 0)) := by subst hW0; rw [at_new (by simp)]
  have h0 := h.below B0
  clear h
  go_enter Try.func52, Try.ntmps52
  go_wp2_with (go_at_call 116; rw [← hW0]; refine (toIntS_any _ _ _ _ _ _ h0).mono ?_; rintro e wa ⟨rfl, hba, hma⟩; replace k1 := (hba.block _ (by omega)).trans k1; replace k2 := (hba.block _ (by omega)).trans k2; have c10 := one k1; have c20 := one k2; have f1 := Bl.free k1; have f2 := Bl.free k2)
  refine bodyPost_ret (v := .agg #[.slice (some ⟨w.heap.size + 1 + 1 + 1, 0, none⟩) l.length l.length]) (by simp [results, Try.results52, go_sem, c10]) rfl ⟨_, rfl, ?_, by omega, ?_⟩
  · have B1 := Rw.next B0 hba
    exact (B1.setCell (by simp <;> omega) _).setCell (by simp) _
  · rw [z0] at hma
    exact (hma.set (by simp)).set (by simp)

set_option maxHeartbeats 1000000 in
theorem eqHead_same (a a' : Option Addr) (b off cap b' off' cap' : Nat) (l : List Int) (w : World) (h : Rd w a b off l) (h' : Rd w a' b' off' l) :
    Calls Try.prog 53 #[.agg #[.slice a l.length cap], .agg #[.slice a' l.length cap']] w fun e w' => e = .returned (.bool true) ∧ Below w.heap.size w w' := by
  have B := Rw.next (below_alloc1 w (.cells #[.slice a l.length cap] 27)) (below_alloc1 _ (.cells #[.slice a' l.length cap'] 27))
  have hr := h.below B
  have hr' := h'.below B
  go_enter Try.func53, Try.ntmps53
  go_wp2_with (go_at_call 56; refine (eqIntS_any _ _ _ _ _ _ _ _ _ _ _ hr hr').mono ?_; rw [decide_eq_true rfl]; rintro e w' ⟨rfl, hb⟩)
  go_ret
  exact ⟨rfl, Rw.next B hb⟩

theorem mark_nil (a : Option Addr) (cap : Nat) (w : World) :
    Calls Try.prog 57 #[.slice a 0 cap, .int .i64 1] w fun e w' => e = .returned (.int .i64 1) ∧ w' = w := by
  go_enter Try.func57, Try.ntmps57
  go_wp2
  go_loop [1, 5] (fun q i => i = .int .i64 0 ∧ q = .int .i64 1) (fun _ _ => 0)
  case atStart => exact ⟨rfl, rfl⟩
  case round =>
    obtain ⟨rfl, rfl⟩ := hrel
    go_wp2
    go_ret
    exact ⟨rfl, rfl⟩

theorem wt_zero {w' : World} {a : Option Addr} {g : Nat} {m : List Int} (hm : m.length = 0) : Wt w' a g m := by
  obtain rfl := List.eq_nil_of_length_eq_zero hm
  exact Wt.nil _ _ _

theorem array1 {α : Type} {cs : Array α} (h : cs.size = 1) : ∃ c0, cs = #[c0] := by
  obtain ⟨l⟩ := cs
  match l, h with
  | [c0], _ => exact ⟨c0, rfl⟩

set_option maxRecDepth 8000 in
theorem open_head {H : Type} {enc : TypeId × Value → H} {W : World} {r : Reach} {b0 : Nat} {v : Value} {d : DataW H} {p : List MemPlace}
    (hv : Value.okWide Try.prog W r b0 78 v) (h : DataW.Trod enc Try.prog W 0 (fun _ => true) true 78 v d p) :
    ∃ (a : Option Addr) (len cap : Nat) (zs : List Int), v = .agg #[.slice a len cap] ∧ Rw.IsRow .i64 W a len cap zs := by
  obtain ⟨cs, rfl, hsz⟩ := okWide_struct Try.underlying78 hv
  have hC : Try.prog.cellsOf 78 = 1 := by kernel_rfl
  have h41 : Try.prog.cellsOf 23 = 1 := by kernel_rfl
  obtain ⟨c0, rfl⟩ := array1 (hsz.trans hC)
  obtain ⟨fuel, hf⟩ := h
  obtain ⟨xs, n, _, _, _, hlen, hx⟩ := DataW.trod_struct Try.underlying78 hf
  have hlen1 : xs.length = 1 := by simpa using hlen
  obtain ⟨y0, e0⟩ := Pf.some_of_len hlen1 (i := 0) (by omega)
  have t0 := (hx 0 _ rfl).trans e0
  simp [Value.cells, h41] at t0
  rcases open_ints Try.underlying23 Try.underlying3 (by kernel_rfl) t0 with ⟨hcs, _⟩ | ⟨x, l, c, zs, hcs, _, hl, hm, hz, _, hcell, hwz⟩
  · simp at hcs
    subst hcs
    exact ⟨_, _, _, [], rfl, .inl ⟨rfl, rfl, rfl, rfl⟩⟩
  · simp at hcs
    subst hcs
    exact ⟨_, _, _, zs, rfl, .inr ⟨_, rfl, hl, hm, by simpa using hz, hcell, hwz⟩⟩

end Go.Proofs.Ytcbgnfjnjfaacaa.Hh
