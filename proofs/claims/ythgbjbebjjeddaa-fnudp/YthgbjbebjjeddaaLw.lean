/-
  What the laws over packets need: the marks of a packet, what they leave as it was; both Tagged by one word.
-/
import Derived.Test.YthgbjbebjjeddaaTg
namespace Go.Proofs.Ythgbjbebjjeddaa.Lw
open Go Go.RowKit
open Num Rw Mk Un Put Pl App Pf

theorem mark_nil (a : Option Addr) (cap : Nat) (w : World) :
    Calls Try.prog 71 #[.slice a 0 cap, .int .i64 1] w fun e w' => e = .returned (.int .i64 1) ∧ w' = w := by
  go_enter Try.func71, Try.ntmps71
  go_wp2
  go_loop [1, 5] (fun q i => i = .int .i64 0 ∧ q = .int .i64 1) (fun _ _ => 0)
  case atStart => exact ⟨rfl, rfl⟩
  case round =>
    obtain ⟨rfl, rfl⟩ := hrel
    go_wp2
    go_ret
    exact ⟨rfl, rfl⟩

theorem wt_zero {w' : World} {a : Option Addr} {g : Nat} {m : List Int} (hm : m.length = 0) : Wt w' a g m := by
  obtain rfl := List.eq_nil_of_length_eq_zero hm
  exact Wt.nil _ _ _

set_option maxHeartbeats 1000000 in
theorem markP_any (d s t y : Int) (a : Option Addr) (g cap : Nat) (l : List Int) (w : World) (h : Wt w a g l) :
    Calls Try.prog 28 #[.agg #[.int .i64 d, .int .i64 s, .int .i64 t, .int .i64 y, .slice a l.length cap], .int .i64 1] w fun e w' => e = .returned (.int .i64 (1 + (l.length : Int))) ∧ Only g w w' ∧ (l.length = 0 → Below w.heap.size w w') ∧ Wt w' a g (marks l.length) := by
  rcases Nat.eq_zero_or_pos l.length with h0 | h0
  · have B := below_alloc1 w (.cells #[.int .i64 d, .int .i64 s, .int .i64 t, .int .i64 y, .slice a 0 cap] 28)
    have hm : (marks 0).length = 0 := rfl
    rw [h0]
    clear h h0
    go_enter Try.func28, Try.ntmps28
    go_wp2_with (go_at_call 71; refine (mark_nil _ _ _).mono ?_; rintro e w' ⟨rfl, rfl⟩)
    go_ret
    exact ⟨rfl, ⟨B.os, B.tape, B.output, B.size, fun k hk _ => B.block k hk⟩, fun _ => B, wt_zero hm⟩
  · refine (markPacket_any d s t y a g cap l w h).mono ?_
    rintro e w' ⟨he, ho, hw⟩
    exact ⟨he, ho, fun h => by omega, hw⟩

theorem k_only {g n k : Nat} {w w' : World} (ho : Only g w w') (h0 : n = 0 → Below w.heap.size w w') (hk : k < w.heap.size) (hne : n = 0 ∨ k ≠ g) : w'.heap[k]? = w.heap[k]? := by
  rcases hne with h | h
  · exact (h0 h).block k hk
  · exact ho.block k hk (by simpa using h)

theorem below_of_only {g n B : Nat} {w0 w w' : World} (hb : Below B w0 w) (hB : B ≤ w.heap.size) (ho : Only g w w') (h0 : n = 0 → Below w.heap.size w w') (hg : n = 0 ∨ B ≤ g) : Below B w0 w' := by
  rcases hg with h | h
  · exact hb.trans ((h0 h).mono hB)
  · exact ho.below hb hB h

theorem rd_onlyN {g n : Nat} {w w' : World} {a : Option Addr} {b off : Nat} {l : List Int} (ho : Only g w w') (h0 : n = 0 → Below w.heap.size w w') (hr : Rd w a b off l) (hne : n = 0 ∨ l.length = 0 ∨ b ≠ g) : Rd w' a b off l := by
  rcases hne with h | h
  · exact hr.below (h0 h)
  · exact rd_only ho hr h
theorem wt_onlyN {g n : Nat} {w w' : World} {a : Option Addr} {b : Nat} {l : List Int} (ho : Only g w w') (h0 : n = 0 → Below w.heap.size w w') (hr : Wt w a b l) (hne : n = 0 ∨ l.length = 0 ∨ b ≠ g) : Wt w' a b l := by
  rcases hne with h | h
  · exact hr.below (h0 h)
  · exact wt_only ho hr h
theorem rd_lt {w : World} {a : Option Addr} {b off : Nat} {l : List Int} (h : Rd w a b off l) : l.length = 0 ∨ b < w.heap.size := by
  rcases Nat.eq_zero_or_pos l.length with h0 | h0
  · exact .inl h0
  · exact .inr (World.block_lt_of_cell? _ _ (h.cell 0 h0))

/-- A packet and a bool are handed back, the bytes in memory of the call's own. -/
def ResB (w : World) (d s t y : Int) (ok : Bool) (l : List Int) (e : Ending) (w' : World) : Prop :=
  ∃ a g cap, e = .returned (.tuple #[.agg #[.int .i64 d, .int .i64 s, .int .i64 t, .int .i64 y, .slice a l.length cap], .bool ok]) ∧ Wt w' a g l ∧ w.heap.size ≤ g ∧ (a = none → cap = 0) ∧ Below w.heap.size w w'

theorem res_yes {w w' : World} {d s t y : Int} {l : List Int} {e : Ending} (h : Tg.Yes w d s t y l e w') : ResB w d s t y true l e w' := h
theorem res_no {w w' : World} {e : Ending} (h : Tg.No w e w') : ResB w 0 0 0 0 false [] e w' :=
  ⟨none, w.heap.size, 0, h.1, Wt.nil _ _ _, Nat.le_refl _, fun _ => rfl, h.2⟩

end Go.Proofs.Ythgbjbebjjeddaa.Lw
