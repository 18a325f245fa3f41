/-
  Both PacketBytes by one word; the marks of a row of bytes.
-/
import Derived.Test.YthgbjbebjjeddaaPb
namespace Go.Proofs.Ythgbjbebjjeddaa.Pb
open Go Go.RowKit
open Num Rw Mk Un Put Pl App Pf

theorem nil_byt : Byt [] := fun n h => by simp at h
theorem tag_byt {l : List Int} (h : Byt l) (t : Int) : Byt (tagL l t) := by
  unfold tagL; split
  · exact h
  · exact add_byt (add_byt h _ _) _ _
theorem tag_len (l : List Int) (t : Int) : (tagL l t).length = l.length + (if t = -1 then 0 else 4) := by
  unfold tagL; split
  · omega
  · rw [add_len, add_len]; simp
theorem mid_byt {l : List Int} (h : Byt l) (d s t y : Int) : Byt (mid d s t y l) := byt_app (add_byt (tag_byt (add_byt (add_byt nil_byt _ _) _ _) _) _ _) h
theorem mid_len (d s t y : Int) (l : List Int) : (mid d s t y l).length = 14 + (if t = -1 then 0 else 4) + l.length := by
  unfold mid
  rw [List.length_append, add_len, tag_len, add_len, add_len]
  simp
  omega
theorem pb_byt {l : List Int} (h : Byt l) (d s t y : Int) : Byt (pbL d s t y l) := add_byt (mid_byt h d s t y) _ _
theorem pb_len (d s t y : Int) (l : List Int) : (pbL d s t y l).length = 18 + (if t = -1 then 0 else 4) + l.length := by
  unfold pbL
  rw [add_len, mid_len]
  simp
  omega

/-- Bytes and a bool are handed back, in memory of the call's own. -/
def Res (w : World) (ok : Bool) (L : List Int) (e : Ending) (w' : World) : Prop :=
  ∃ a g cap, e = .returned (.tuple #[.slice a L.length cap, .bool ok]) ∧ Wt w' a g L ∧ w.heap.size ≤ g ∧ Below w.heap.size w w'

theorem res_yes {w w' : World} {d s t y : Int} {l : List Int} {e : Ending} (hy : Byt l) (hl : l.length ≤ 1500) (h : ResY w d s t y l e w') : Res w true (pbL d s t y l) e w' := by
  obtain ⟨v, rfl, hv, hb⟩ := h
  have hlen := pb_len d s t y l
  obtain ⟨g, cap, rfl, hg, hwt⟩ := hasI_form hv (by rw [hlen]; split <;> omega) (pb_byt hy d s t y)
  exact ⟨_, g, cap, rfl, hwt, hg, hb⟩

theorem implNo (d s t y : Int) (a : Option Addr) (n c : Nat) (w : World) (hok : Pk.okB d s t y n = false) :
    Calls Try.prog 12 #[.agg #[.int .i64 d, .int .i64 s, .int .i64 t, .int .i64 y, .slice a n c]] w (Res w false []) := by
  have B := below_alloc1 w (.cells #[.int .i64 d, .int .i64 s, .int .i64 t, .int .i64 y, .slice a n c] 28)
  go_enter Try.func12, Try.ntmps12
  go_wp2_with (go_at_call 46; refine (Pk.implOk_any _ _ _ _ _ _ _ _).mono ?_; rw [hok]; rintro e wa ⟨rfl, hb⟩)
  go_ret2
  exact ⟨none, w.heap.size, 0, rfl, Wt.nil _ _ _, Nat.le_refl _, next B hb⟩
theorem implYes (d s t y : Int) (a : Option Addr) (b off cap : Nat) (l : List Int) (w : World) (h : Rd w a b off l) (hok : Pk.okB d s t y l.length = true) :
    Calls Try.prog 12 #[.agg #[.int .i64 d, .int .i64 s, .int .i64 t, .int .i64 y, .slice a l.length cap]] w (Res w true (pbL d s t y l)) := by
  have hl := (ok_parts hok).2.2.2.2.2.2.2.1
  by_cases ht : t = -1
  · exact (implPlain d s t y a b off cap l w h hok ht).mono fun e w' hr => res_yes h.byt hl hr
  · exact (implTag d s t y a b off cap l w h hok ht).mono fun e w' hr => res_yes h.byt hl hr
theorem markB (a : Option Addr) (g cap : Nat) (l : List Int) (w : World) (h : Wt w a g l) :
    Calls Try.prog 71 #[.slice a l.length cap, .int .i64 1] w fun e w' => e = .returned (.int .i64 (1 + (l.length : Int))) ∧ Only g w w' ∧ (l.length = 0 → Below w.heap.size w w') ∧ Wt w' a g (marks l.length) := by
  rcases Nat.eq_zero_or_pos l.length with h0 | h0
  · rw [h0]
    refine (Lw.mark_nil a cap w).mono ?_
    rintro e w' ⟨rfl, rfl⟩
    exact ⟨rfl, Only.refl _ _, fun _ => Below.refl _ _, Lw.wt_zero rfl⟩
  · refine (mark_any a g cap l w h).mono ?_
    rintro e w' ⟨he, ho, hw⟩
    exact ⟨he, ho, fun h => by omega, hw⟩

end Go.Proofs.Ythgbjbebjjeddaa.Pb
