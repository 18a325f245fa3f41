/-
  Both IpBytes: what they answer, on every datagram.
-/
import Derived.Test.YthgbjbebjjeddaaSu
namespace Go.Proofs.Ythgbjbebjjeddaa.Ib
open Go Go.RowKit
open Num Rw Mk Un Put Pl App Pf Pb Ipl Hp Hd Su
set_option maxRecDepth 4000


/-- Bytes are handed back with true, of the call's own. -/
def Yes (w : World) (L : List Int) (e : Ending) (w' : World) : Prop :=
  ∃ v, e = .returned (.tuple #[v, .bool true]) ∧ HasI w' w.heap.size v L ∧ Below w.heap.size w w'

theorem res_yes {w w' : World} {L : List Int} {e : Ending} (hy : Byt L) (hl : L.length ≤ 4194304) (h : Yes w L e w') : Pb.Res w true L e w' := by
  obtain ⟨v, rfl, hv, hb⟩ := h
  obtain ⟨g, cap, rfl, hg, hwt⟩ := hasI_form hv hl hy
  exact ⟨_, g, cap, rfl, hwt, hg, hb⟩

theorem implNo (t p s d : Int) (a : Option Addr) (n c : Nat) (w : World) (hok : Ik.okI t p s d n = false) :
    Calls Try.prog 11 #[.agg #[.int .i64 t, .int .i64 p, .int .i64 s, .int .i64 d, .slice a n c]] w (Pb.Res w false []) := by
  have B := below_alloc1 w (.cells #[.int .i64 t, .int .i64 p, .int .i64 s, .int .i64 d, .slice a n c] 26)
  go_enter Try.func11, Try.ntmps11
  go_wp2_with (go_at_call 42; refine (Ik.implIp_any _ _ _ _ _ _ _ _).mono ?_; rw [hok]; rintro e wa ⟨rfl, hb⟩)
  go_ret2
  exact ⟨none, w.heap.size, 0, rfl, Wt.nil _ _ _, Nat.le_refl _, next B hb⟩

set_option maxHeartbeats 3200000 in
theorem implYes (t p s d : Int) (a : Option Addr) (b off cap : Nat) (l : List Int) (w : World) (h : Rd w a b off l) (hok : Ik.okI t p s d l.length = true) :
    Calls Try.prog 11 #[.agg #[.int .i64 t, .int .i64 p, .int .i64 s, .int .i64 d, .slice a l.length cap]] w (Yes w (ipL t p s d l)) := by
  obtain ⟨ht, hp, hs, hd, hl⟩ := Ik.okI_parts hok
  have hno := nought2
  obtain ⟨W0, hW0⟩ : ∃ W0, W0 = w.alloc (.cells #[.int .i64 t, .int .i64 p, .int .i64 s, .int .i64 d, .slice a l.length cap] 26) := ⟨_, rfl⟩
  have B : Below w.heap.size w W0 := by subst hW0; exact below_alloc1 _ _
  have k : W0.heap[w.heap.size]? = some (.cells #[.int .i64 t, .int .i64 p, .int .i64 s, .int .i64 d, .slice a l.length cap] 26 (0, 0)) := by subst hW0; exact at_new rfl
  have z : w.heap.size < W0.heap.size := by subst hW0; simp
  replace h := h.below B
  go_enter Try.func11, Try.ntmps11
  go_wp2_with (first | (go_at_call 42; rw [← hW0]; refine (Ik.implIp_any _ _ _ _ _ _ _ _).mono ?_; rw [hok]; rintro e wa ⟨rfl, hb⟩; clear hW0; replace B := next B hb; replace k := (hb.block _ z).trans k; replace z := Nat.lt_of_lt_of_le z hb.size; replace h := h.below hb; clear hb; obtain ⟨c0, c1, c2, c3, c4⟩ := five k) | (go_at_call 43; refine (Ik.within_ip _ _ _ _ _ _ _ _).mono ?_; rintro e wb ⟨rfl, hb⟩; have zw := Nat.lt_of_lt_of_le z hb.size; clear c0 c1 c2 c3 c4 k; replace B := next B hb; replace h := h.below hb; clear hb z; have BX := below_alloc1 wb (.cells #[.int .i64 s, .int .i64 d, .int .i64 4, .int .i64 t, .int .i64 p, .slice a l.length cap] 80); have kG : (wb.alloc (.cells #[.int .i64 s, .int .i64 d, .int .i64 4, .int .i64 t, .int .i64 p, .slice a l.length cap] 80)).heap[wb.heap.size]? = some (.cells #[.int .i64 s, .int .i64 d, .int .i64 4, .int .i64 t, .int .i64 p, .slice a l.length cap] 80 (0, 0)) := at_new rfl; have zG : wb.heap.size < (wb.alloc (.cells #[.int .i64 s, .int .i64 d, .int .i64 4, .int .i64 t, .int .i64 p, .slice a l.length cap] 80)).heap.size := (by simp); replace B := next B BX; replace h := h.below BX; clear BX; obtain ⟨g0, g1, g2, g3, g4, g5⟩ := six kG))
  go_region_held3 (fun w' => w'.cell? ⟨wb.heap.size, 0, none⟩ = some (.int .i64 s) ∧ w'.cell? ⟨wb.heap.size, 1, none⟩ = some (.int .i64 d) ∧ w'.cell? ⟨wb.heap.size, 2, none⟩ = some (.int .i64 4) ∧ w'.cell? ⟨wb.heap.size, 3, none⟩ = some (.int .i64 t) ∧ w'.cell? ⟨wb.heap.size, 4, none⟩ = some (.int .i64 p) ∧ w'.cell? ⟨wb.heap.size, 5, none⟩ = some (.slice a l.length cap)) (go_keep)
    (first
    | (go_at_call 44; refine (head_impl t p s d S a l.length cap _ ht hp hs hd hSok hl).mono ?_; rintro e w3 ⟨v3, L3, rfl, hL3, ln3, by3, hv3, hb⟩; have zG2 := zG; have sz3 := hb.size; clear g0 g1 g2 g3 g4 g5; replace B := next B hb; replace h := h.below hb; replace kG := (hb.block _ zG).trans kG; replace zG := Nat.lt_of_lt_of_le zG hb.size; clear hb; obtain ⟨g0, g1, g2, g3, g4, g5⟩ := six kG)
    | (go_at_call 45; refine (ipSum_any q1 0 r1 20 L1 _ hwt1.rd ln1 (by decide) hr1).mono ?_; rintro e w2 ⟨S, rfl, hS, hSok, hb⟩; clear hwt1; clear g0 g1 g2 g3 g4 g5; replace B := next B hb; replace h := h.below hb; replace kG := (hb.block _ zG).trans kG; replace zG := Nat.lt_of_lt_of_le zG hb.size; clear hb; obtain ⟨g0, g1, g2, g3, g4, g5⟩ := six kG)
    | (go_at_call 44; refine (head_impl t p s d 0 a l.length cap _ ht hp hs hd hno hl).mono ?_; rintro e w1 ⟨v1, L1, rfl, hL1, ln1, by1, hv1, hb0⟩; obtain ⟨q1, r1, hv1e, hq1, hwt1, hr1⟩ := room hv1 (by omega) by1; rw [ln1] at hv1e hr1; subst hv1e; clear hv1; have hb := next ((Below.refl _ _).drew) hb0; clear hb0; clear g0 g1 g2 g3 g4 g5; replace B := next B hb; replace h := h.below hb; replace kG := (hb.block _ zG).trans kG; replace zG := Nat.lt_of_lt_of_le zG hb.size; clear hb; obtain ⟨g0, g1, g2, g3, g4, g5⟩ := six kG)
    | (refine step_app (by rfl) (.tmp 14) (.tmp 16) (by rfl) _ v3 L3 l (by rfl) hv3 a b off cap (by rfl) h (by omega) (by omega) ?_; intro v4 w4 hv4 hgrow; have hb4 := below_own hv3 B (by omega) hgrow; have kG4 := (hgrow.block _ zG (far_own hv3 zG2)).trans kG; clear g0 g1 g2 g3 g4 g5; obtain ⟨g0, g1, g2, g3, g4, g5⟩ := six kG4))
  go_wp2
  go_ret2
  refine ⟨_, rfl, ?_, hb4⟩
  have e4 : L3 ++ l = ipL t p s d l := by rw [hL3.out, hS.out, hL1.out, zero_head]; rfl
  rw [← e4]
  exact hasI_mono hv4 (by omega)

end Go.Proofs.Ythgbjbebjjeddaa.Ib
