/-
  Both UdpBytes: what they answer, on every inner datagram.
-/
import Derived.Test.YthgbjbebjjeddaaIb
namespace Go.Proofs.Ythgbjbebjjeddaa.Ub
open Go Go.RowKit
open Num Rw Mk Un Put Pl App Pf Pb Ipl Hp Hd Su
set_option maxRecDepth 4000


theorem implNo (s d : Int) (a : Option Addr) (n c : Nat) (w : World) (hok : Ik.okU s d n = false) :
    Calls Try.prog 10 #[.agg #[.int .i64 s, .int .i64 d, .slice a n c]] w (Pb.Res w false []) := by
  have B := below_alloc1 w (.cells #[.int .i64 s, .int .i64 d, .slice a n c] 24)
  go_enter Try.func10, Try.ntmps10
  go_wp2_with (go_at_call 39; refine (Ik.implUdp_any _ _ _ _ _ _).mono ?_; rw [hok]; rintro e wa ⟨rfl, hb⟩)
  go_ret2
  exact ⟨none, w.heap.size, 0, rfl, Wt.nil _ _ _, Nat.le_refl _, next B hb⟩

set_option maxHeartbeats 3200000 in
theorem implYes (s d : Int) (a : Option Addr) (b off cap : Nat) (l : List Int) (w : World) (h : Rd w a b off l) (hok : Ik.okU s d l.length = true) :
    Calls Try.prog 10 #[.agg #[.int .i64 s, .int .i64 d, .slice a l.length cap]] w (Ib.Yes w (udpL s d l)) := by
  obtain ⟨hs, hd, hl⟩ := Ik.okU_parts hok
  obtain ⟨W0, hW0⟩ : ∃ W0, W0 = w.alloc (.cells #[.int .i64 s, .int .i64 d, .slice a l.length cap] 24) := ⟨_, rfl⟩
  have B : Below w.heap.size w W0 := by subst hW0; exact below_alloc1 _ _
  have k : W0.heap[w.heap.size]? = some (.cells #[.int .i64 s, .int .i64 d, .slice a l.length cap] 24 (0, 0)) := by subst hW0; exact at_new rfl
  have z : w.heap.size < W0.heap.size := by subst hW0; simp
  replace h := h.below B
  go_enter Try.func10, Try.ntmps10
  go_wp2_with (first | (go_at_call 39; rw [← hW0]; refine (Ik.implUdp_any _ _ _ _ _ _).mono ?_; rw [hok]; rintro e wa ⟨rfl, hb⟩; clear hW0; replace B := next B hb; replace k := (hb.block _ z).trans k; replace z := Nat.lt_of_lt_of_le z hb.size; replace h := h.below hb; clear hb; obtain ⟨c0, c1, c2⟩ := Ul.three k) | (go_at_call 40; refine (Ik.within_udp _ _ _ _ _ _).mono ?_; rintro e wb ⟨rfl, hb⟩; have zw := Nat.lt_of_lt_of_le z hb.size; clear c0 c1 c2 k; replace B := next B hb; replace h := h.below hb; clear hb z; have BX := below_alloc1 wb (.cells #[.int .i64 s, .int .i64 d, .int .i64 2, .slice a l.length cap] 75); have kG : (wb.alloc (.cells #[.int .i64 s, .int .i64 d, .int .i64 2, .slice a l.length cap] 75)).heap[wb.heap.size]? = some (.cells #[.int .i64 s, .int .i64 d, .int .i64 2, .slice a l.length cap] 75 (0, 0)) := at_new rfl; have zG : wb.heap.size < (wb.alloc (.cells #[.int .i64 s, .int .i64 d, .int .i64 2, .slice a l.length cap] 75)).heap.size := (by simp); replace B := next B BX; replace h := h.below BX; clear BX; have zG2 := zG; obtain ⟨g0, g1, g2, g3⟩ := four kG))
  go_region_held3 (fun w' => w'.cell? ⟨wb.heap.size, 0, none⟩ = some (.int .i64 s) ∧ w'.cell? ⟨wb.heap.size, 1, none⟩ = some (.int .i64 d) ∧ w'.cell? ⟨wb.heap.size, 2, none⟩ = some (.int .i64 2) ∧ w'.cell? ⟨wb.heap.size, 3, none⟩ = some (.slice a l.length cap)) (go_keep)
    (first
    | (go_at_call 41; refine (headU s d a l.length cap _ hs hd (by omega)).mono ?_; rintro e w3 ⟨v3, L3, rfl, hL3, ln3, by3, hv3, hb0⟩; have hb := next ((Below.refl _ _).drew) hb0; have sz0 := hb0.size; clear hb0; clear g0 g1 g2 g3; replace B := next B hb; replace h := h.below hb; replace kG := (hb.block _ zG).trans kG; replace zG := Nat.lt_of_lt_of_le zG hb.size; clear hb; obtain ⟨g0, g1, g2, g3⟩ := four kG)
    | (refine step_app (by rfl) (.tmp 11) (.tmp 13) (by rfl) _ v3 L3 l (by rfl) hv3 a b off cap (by rfl) h (by omega) (by simpa using sz0) ?_; intro v4 w4 hv4 hgrow; have hb4 := below_own hv3 B (by simp; omega) hgrow; have kG4 := (hgrow.block _ zG (far_own hv3 (by simp))).trans kG; clear g0 g1 g2 g3; obtain ⟨g0, g1, g2, g3⟩ := four kG4))
  go_wp2
  go_ret2
  refine ⟨_, rfl, ?_, hb4⟩
  have e4 : L3 ++ l = udpL s d l := by rw [hL3.out]; rfl
  rw [← e4]
  exact hasI_mono hv4 (by simp; omega)

theorem rd_far {w : World} {B : Nat} {v : Value} {l m : List Int} {a : Option Addr} {b off : Nat} (h : HasI w B v l) (_hr : Rd w a b off m) (hb : m.length = 0 ∨ b < B) : m.length = 0 ∨ some b ≠ v.ownBlock := by
  rcases hb with h0 | h0
  · exact .inl h0
  · exact .inr (far_own h h0)
theorem rd_grown {w w' : World} {row : Option Nat} {a : Option Addr} {b off : Nat} {m : List Int} (hr : Rd w a b off m) (hg : w.grownBy w' row) (hne : m.length = 0 ∨ some b ≠ row) : Rd w' a b off m :=
  ⟨hr.head, fun i hi => (World.cell?_of_block (hg.block b (World.block_lt_of_cell? _ _ (hr.cell i hi)) (by rcases hne with h0 | h0; omega; exact h0))).trans (hr.cell i hi), hr.size, hr.byt⟩
theorem own_two (w : World) : Wt (w.alloc (.cells #[.int .u8 0, .int .u8 0] 5)) (some ⟨w.heap.size, 0, none⟩) w.heap.size [0, 0] := by
  obtain ⟨g, cap, e, hg, hw⟩ := hasI_form (own_made w [0, 0] 2 #[.int .u8 0, .int .u8 0] rfl rfl (by decide)) (by simp) (fun n hn => by simp at hn; omega)
  injection e with e1
  injection e1 with e1
  injection e1 with e1
  subst e1
  exact hw

end Go.Proofs.Ythgbjbebjjeddaa.Ub
