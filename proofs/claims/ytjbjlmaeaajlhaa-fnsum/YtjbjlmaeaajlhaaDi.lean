/-
  The specification's draws of datagrams: any datagram, and what DrawHop and DrawIpBytes draw.
-/
import Derived.Test.YtjbjlmaeaajlhaaDh
namespace Go.Proofs.Ytjbjlmaeaajlhaa.Dr
open Go Go.RowKit
open Num Rw Mk Un Put Pl Pf
set_option linter.unusedVariables false

theorem two_at {w : World} {g : Nat} {x y : Int} {t : TypeId} (h : w.heap[g]? = some (.cells #[.int .i64 x, .int .i64 y] t (0, 0))) (i : Nat) (hi : i < 2) : ∃ V : Int, w.cell? ⟨g, i, none⟩ = some (.int .i64 V) := by
  match i, hi with
  | 0, _ => exact ⟨x, by simp [World.cell?, h]⟩
  | 1, _ => exact ⟨y, by simp [World.cell?, h]⟩

set_option maxHeartbeats 4000000 in
theorem any_any (g : Nat) (a : Option Addr) (b off cap : Nat) (l : List Int) (w : World) (h : Cur w g a b off cap l) :
    Calls Try.prog 62 #[.pointer (some ⟨g, 0, none⟩)] w (Drawn w g a b off cap l) := by
  have hgl := cur_lt h
  have hbl : l.length = 0 ∨ b < w.heap.size := rd_lt h.rd
  have hC := cur_alloc h (.cells #[.int .i64 0, .int .i64 0, .int .i64 0, .int .i64 0, .slice none 0 0] 27)
  have hO := only_alloc (Only.refl g w) (.cells #[.int .i64 0, .int .i64 0, .int .i64 0, .int .i64 0, .slice none 0 0] 27)
  have kr : (w.alloc (.cells #[.int .i64 0, .int .i64 0, .int .i64 0, .int .i64 0, .slice none 0 0] 27)).heap[w.heap.size]? = some (.cells #[.int .i64 0, .int .i64 0, .int .i64 0, .int .i64 0, .slice none 0 0] 27 (0, 0)) := at_new rfl
  have zr : w.heap.size < (w.alloc (.cells #[.int .i64 0, .int .i64 0, .int .i64 0, .int .i64 0, .slice none 0 0] 27)).heap.size := by simp
  have hmk : ∀ w : World, (Instr.makeSlice 22 (.int .i64 1481) (.int .i64 1481)).run Try.prog w = .ok (.slice (some ⟨w.heap.size, 0, none⟩) 1481 1481) (w.alloc (.cells (madeCells #[.int .u8 0] 1481) 5)) := fun w => run_make_row' (P := Try.prog) 22 5 (.int .u8 0) 1 Try.underlying22 info5 rfl .i64 .i64 1481 (by omega) (by omega) w
  have tok0 : True := trivial
  clear h
  go_enter Try.func62, Try.ntmps62
  go_wp2_with (first | (go_at_call 69; refine (ip_head _ _ _ _ _ _ _ hC).mono ?_; rintro e w2 ⟨t, p, s, d, gb, cb, q, rfl, hW, hgb, hC2, hO2⟩; have hrg := Nat.lt_of_lt_of_le zr hgb; replace kr := (k_of hO2 zr (by omega)).trans kr; replace zr := Nat.lt_of_lt_of_le zr hO2.size; replace hO := only_trans hO hO2; clear hC hO2; have hC := cur_alloc hC2 (.cells #[.int .i64 t, .int .i64 p, .int .i64 s, .int .i64 d, .slice (some ⟨gb, 0, none⟩) q.length cb] 27); have kp : (w2.alloc (.cells #[.int .i64 t, .int .i64 p, .int .i64 s, .int .i64 d, .slice (some ⟨gb, 0, none⟩) q.length cb] 27)).heap[w2.heap.size]? = some (.cells #[.int .i64 t, .int .i64 p, .int .i64 s, .int .i64 d, .slice (some ⟨gb, 0, none⟩) q.length cb] 27 (0, 0)) := at_new rfl; have zp : w2.heap.size < (w2.alloc (.cells #[.int .i64 t, .int .i64 p, .int .i64 s, .int .i64 d, .slice (some ⟨gb, 0, none⟩) q.length cb] 27)).heap.size := (by simp); have z2 := zr; have hql := wt_lt hW; replace hW := hW.below (below_alloc1 w2 (.cells #[.int .i64 t, .int .i64 p, .int .i64 s, .int .i64 d, .slice (some ⟨gb, 0, none⟩) q.length cb] 27)); replace kr := (at_old (o := .cells #[.int .i64 t, .int .i64 p, .int .i64 s, .int .i64 d, .slice (some ⟨gb, 0, none⟩) q.length cb] 27) zr).trans kr; replace zr := Nat.lt_trans zr zp; replace hO := only_alloc hO (.cells #[.int .i64 t, .int .i64 p, .int .i64 s, .int .i64 d, .slice (some ⟨gb, 0, none⟩) q.length cb] 27); clear hC2 hgb) | (go_at_call 70; clear tok0; refine (below_any _ _ _ _ _ _ _ _ hC (by omega) (by omega)).mono ?_; rintro e w3 ⟨k, rfl, k0, k5, hC3, hO3⟩; replace hW := wt_of hO3 hW (by omega); replace kr := (k_of hO3 zr (by omega)).trans kr; replace zr := Nat.lt_of_lt_of_le zr hO3.size; replace kp := (k_of hO3 zp (by omega)).trans kp; replace zp := Nat.lt_of_lt_of_le zp hO3.size; replace hO := only_trans hO hO3; clear hC hO3; have hC := hC3; clear hC3; obtain ⟨p0, p1, p2, p3, p4⟩ := five kp; have fp := Bl.free kp; obtain ⟨r0, r1, r2, r3, r4⟩ := five kr; have fr := Bl.free kr))
  · have hqp : q.length = 0 ∨ ¬ w2.heap.size = gb := by omega
    have hqr : q.length = 0 ∨ ¬ w.heap.size = gb := by omega
    go_wp2_with (go_at_call 71; refine (raw_any _ _ _ _ _ _ _ hC).mono ?_; rintro e w4 ⟨x4, rfl, hC4, hO4⟩; clear p0 p1 p2 p3 p4 fp r0 r1 r2 r3 r4 fr; replace hW := wt_of hO4 hW (by omega); replace kr := (k_of hO4 zr (by omega)).trans kr; replace zr := Nat.lt_of_lt_of_le zr hO4.size; replace kp := (k_of hO4 zp (by omega)).trans kp; replace zp := Nat.lt_of_lt_of_le zp hO4.size; replace hO := only_trans hO hO4; clear hC hO4; have hC := hC4; clear hC4; obtain ⟨p0, p1, p2, p3, p4⟩ := five kp; have fp := Bl.free kp; obtain ⟨r0, r1, r2, r3, r4⟩ := five kr; have fr := Bl.free kr)
    refine bodyPost_ret (v := .agg #[.int .i64 x4, .int .i64 p, .int .i64 s, .int .i64 d, .slice (some ⟨gb, 0, none⟩) q.length cb]) (by simp [results, Try.results62, go_sem, r0, r1, r2, r3, r4]) rfl ⟨x4, p, s, d, gb, cb, q, rfl, ?_, by omega, ?_, ?_⟩
    · exact wset (wset (wset (wset (wset (wset (hW) (by first | exact hqp | exact hqr)) (by first | exact hqp | exact hqr)) (by first | exact hqp | exact hqr)) (by first | exact hqp | exact hqr)) (by first | exact hqp | exact hqr)) (by first | exact hqp | exact hqr)
    · exact cur_set (cur_set (cur_set (cur_set (cur_set (cur_set (hC) (B := w.heap.size) (by omega) hgl hbl) (B := w.heap.size) (by omega) hgl hbl) (B := w.heap.size) (by omega) hgl hbl) (B := w.heap.size) (by omega) hgl hbl) (B := w.heap.size) (by omega) hgl hbl) (B := w.heap.size) (by omega) hgl hbl
    · exact only_set (only_set (only_set (only_set (only_set (only_set (hO) (by omega)) (by omega)) (by omega)) (by omega)) (by omega)) (by omega)
  · have hqp : q.length = 0 ∨ ¬ w2.heap.size = gb := by omega
    have hqr : q.length = 0 ∨ ¬ w.heap.size = gb := by omega
    go_wp2_with (go_at_call 71; refine (raw_any _ _ _ _ _ _ _ hC).mono ?_; rintro e w4 ⟨x4, rfl, hC4, hO4⟩; clear p0 p1 p2 p3 p4 fp r0 r1 r2 r3 r4 fr; replace hW := wt_of hO4 hW (by omega); replace kr := (k_of hO4 zr (by omega)).trans kr; replace zr := Nat.lt_of_lt_of_le zr hO4.size; replace kp := (k_of hO4 zp (by omega)).trans kp; replace zp := Nat.lt_of_lt_of_le zp hO4.size; replace hO := only_trans hO hO4; clear hC hO4; have hC := hC4; clear hC4; obtain ⟨p0, p1, p2, p3, p4⟩ := five kp; have fp := Bl.free kp; obtain ⟨r0, r1, r2, r3, r4⟩ := five kr; have fr := Bl.free kr)
    refine bodyPost_ret (v := .agg #[.int .i64 t, .int .i64 x4, .int .i64 s, .int .i64 d, .slice (some ⟨gb, 0, none⟩) q.length cb]) (by simp [results, Try.results62, go_sem, r0, r1, r2, r3, r4]) rfl ⟨t, x4, s, d, gb, cb, q, rfl, ?_, by omega, ?_, ?_⟩
    · exact wset (wset (wset (wset (wset (wset (hW) (by first | exact hqp | exact hqr)) (by first | exact hqp | exact hqr)) (by first | exact hqp | exact hqr)) (by first | exact hqp | exact hqr)) (by first | exact hqp | exact hqr)) (by first | exact hqp | exact hqr)
    · exact cur_set (cur_set (cur_set (cur_set (cur_set (cur_set (hC) (B := w.heap.size) (by omega) hgl hbl) (B := w.heap.size) (by omega) hgl hbl) (B := w.heap.size) (by omega) hgl hbl) (B := w.heap.size) (by omega) hgl hbl) (B := w.heap.size) (by omega) hgl hbl) (B := w.heap.size) (by omega) hgl hbl
    · exact only_set (only_set (only_set (only_set (only_set (only_set (hO) (by omega)) (by omega)) (by omega)) (by omega)) (by omega)) (by omega)
  · have hqp : q.length = 0 ∨ ¬ w2.heap.size = gb := by omega
    have hqr : q.length = 0 ∨ ¬ w.heap.size = gb := by omega
    go_wp2_with (go_at_call 71; refine (raw_any _ _ _ _ _ _ _ hC).mono ?_; rintro e w4 ⟨x4, rfl, hC4, hO4⟩; clear p0 p1 p2 p3 p4 fp r0 r1 r2 r3 r4 fr; replace hW := wt_of hO4 hW (by omega); replace kr := (k_of hO4 zr (by omega)).trans kr; replace zr := Nat.lt_of_lt_of_le zr hO4.size; replace kp := (k_of hO4 zp (by omega)).trans kp; replace zp := Nat.lt_of_lt_of_le zp hO4.size; replace hO := only_trans hO hO4; clear hC hO4; have hC := hC4; clear hC4; obtain ⟨p0, p1, p2, p3, p4⟩ := five kp; have fp := Bl.free kp; obtain ⟨r0, r1, r2, r3, r4⟩ := five kr; have fr := Bl.free kr)
    refine bodyPost_ret (v := .agg #[.int .i64 t, .int .i64 p, .int .i64 x4, .int .i64 d, .slice (some ⟨gb, 0, none⟩) q.length cb]) (by simp [results, Try.results62, go_sem, r0, r1, r2, r3, r4]) rfl ⟨t, p, x4, d, gb, cb, q, rfl, ?_, by omega, ?_, ?_⟩
    · exact wset (wset (wset (wset (wset (wset (hW) (by first | exact hqp | exact hqr)) (by first | exact hqp | exact hqr)) (by first | exact hqp | exact hqr)) (by first | exact hqp | exact hqr)) (by first | exact hqp | exact hqr)) (by first | exact hqp | exact hqr)
    · exact cur_set (cur_set (cur_set (cur_set (cur_set (cur_set (hC) (B := w.heap.size) (by omega) hgl hbl) (B := w.heap.size) (by omega) hgl hbl) (B := w.heap.size) (by omega) hgl hbl) (B := w.heap.size) (by omega) hgl hbl) (B := w.heap.size) (by omega) hgl hbl) (B := w.heap.size) (by omega) hgl hbl
    · exact only_set (only_set (only_set (only_set (only_set (only_set (hO) (by omega)) (by omega)) (by omega)) (by omega)) (by omega)) (by omega)
  · refine bodyPost_ret (v := .agg #[.int .i64 t, .int .i64 p, .int .i64 s, .int .i64 d, (.slice (some ⟨w3.heap.size, 0, none⟩) 1481 1481)]) (by simp [results, Try.results62, go_sem, zr, r0, r1, r2, r3, r4]) rfl ⟨t, p, s, d, w3.heap.size, 1481, List.replicate 1481 0, by rw [List.length_replicate], ?_, by omega, ?_, ?_⟩
    · exact wt_eq (by simp) (mine_wt (mine_made _ 1481 (by omega)))
    · exact cur_alloc (cur_set (cur_set (cur_set (cur_set (cur_set (cur_set (hC) (B := w.heap.size) (by omega) hgl hbl) (B := w.heap.size) (by omega) hgl hbl) (B := w.heap.size) (by omega) hgl hbl) (B := w.heap.size) (by omega) hgl hbl) (B := w.heap.size) (by omega) hgl hbl) (B := w.heap.size) (by omega) hgl hbl) _
    · exact only_alloc (only_set (only_set (only_set (only_set (only_set (only_set (hO) (by omega)) (by omega)) (by omega)) (by omega)) (by omega)) (by omega)) _
  · have hqp : q.length = 0 ∨ ¬ w2.heap.size = gb := by omega
    have hqr : q.length = 0 ∨ ¬ w.heap.size = gb := by omega
    have kS : (w3.alloc (.cells #[.int .i64 (-1), .int .i64 4294967296] 3)).heap[w3.heap.size]? = some (.cells #[.int .i64 (-1), .int .i64 4294967296] 3 (0, 0)) := at_new rfl
    have zS : w3.heap.size < (w3.alloc (.cells #[.int .i64 (-1), .int .i64 4294967296] 3)).heap.size := (by simp)
    have z4 := zr
    replace kp := (at_old (o := .cells #[.int .i64 (-1), .int .i64 4294967296] 3) zp).trans kp
    replace kr := (at_old (o := .cells #[.int .i64 (-1), .int .i64 4294967296] 3) zr).trans kr
    replace hO := only_alloc hO (.cells #[.int .i64 (-1), .int .i64 4294967296] 3)
    replace hC := cur_alloc hC (.cells #[.int .i64 (-1), .int .i64 4294967296] 3)
    replace hW := hW.below (below_alloc1 w3 (.cells #[.int .i64 (-1), .int .i64 4294967296] 3))
    replace zp := Nat.lt_trans zp zS
    replace zr := Nat.lt_trans zr zS
    go_wp2_with (go_at_call 70; refine (below_any _ _ _ _ _ _ _ _ hC (by omega) (by omega)).mono ?_; rintro e w5 ⟨x5, rfl, x50, x51, hC5, hO5⟩; clear p0 p1 p2 p3 p4 fp r0 r1 r2 r3 r4 fr; replace kS := (k_of hO5 zS (by omega)).trans kS; replace hW := wt_of hO5 hW (by omega); replace kr := (k_of hO5 zr (by omega)).trans kr; replace zr := Nat.lt_of_lt_of_le zr hO5.size; replace kp := (k_of hO5 zp (by omega)).trans kp; replace zp := Nat.lt_of_lt_of_le zp hO5.size; replace hO := only_trans hO hO5; clear hC hO5; have hC := hC5; clear hC5; obtain ⟨p0, p1, p2, p3, p4⟩ := five kp; have fp := Bl.free kp; obtain ⟨r0, r1, r2, r3, r4⟩ := five kr; have fr := Bl.free kr; obtain ⟨n5, hn5⟩ : ∃ n : Nat, x5 = n := ⟨x5.toNat, (by omega)⟩; subst hn5; obtain ⟨V, hV⟩ := two_at kS n5 (by omega); have hn2 : (n5 : Int) < 2 := x51)
    refine bodyPost_ret (v := .agg #[.int .i64 t, .int .i64 p, .int .i64 s, .int .i64 V, .slice (some ⟨gb, 0, none⟩) q.length cb]) (by simp [results, Try.results62, go_sem, r0, r1, r2, r3, r4]) rfl ⟨t, p, s, V, gb, cb, q, rfl, ?_, by omega, ?_, ?_⟩
    · exact wset (wset (wset (wset (wset (wset (hW) (by first | exact hqp | exact hqr)) (by first | exact hqp | exact hqr)) (by first | exact hqp | exact hqr)) (by first | exact hqp | exact hqr)) (by first | exact hqp | exact hqr)) (by first | exact hqp | exact hqr)
    · exact cur_set (cur_set (cur_set (cur_set (cur_set (cur_set (hC) (B := w.heap.size) (by omega) hgl hbl) (B := w.heap.size) (by omega) hgl hbl) (B := w.heap.size) (by omega) hgl hbl) (B := w.heap.size) (by omega) hgl hbl) (B := w.heap.size) (by omega) hgl hbl) (B := w.heap.size) (by omega) hgl hbl
    · exact only_set (only_set (only_set (only_set (only_set (only_set (hO) (by omega)) (by omega)) (by omega)) (by omega)) (by omega)) (by omega)
  · have hqp : q.length = 0 ∨ ¬ w2.heap.size = gb := by omega
    have hqr : q.length = 0 ∨ ¬ w.heap.size = gb := by omega
    go_wp2_with (go_at_call 70; refine (below_any _ _ _ _ _ _ _ _ hC (by omega) (by omega)).mono ?_; rintro e w4 ⟨x4, rfl, x40, x41, hC4, hO4⟩; clear p0 p1 p2 p3 p4 fp r0 r1 r2 r3 r4 fr; replace hW := wt_of hO4 hW (by omega); replace kr := (k_of hO4 zr (by omega)).trans kr; replace zr := Nat.lt_of_lt_of_le zr hO4.size; replace kp := (k_of hO4 zp (by omega)).trans kp; replace zp := Nat.lt_of_lt_of_le zp hO4.size; replace hO := only_trans hO hO4; clear hC hO4; have hC := hC4; clear hC4; obtain ⟨p0, p1, p2, p3, p4⟩ := five kp; have fp := Bl.free kp; obtain ⟨r0, r1, r2, r3, r4⟩ := five kr; have fr := Bl.free kr)
    refine bodyPost_ret (v := .agg #[.int .i64 x4, .int .i64 p, .int .i64 s, .int .i64 d, .slice (some ⟨gb, 0, none⟩) q.length cb]) (by simp [results, Try.results62, go_sem, r0, r1, r2, r3, r4]) rfl ⟨x4, p, s, d, gb, cb, q, rfl, ?_, by omega, ?_, ?_⟩
    · exact wset (wset (wset (wset (wset (wset (hW) (by first | exact hqp | exact hqr)) (by first | exact hqp | exact hqr)) (by first | exact hqp | exact hqr)) (by first | exact hqp | exact hqr)) (by first | exact hqp | exact hqr)) (by first | exact hqp | exact hqr)
    · exact cur_set (cur_set (cur_set (cur_set (cur_set (cur_set (hC) (B := w.heap.size) (by omega) hgl hbl) (B := w.heap.size) (by omega) hgl hbl) (B := w.heap.size) (by omega) hgl hbl) (B := w.heap.size) (by omega) hgl hbl) (B := w.heap.size) (by omega) hgl hbl) (B := w.heap.size) (by omega) hgl hbl
    · exact only_set (only_set (only_set (only_set (only_set (only_set (hO) (by omega)) (by omega)) (by omega)) (by omega)) (by omega)) (by omega)
  · have hqp : q.length = 0 ∨ ¬ w2.heap.size = gb := by omega
    have hqr : q.length = 0 ∨ ¬ w.heap.size = gb := by omega
    refine bodyPost_ret (v := .agg #[.int .i64 t, .int .i64 p, .int .i64 s, .int .i64 d, .slice (some ⟨gb, 0, none⟩) q.length cb]) (by simp [results, Try.results62, go_sem, r0, r1, r2, r3, r4]) rfl ⟨t, p, s, d, gb, cb, q, rfl, ?_, by omega, ?_, ?_⟩
    · exact wset (wset (wset (wset (wset (hW) (by first | exact hqp | exact hqr)) (by first | exact hqp | exact hqr)) (by first | exact hqp | exact hqr)) (by first | exact hqp | exact hqr)) (by first | exact hqp | exact hqr)
    · exact cur_set (cur_set (cur_set (cur_set (cur_set (hC) (B := w.heap.size) (by omega) hgl hbl) (B := w.heap.size) (by omega) hgl hbl) (B := w.heap.size) (by omega) hgl hbl) (B := w.heap.size) (by omega) hgl hbl) (B := w.heap.size) (by omega) hgl hbl
    · exact only_set (only_set (only_set (only_set (only_set (hO) (by omega)) (by omega)) (by omega)) (by omega)) (by omega)

/-- A datagram is drawn. -/
def DrawnI (w : World) (e : Ending) (w' : World) : Prop :=
  ∃ (t p s d : Int) (gb cap' : Nat) (q : List Int), e = .returned (.agg #[.int .i64 t, .int .i64 p, .int .i64 s, .int .i64 d, .slice (some ⟨gb, 0, none⟩) q.length cap']) ∧ Wt w' (some ⟨gb, 0, none⟩) gb q ∧ Below w.heap.size w w'

set_option maxHeartbeats 4000000 in
theorem hop_any (a : Option Addr) (b off cap : Nat) (l : List Int) (w : World) (h : Rd w a b off l) :
    Calls Try.prog 40 #[.slice a l.length cap] w (DrawnI w) := by
  have B := below_alloc1 w (.cells #[.int .i64 0, .int .i64 0, .int .i64 0, .int .i64 0, .slice none 0 0] 27)
  have kr : (w.alloc (.cells #[.int .i64 0, .int .i64 0, .int .i64 0, .int .i64 0, .slice none 0 0] 27)).heap[w.heap.size]? = some (.cells #[.int .i64 0, .int .i64 0, .int .i64 0, .int .i64 0, .slice none 0 0] 27 (0, 0)) := at_new rfl
  have zr : w.heap.size < (w.alloc (.cells #[.int .i64 0, .int .i64 0, .int .i64 0, .int .i64 0, .slice none 0 0] 27)).heap.size := by simp
  have eW : (w.alloc (.cells #[.int .i64 0, .int .i64 0, .int .i64 0, .int .i64 0, .slice none 0 0] 27)).heap.size = w.heap.size + 1 := by simp
  replace h := h.below B
  go_enter Try.func40, Try.ntmps40
  go_wp2_with (first | (go_at_call 61; refine (new_any _ _ _ _ _ _ h).mono ?_; rintro e w1 ⟨rfl, hC, hb⟩; rw [eW] at hC; replace kr := (hb.block _ zr).trans kr; replace zr := Nat.lt_of_lt_of_le zr hb.size; replace B := next B hb; have sB := B.size; clear h hb) | (go_at_call 62; refine (any_any _ _ _ _ _ _ _ hC).mono ?_; rintro e w2 ⟨t, p, s, d, gb, cb, q, rfl, hW, hgb, hC2, hO2⟩; have hrg := Nat.lt_of_lt_of_le zr hgb; have ltg := cur_lt hC; have hgg := Nat.lt_of_lt_of_le ltg hgb; replace kr := (k_of hO2 zr (by omega)).trans kr; replace zr := Nat.lt_of_lt_of_le zr hO2.size; replace B := hO2.below B sB (by omega); clear hC hO2 hC2; have hql := wt_lt hW; have zw := zr; obtain ⟨r0, r1, r2, r3, r4⟩ := five kr; have fr := Bl.free kr))
  refine bodyPost_ret (v := .agg #[.int .i64 t, .int .i64 p, .int .i64 s, .int .i64 d, .slice (some ⟨gb, 0, none⟩) q.length cb]) (by simp [results, Try.results40, go_sem, zw, r0, r1, r2, r3, r4]) rfl ⟨t, p, s, d, gb, cb, q, rfl, ?_, ?_⟩
  · repeat (first | (with_reducible exact hW) | (with_reducible refine wset ?_ ?_; rotate_left; (first | exact (.inr (by simp; omega)) | (simp <;> omega))) | (with_reducible refine Ir.wt_new ?_))
  · repeat (first | (with_reducible exact B) | (with_reducible refine Ir.bset ?_ _ _ ?_; rotate_left; (simp <;> omega)) | (with_reducible refine Ir.b_new ?_))

set_option maxHeartbeats 4000000 in
theorem bytes_draw (a : Option Addr) (b off cap : Nat) (l : List Int) (w : World) (h : Rd w a b off l) :
    Calls Try.prog 41 #[.slice a l.length cap] w (DrawnI w) := by
  have B := below_alloc1 w (.cells #[.int .i64 0, .int .i64 0, .int .i64 0, .int .i64 0, .slice none 0 0] 27)
  have kr : (w.alloc (.cells #[.int .i64 0, .int .i64 0, .int .i64 0, .int .i64 0, .slice none 0 0] 27)).heap[w.heap.size]? = some (.cells #[.int .i64 0, .int .i64 0, .int .i64 0, .int .i64 0, .slice none 0 0] 27 (0, 0)) := at_new rfl
  have zr : w.heap.size < (w.alloc (.cells #[.int .i64 0, .int .i64 0, .int .i64 0, .int .i64 0, .slice none 0 0] 27)).heap.size := by simp
  have eW : (w.alloc (.cells #[.int .i64 0, .int .i64 0, .int .i64 0, .int .i64 0, .slice none 0 0] 27)).heap.size = w.heap.size + 1 := by simp
  replace h := h.below B
  go_enter Try.func41, Try.ntmps41
  go_wp2_with (first | (go_at_call 61; refine (new_any _ _ _ _ _ _ h).mono ?_; rintro e w1 ⟨rfl, hC, hb⟩; rw [eW] at hC; replace kr := (hb.block _ zr).trans kr; replace zr := Nat.lt_of_lt_of_le zr hb.size; replace B := next B hb; have sB := B.size; clear h hb) | (go_at_call 62; refine (any_any _ _ _ _ _ _ _ hC).mono ?_; rintro e w2 ⟨t, p, s, d, gb, cb, q, rfl, hW, hgb, hC2, hO2⟩; have hrg := Nat.lt_of_lt_of_le zr hgb; have ltg := cur_lt hC; have hgg := Nat.lt_of_lt_of_le ltg hgb; replace kr := (k_of hO2 zr (by omega)).trans kr; replace zr := Nat.lt_of_lt_of_le zr hO2.size; replace B := hO2.below B sB (by omega); clear hC hO2 hC2; have hql := wt_lt hW; have zw := zr; obtain ⟨r0, r1, r2, r3, r4⟩ := five kr; have fr := Bl.free kr))
  refine bodyPost_ret (v := .agg #[.int .i64 t, .int .i64 p, .int .i64 s, .int .i64 d, .slice (some ⟨gb, 0, none⟩) q.length cb]) (by simp [results, Try.results41, go_sem, zw, r0, r1, r2, r3, r4]) rfl ⟨t, p, s, d, gb, cb, q, rfl, ?_, ?_⟩
  · repeat (first | (with_reducible exact hW) | (with_reducible refine wset ?_ ?_; rotate_left; (first | exact (.inr (by simp; omega)) | (simp <;> omega))) | (with_reducible refine Ir.wt_new ?_))
  · repeat (first | (with_reducible exact B) | (with_reducible refine Ir.bset ?_ _ _ ?_; rotate_left; (simp <;> omega)) | (with_reducible refine Ir.b_new ?_))

end Go.Proofs.Ytjbjlmaeaajlhaa.Dr
