/-
  The contract of the specification's HeadOf where it answers a head; both by one word.
-/
import Derived.Test.YthgbjbebjjeddaaHv
namespace Go.Proofs.Ythgbjbebjjeddaa.Hv
open Go Go.RowKit
open Num Pl Hr Hh Hf Hg Hb Hs Ht

set_option maxHeartbeats 4000000 in
theorem specOf_plain (d s t y p : Int) (a : Option Addr) (cap : Nat) (l : List Int) (w : World) (hok : Pk.okB d s t y l.length = true) (hp1 : 1 ≤ p) (hp2 : p ≤ 255) (hy : ¬ y = 2048) :
    Calls Try.prog 25 #[.agg #[.int .i64 d, .int .i64 s, .int .i64 t, .int .i64 y, .slice a l.length cap], .int .i64 p] w (ResHB w true [p, s, d, y, t + 1, 0, 0, 0]) := by
  have hy1 := (Pb.ok_parts hok).2.2.1
  have hy2 := (Pb.ok_parts hok).2.2.2.1
  have hq1 : ¬ p < 1 := by omega
  have hq2 : ¬ 255 < p := by omega
  have hne : (y == 2048) = false := by simpa using hy
  obtain ⟨W0, hW0⟩ : ∃ W0, W0 = (w.alloc (.cells #[.int .i64 d, .int .i64 s, .int .i64 t, .int .i64 y, .slice a l.length cap] 28)).alloc (.cells #[.slice none 0 0] 43) := ⟨_, rfl⟩
  have B0 : Below w.heap.size w W0 := by subst hW0; exact Rw.next (below_alloc1 _ _) (below_alloc1 _ _)
  have q1 : W0.heap[w.heap.size]? = some (.cells #[.int .i64 d, .int .i64 s, .int .i64 t, .int .i64 y, .slice a l.length cap] 28 (0, 0)) := by subst hW0; rw [at_old (by simp), at_new rfl]
  have q4 : W0.heap[w.heap.size + 1]? = some (.cells #[.slice none 0 0] 43 (0, 0)) := by subst hW0; exact at_new (by simp)
  have z0 : w.heap.size + 1 < W0.heap.size := by subst hW0; simp
  have zK := z0
  have hOk := Pk.specOk_any d s t y a l.length cap W0
  rw [hok] at hOk
  clear hok
  go_enter Try.func25, Try.ntmps25
  go_wp2_with (go_at_call 67; rw [← hW0]; refine hOk.mono ?_; rintro e w1 ⟨rfl, hb⟩; clear hOk hW0; replace q1 := (hb.block _ (by omega)).trans q1; replace q4 := (hb.block _ (by omega)).trans q4; replace z0 := Nat.lt_of_lt_of_le z0 hb.size; replace B0 := Rw.next B0 hb; clear hb; have zV : w.heap.size < w1.heap.size := (by omega); obtain ⟨c0, c1, c2, c3, c4⟩ := Pf.five q1; have r4 := one q4; have f4 := Bl.free q4)
  refine bodyPost_ret (v := .tuple #[.agg #[.slice (some ⟨w1.heap.size + 1, 0, none⟩) 8 8], .bool true]) (by simp [results, Try.results25, go_sem, r4, z0, zV]) rfl ⟨_, w1.heap.size + 1, _, rfl, ?_, ?_, ?_⟩
  · exact wt_built (at_new (by simp))
  · omega
  · exact Rw.next (Rw.next (B0.setCell (by simp <;> omega) _) (below_alloc1 _ _)) (below_alloc1 _ _)

set_option maxHeartbeats 4000000 in
theorem specOf_ip (d s t p : Int) (a : Option Addr) (b off cap : Nat) (l : List Int) (w : World) (h : Rw.Rd w a b off l) (hcap : l.length ≤ cap) (hok : Pk.okB d s t 2048 l.length = true) (hp1 : 1 ≤ p) (hp2 : p ≤ 255) (T P S D C : Int) (M : List Int) (HA : Sk.Alike l T P S D C M) :
    Calls Try.prog 25 #[.agg #[.int .i64 d, .int .i64 s, .int .i64 t, .int .i64 2048, .slice a l.length cap], .int .i64 p] w (ResHB w true [p, s, d, 2048, t + 1, S, D, P]) := by
  have hy1 := (Pb.ok_parts hok).2.2.1
  have hy2 := (Pb.ok_parts hok).2.2.2.1
  have hq1 : ¬ p < 1 := by omega
  have hq2 : ¬ 255 < p := by omega
  obtain ⟨W0, hW0⟩ : ∃ W0, W0 = (w.alloc (.cells #[.int .i64 d, .int .i64 s, .int .i64 t, .int .i64 2048, .slice a l.length cap] 28)).alloc (.cells #[.slice none 0 0] 43) := ⟨_, rfl⟩
  have B0 : Below w.heap.size w W0 := by subst hW0; exact Rw.next (below_alloc1 _ _) (below_alloc1 _ _)
  have q1 : W0.heap[w.heap.size]? = some (.cells #[.int .i64 d, .int .i64 s, .int .i64 t, .int .i64 2048, .slice a l.length cap] 28 (0, 0)) := by subst hW0; rw [at_old (by simp), at_new rfl]
  have q4 : W0.heap[w.heap.size + 1]? = some (.cells #[.slice none 0 0] 43 (0, 0)) := by subst hW0; exact at_new (by simp)
  have z0 : w.heap.size + 1 < W0.heap.size := by subst hW0; simp
  have zK := z0
  have hOk := Pk.specOk_any d s t 2048 a l.length cap W0
  rw [hok] at hOk
  have HR : Hid (∀ W, Rw.Rd W a b off l → Calls Try.prog 68 #[.slice a l.length cap] W (Ir.ResC W T P S D C M)) := fun W hW => HA.2 a b off cap W hW hcap
  replace h := h.below B0
  clear hok HA
  go_enter Try.func25, Try.ntmps25
  go_wp2_with (first | (go_at_call 67; rw [← hW0]; refine hOk.mono ?_; rintro e w1 ⟨rfl, hb⟩; clear hOk hW0; replace q1 := (hb.block _ (by omega)).trans q1; replace q4 := (hb.block _ (by omega)).trans q4; replace z0 := Nat.lt_of_lt_of_le z0 hb.size; replace h := h.below hb; replace B0 := Rw.next B0 hb; clear hb; have BX := below_alloc1 w1 (.cells #[.int .i64 0, .int .i64 0, .int .i64 0, .int .i64 0, .slice none 0 0] 26); have zW := z0; replace q1 := (BX.block _ (by omega)).trans q1; replace q4 := (BX.block _ (by omega)).trans q4; replace z0 := Nat.lt_of_lt_of_le z0 BX.size; replace h := h.below BX; replace B0 := Rw.next B0 BX; clear BX; have q6 : (w1.alloc (.cells #[.int .i64 0, .int .i64 0, .int .i64 0, .int .i64 0, .slice none 0 0] 26)).heap[w1.heap.size]? = some (.cells #[.int .i64 0, .int .i64 0, .int .i64 0, .int .i64 0, .slice none 0 0] 26 (0, 0)) := at_new rfl; have z6 : w1.heap.size < (w1.alloc (.cells #[.int .i64 0, .int .i64 0, .int .i64 0, .int .i64 0, .slice none 0 0] 26)).heap.size := (by simp); obtain ⟨c0, c1, c2, c3, c4⟩ := Pf.five q1) | (go_at_call 68; refine (HR.out _ h).mono ?_; rintro e w2 ⟨a2, g2, c2', rfl, hw2, hg2, hc2, hb⟩; clear HR hw2 hg2 hc2 c0 c1 c2 c3 c4; replace q6 := (hb.block _ z6).trans q6; replace z6 := Nat.lt_of_lt_of_le z6 hb.size; replace q1 := (hb.block _ (by omega)).trans q1; replace q4 := (hb.block _ (by omega)).trans q4; replace z0 := Nat.lt_of_lt_of_le z0 hb.size; replace h := h.below hb; replace B0 := Rw.next B0 hb; clear hb; obtain ⟨c0, c1, c2, c3, c4⟩ := Pf.five q1; obtain ⟨i0, i1, i2, i3, i4⟩ := Pf.five q6; have r4 := one q4; have f4 := Bl.free q4; have f6 := Bl.free q6; have n1 : ¬ w1.heap.size = w.heap.size := (by omega); have n2 : ¬ w1.heap.size = w.heap.size + 1 := (by omega); have n3 : ¬ w.heap.size = w1.heap.size := (by omega); have n4 : ¬ w.heap.size + 1 = w1.heap.size := (by omega)))
  refine bodyPost_ret (v := .tuple #[.agg #[.slice (some ⟨w2.heap.size, 0, none⟩) 8 8], .bool true]) (by simp [results, Try.results25, go_sem, r4, z0]) rfl ⟨_, w2.heap.size, _, rfl, ?_, ?_, ?_⟩
  · exact wt_built (at_new (by simp))
  · omega
  · exact Rw.next ((((((B0.setCell (by simp <;> omega) _).setCell (by simp <;> omega) _).setCell (by simp <;> omega) _).setCell (by simp <;> omega) _).setCell (by simp <;> omega) _).setCell (by simp <;> omega) _) (below_alloc1 _ _)

/-- Both by one word. -/
theorem headOf (d s t y p : Int) (l : List Int) : ∃ OK L, (∀ a b off cap w, Rw.Rd w a b off l → l.length ≤ cap → Calls Try.prog 16 #[.agg #[.int .i64 d, .int .i64 s, .int .i64 t, .int .i64 y, .slice a l.length cap], .int .i64 p] w (ResHB w OK L)) ∧ (∀ a b off cap w, Rw.Rd w a b off l → l.length ≤ cap → Calls Try.prog 25 #[.agg #[.int .i64 d, .int .i64 s, .int .i64 t, .int .i64 y, .slice a l.length cap], .int .i64 p] w (ResHB w OK L)) := by
  cases hok : Pk.okB d s t y l.length with
  | false => exact ⟨false, [], fun a b off cap w _ _ => implOf_no1 d s t y p a cap l w hok, fun a b off cap w _ _ => specOf_no1 d s t y p a cap l w hok⟩
  | true =>
    by_cases hp1 : p < 1
    · exact ⟨false, [], fun a b off cap w _ _ => implOf_no2 d s t y p a cap l w hok hp1, fun a b off cap w _ _ => specOf_no2 d s t y p a cap l w hok hp1⟩
    · by_cases hp2 : 255 < p
      · exact ⟨false, [], fun a b off cap w _ _ => implOf_no3 d s t y p a cap l w hok hp2, fun a b off cap w _ _ => specOf_no3 d s t y p a cap l w hok hp2⟩
      · by_cases hy : y = 2048
        · subst hy
          obtain ⟨T, P, S, D, C, M, HA⟩ := readAny l
          exact ⟨true, _, fun a b off cap w h hc => implOf_yes d s t 2048 p a b off cap l w h hok (by omega) (by omega) T P S D (fun W hW => dat_yes d s t a b off cap l W hW T P S D C M (fun W' hW' => HA.1 a b off cap W' hW' hc)), fun a b off cap w h hc => specOf_ip d s t p a b off cap l w h hc hok (by omega) (by omega) T P S D C M HA⟩
        · exact ⟨true, _, fun a b off cap w h _ => implOf_yes d s t y p a b off cap l w h hok (by omega) (by omega) 0 0 0 0 (fun W _ => dat_no d s t y a l.length cap W hy), fun a b off cap w _ _ => specOf_plain d s t y p a cap l w hok (by omega) (by omega) hy⟩

end Go.Proofs.Ythgbjbebjjeddaa.Hv
