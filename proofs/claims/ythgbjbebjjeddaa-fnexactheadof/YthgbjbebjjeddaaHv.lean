/-
  Contracts of the two HeadOf, on every packet and port.
-/
import Derived.Test.YthgbjbebjjeddaaHu
import Derived.Test.YthgbjbebjjeddaaSk
namespace Go.Proofs.Ythgbjbebjjeddaa.Hv
open Go Go.RowKit
open Num Pl Hr Hh Hf Hg Hb Hs Ht

/-- Both IpRead answer alike. -/
theorem readAny (l : List Int) : ∃ T P S D C L, Sk.Alike l T P S D C L := by
  by_cases hc : Ipl.code l = 0
  · exact ⟨_, _, _, _, _, _, Sk.alike0 hc⟩
  · exact ⟨_, _, _, _, _, _, Sk.alike hc⟩


set_option maxHeartbeats 2000000 in
theorem implOf_no1 (d s t y p : Int) (a : Option Addr) (cap : Nat) (l : List Int) (w : World) (hok : Pk.okB d s t y l.length = false) :
    Calls Try.prog 16 #[.agg #[.int .i64 d, .int .i64 s, .int .i64 t, .int .i64 y, .slice a l.length cap], .int .i64 p] w (ResHB w false []) := by
  obtain ⟨W0, hW0⟩ : ∃ W0, W0 = ((w.alloc (.cells #[.int .i64 d, .int .i64 s, .int .i64 t, .int .i64 y, .slice a l.length cap] 28)).alloc (.cells #[.int .i64 p] 3)).alloc (.cells #[.slice none 0 0] 43) := ⟨_, rfl⟩
  have B0 : Below w.heap.size w W0 := by subst hW0; exact Rw.next (Rw.next (below_alloc1 _ _) (below_alloc1 _ _)) (below_alloc1 _ _)
  have q1 : W0.heap[w.heap.size]? = some (.cells #[.int .i64 d, .int .i64 s, .int .i64 t, .int .i64 y, .slice a l.length cap] 28 (0, 0)) := by subst hW0; rw [at_old (by simp <;> omega), at_old (by simp), at_new rfl]
  have q2 : W0.heap[w.heap.size + 1]? = some (.cells #[.int .i64 p] 3 (0, 0)) := by subst hW0; rw [at_old (by simp), at_new (by simp)]
  have q4 : W0.heap[w.heap.size + 1 + 1]? = some (.cells #[.slice none 0 0] 43 (0, 0)) := by subst hW0; exact at_new (by simp)
  have z0 : w.heap.size + 1 + 1 < W0.heap.size := by subst hW0; simp
  have zK := z0
  have hOk := Pk.implOk_any d s t y a l.length cap W0
  rw [hok] at hOk
  clear hok
  go_enter Try.func16, Try.ntmps16
  go_wp2_with (go_at_call 46; rw [← hW0]; refine hOk.mono ?_; rintro e w1 ⟨rfl, hb⟩; clear hOk hW0; replace q1 := (hb.block _ (by omega)).trans q1; replace q2 := (hb.block _ (by omega)).trans q2; replace q4 := (hb.block _ (by omega)).trans q4; replace z0 := Nat.lt_of_lt_of_le z0 hb.size; replace B0 := Rw.next B0 hb; clear hb; obtain ⟨c0, c1, c2, c3, c4⟩ := Pf.five q1; have cp := one q2; have r4 := one q4; have f4 := Bl.free q4)
  refine bodyPost_ret (v := .tuple #[.agg #[.slice none 0 0], .bool false]) (by simp [results, Try.results16, go_sem, r4]) rfl (res_none ?_)
  exact B0.setCell (by simp <;> omega) _

set_option maxHeartbeats 2000000 in
theorem implOf_no2 (d s t y p : Int) (a : Option Addr) (cap : Nat) (l : List Int) (w : World) (hok : Pk.okB d s t y l.length = true) (hp : p < 1) :
    Calls Try.prog 16 #[.agg #[.int .i64 d, .int .i64 s, .int .i64 t, .int .i64 y, .slice a l.length cap], .int .i64 p] w (ResHB w false []) := by
  obtain ⟨W0, hW0⟩ : ∃ W0, W0 = ((w.alloc (.cells #[.int .i64 d, .int .i64 s, .int .i64 t, .int .i64 y, .slice a l.length cap] 28)).alloc (.cells #[.int .i64 p] 3)).alloc (.cells #[.slice none 0 0] 43) := ⟨_, rfl⟩
  have B0 : Below w.heap.size w W0 := by subst hW0; exact Rw.next (Rw.next (below_alloc1 _ _) (below_alloc1 _ _)) (below_alloc1 _ _)
  have q1 : W0.heap[w.heap.size]? = some (.cells #[.int .i64 d, .int .i64 s, .int .i64 t, .int .i64 y, .slice a l.length cap] 28 (0, 0)) := by subst hW0; rw [at_old (by simp <;> omega), at_old (by simp), at_new rfl]
  have q2 : W0.heap[w.heap.size + 1]? = some (.cells #[.int .i64 p] 3 (0, 0)) := by subst hW0; rw [at_old (by simp), at_new (by simp)]
  have q4 : W0.heap[w.heap.size + 1 + 1]? = some (.cells #[.slice none 0 0] 43 (0, 0)) := by subst hW0; exact at_new (by simp)
  have z0 : w.heap.size + 1 + 1 < W0.heap.size := by subst hW0; simp
  have zK := z0
  have hOk := Pk.implOk_any d s t y a l.length cap W0
  rw [hok] at hOk
  clear hok
  go_enter Try.func16, Try.ntmps16
  go_wp2_with (go_at_call 46; rw [← hW0]; refine hOk.mono ?_; rintro e w1 ⟨rfl, hb⟩; clear hOk hW0; replace q1 := (hb.block _ (by omega)).trans q1; replace q2 := (hb.block _ (by omega)).trans q2; replace q4 := (hb.block _ (by omega)).trans q4; replace z0 := Nat.lt_of_lt_of_le z0 hb.size; replace B0 := Rw.next B0 hb; clear hb; obtain ⟨c0, c1, c2, c3, c4⟩ := Pf.five q1; have cp := one q2; have r4 := one q4; have f4 := Bl.free q4)
  refine bodyPost_ret (v := .tuple #[.agg #[.slice none 0 0], .bool false]) (by simp [results, Try.results16, go_sem, r4]) rfl (res_none ?_)
  exact B0.setCell (by simp <;> omega) _

set_option maxHeartbeats 2000000 in
theorem implOf_no3 (d s t y p : Int) (a : Option Addr) (cap : Nat) (l : List Int) (w : World) (hok : Pk.okB d s t y l.length = true) (hp : 255 < p) :
    Calls Try.prog 16 #[.agg #[.int .i64 d, .int .i64 s, .int .i64 t, .int .i64 y, .slice a l.length cap], .int .i64 p] w (ResHB w false []) := by
  obtain ⟨W0, hW0⟩ : ∃ W0, W0 = ((w.alloc (.cells #[.int .i64 d, .int .i64 s, .int .i64 t, .int .i64 y, .slice a l.length cap] 28)).alloc (.cells #[.int .i64 p] 3)).alloc (.cells #[.slice none 0 0] 43) := ⟨_, rfl⟩
  have B0 : Below w.heap.size w W0 := by subst hW0; exact Rw.next (Rw.next (below_alloc1 _ _) (below_alloc1 _ _)) (below_alloc1 _ _)
  have q1 : W0.heap[w.heap.size]? = some (.cells #[.int .i64 d, .int .i64 s, .int .i64 t, .int .i64 y, .slice a l.length cap] 28 (0, 0)) := by subst hW0; rw [at_old (by simp <;> omega), at_old (by simp), at_new rfl]
  have q2 : W0.heap[w.heap.size + 1]? = some (.cells #[.int .i64 p] 3 (0, 0)) := by subst hW0; rw [at_old (by simp), at_new (by simp)]
  have q4 : W0.heap[w.heap.size + 1 + 1]? = some (.cells #[.slice none 0 0] 43 (0, 0)) := by subst hW0; exact at_new (by simp)
  have z0 : w.heap.size + 1 + 1 < W0.heap.size := by subst hW0; simp
  have zK := z0
  have hp1 : ¬ p < 1 := by omega
  have hOk := Pk.implOk_any d s t y a l.length cap W0
  rw [hok] at hOk
  clear hok
  go_enter Try.func16, Try.ntmps16
  go_wp2_with (go_at_call 46; rw [← hW0]; refine hOk.mono ?_; rintro e w1 ⟨rfl, hb⟩; clear hOk hW0; replace q1 := (hb.block _ (by omega)).trans q1; replace q2 := (hb.block _ (by omega)).trans q2; replace q4 := (hb.block _ (by omega)).trans q4; replace z0 := Nat.lt_of_lt_of_le z0 hb.size; replace B0 := Rw.next B0 hb; clear hb; obtain ⟨c0, c1, c2, c3, c4⟩ := Pf.five q1; have cp := one q2; have r4 := one q4; have f4 := Bl.free q4)
  refine bodyPost_ret (v := .tuple #[.agg #[.slice none 0 0], .bool false]) (by simp [results, Try.results16, go_sem, r4]) rfl (res_none ?_)
  exact B0.setCell (by simp <;> omega) _

set_option maxHeartbeats 2000000 in
theorem specOf_no1 (d s t y p : Int) (a : Option Addr) (cap : Nat) (l : List Int) (w : World) (hok : Pk.okB d s t y l.length = false) :
    Calls Try.prog 25 #[.agg #[.int .i64 d, .int .i64 s, .int .i64 t, .int .i64 y, .slice a l.length cap], .int .i64 p] w (ResHB w false []) := by
  obtain ⟨W0, hW0⟩ : ∃ W0, W0 = (w.alloc (.cells #[.int .i64 d, .int .i64 s, .int .i64 t, .int .i64 y, .slice a l.length cap] 28)).alloc (.cells #[.slice none 0 0] 43) := ⟨_, rfl⟩
  have B0 : Below w.heap.size w W0 := by subst hW0; exact Rw.next (below_alloc1 _ _) (below_alloc1 _ _)
  have q1 : W0.heap[w.heap.size]? = some (.cells #[.int .i64 d, .int .i64 s, .int .i64 t, .int .i64 y, .slice a l.length cap] 28 (0, 0)) := by subst hW0; rw [at_old (by simp), at_new rfl]
  have q4 : W0.heap[w.heap.size + 1]? = some (.cells #[.slice none 0 0] 43 (0, 0)) := by subst hW0; exact at_new (by simp)
  have z0 : w.heap.size + 1 < W0.heap.size := by subst hW0; simp
  have zK := z0
  have hOk := Pk.specOk_any d s t y a l.length cap W0
  rw [hok] at hOk
  clear hok
  go_enter Try.func25, Try.ntmps25
  go_wp2_with (go_at_call 67; rw [← hW0]; refine hOk.mono ?_; rintro e w1 ⟨rfl, hb⟩; clear hOk hW0; replace q1 := (hb.block _ (by omega)).trans q1; replace q4 := (hb.block _ (by omega)).trans q4; replace z0 := Nat.lt_of_lt_of_le z0 hb.size; replace B0 := Rw.next B0 hb; clear hb; obtain ⟨c0, c1, c2, c3, c4⟩ := Pf.five q1; have r4 := one q4; have f4 := Bl.free q4)
  refine bodyPost_ret (v := .tuple #[.agg #[.slice none 0 0], .bool false]) (by simp [results, Try.results25, go_sem, r4]) rfl (res_none ?_)
  exact B0.setCell (by simp <;> omega) _

set_option maxHeartbeats 2000000 in
theorem specOf_no2 (d s t y p : Int) (a : Option Addr) (cap : Nat) (l : List Int) (w : World) (hok : Pk.okB d s t y l.length = true) (hp : p < 1) :
    Calls Try.prog 25 #[.agg #[.int .i64 d, .int .i64 s, .int .i64 t, .int .i64 y, .slice a l.length cap], .int .i64 p] w (ResHB w false []) := by
  obtain ⟨W0, hW0⟩ : ∃ W0, W0 = (w.alloc (.cells #[.int .i64 d, .int .i64 s, .int .i64 t, .int .i64 y, .slice a l.length cap] 28)).alloc (.cells #[.slice none 0 0] 43) := ⟨_, rfl⟩
  have B0 : Below w.heap.size w W0 := by subst hW0; exact Rw.next (below_alloc1 _ _) (below_alloc1 _ _)
  have q1 : W0.heap[w.heap.size]? = some (.cells #[.int .i64 d, .int .i64 s, .int .i64 t, .int .i64 y, .slice a l.length cap] 28 (0, 0)) := by subst hW0; rw [at_old (by simp), at_new rfl]
  have q4 : W0.heap[w.heap.size + 1]? = some (.cells #[.slice none 0 0] 43 (0, 0)) := by subst hW0; exact at_new (by simp)
  have z0 : w.heap.size + 1 < W0.heap.size := by subst hW0; simp
  have zK := z0
  have hOk := Pk.specOk_any d s t y a l.length cap W0
  rw [hok] at hOk
  clear hok
  go_enter Try.func25, Try.ntmps25
  go_wp2_with (go_at_call 67; rw [← hW0]; refine hOk.mono ?_; rintro e w1 ⟨rfl, hb⟩; clear hOk hW0; replace q1 := (hb.block _ (by omega)).trans q1; replace q4 := (hb.block _ (by omega)).trans q4; replace z0 := Nat.lt_of_lt_of_le z0 hb.size; replace B0 := Rw.next B0 hb; clear hb; obtain ⟨c0, c1, c2, c3, c4⟩ := Pf.five q1; have r4 := one q4; have f4 := Bl.free q4)
  refine bodyPost_ret (v := .tuple #[.agg #[.slice none 0 0], .bool false]) (by simp [results, Try.results25, go_sem, r4]) rfl (res_none ?_)
  exact B0.setCell (by simp <;> omega) _

set_option maxHeartbeats 2000000 in
theorem specOf_no3 (d s t y p : Int) (a : Option Addr) (cap : Nat) (l : List Int) (w : World) (hok : Pk.okB d s t y l.length = true) (hp : 255 < p) :
    Calls Try.prog 25 #[.agg #[.int .i64 d, .int .i64 s, .int .i64 t, .int .i64 y, .slice a l.length cap], .int .i64 p] w (ResHB w false []) := by
  obtain ⟨W0, hW0⟩ : ∃ W0, W0 = (w.alloc (.cells #[.int .i64 d, .int .i64 s, .int .i64 t, .int .i64 y, .slice a l.length cap] 28)).alloc (.cells #[.slice none 0 0] 43) := ⟨_, rfl⟩
  have B0 : Below w.heap.size w W0 := by subst hW0; exact Rw.next (below_alloc1 _ _) (below_alloc1 _ _)
  have q1 : W0.heap[w.heap.size]? = some (.cells #[.int .i64 d, .int .i64 s, .int .i64 t, .int .i64 y, .slice a l.length cap] 28 (0, 0)) := by subst hW0; rw [at_old (by simp), at_new rfl]
  have q4 : W0.heap[w.heap.size + 1]? = some (.cells #[.slice none 0 0] 43 (0, 0)) := by subst hW0; exact at_new (by simp)
  have z0 : w.heap.size + 1 < W0.heap.size := by subst hW0; simp
  have zK := z0
  have hp1 : ¬ p < 1 := by omega
  have hOk := Pk.specOk_any d s t y a l.length cap W0
  rw [hok] at hOk
  clear hok
  go_enter Try.func25, Try.ntmps25
  go_wp2_with (go_at_call 67; rw [← hW0]; refine hOk.mono ?_; rintro e w1 ⟨rfl, hb⟩; clear hOk hW0; replace q1 := (hb.block _ (by omega)).trans q1; replace q4 := (hb.block _ (by omega)).trans q4; replace z0 := Nat.lt_of_lt_of_le z0 hb.size; replace B0 := Rw.next B0 hb; clear hb; obtain ⟨c0, c1, c2, c3, c4⟩ := Pf.five q1; have r4 := one q4; have f4 := Bl.free q4)
  refine bodyPost_ret (v := .tuple #[.agg #[.slice none 0 0], .bool false]) (by simp [results, Try.results25, go_sem, r4]) rfl (res_none ?_)
  exact B0.setCell (by simp <;> omega) _

end Go.Proofs.Ythgbjbebjjeddaa.Hv
