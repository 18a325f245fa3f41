/-
  What HeadOf of the program does where it answers a head: the datagram, the closure.
-/
import Derived.Test.YthgbjbebjjeddaaHt
import Derived.Test.YthgbjbebjjeddaaIr
namespace Go.Proofs.Ythgbjbebjjeddaa.Hv
open Go Go.RowKit
open Num Pl Hr Hh Hf Hg Hb Hs Ht

/-- A datagram is handed back; of its data nothing is asked. -/
def Dat (w : World) (T P S D : Int) (e : Ending) (w' : World) : Prop :=
  ∃ a n c, e = .returned (.agg #[.int .i64 T, .int .i64 P, .int .i64 S, .int .i64 D, .slice a n c]) ∧ Below w.heap.size w w'

set_option maxHeartbeats 1000000 in
theorem dat_no (d s t y : Int) (a : Option Addr) (n cap : Nat) (w : World) (hy : ¬ y = 2048) :
    Calls Try.prog 56 #[.agg #[.int .i64 d, .int .i64 s, .int .i64 t, .int .i64 y, .slice a n cap]] w (Dat w 0 0 0 0) := by
  have hne : (y != 2048) = true := by simpa using hy
  go_enter Try.func56, Try.ntmps56
  go_wp2
  refine bodyPost_ret (v := .agg #[.int .i64 0, .int .i64 0, .int .i64 0, .int .i64 0, .slice none 0 0]) (by simp [results, Try.results56, go_sem]) rfl ⟨none, 0, 0, rfl, ?_⟩
  repeat (first | exact Below.refl _ _ | refine Below.setCell ?_ (by simp) _ | refine Below.alloc ?_ (by simp <;> omega) _)

set_option maxHeartbeats 1000000 in
theorem dat_yes (d s t : Int) (a : Option Addr) (b off cap : Nat) (l : List Int) (w : World) (h : Rw.Rd w a b off l) (T P S D C : Int) (L : List Int) (HR : ∀ W, Rw.Rd W a b off l → Calls Try.prog 14 #[.slice a l.length cap] W (Ir.ResC W T P S D C L)) :
    Calls Try.prog 56 #[.agg #[.int .i64 d, .int .i64 s, .int .i64 t, .int .i64 2048, .slice a l.length cap]] w (Dat w T P S D) := by
  obtain ⟨W0, hW0⟩ : ∃ W0, W0 = (w.alloc (.cells #[.int .i64 d, .int .i64 s, .int .i64 t, .int .i64 2048, .slice a l.length cap] 28)).alloc (.cells #[.int .i64 0, .int .i64 0, .int .i64 0, .int .i64 0, .slice none 0 0] 26) := ⟨_, rfl⟩
  have B0 : Below w.heap.size w W0 := by subst hW0; exact Rw.next (below_alloc1 _ _) (below_alloc1 _ _)
  have q2 : W0.heap[w.heap.size + 1]? = some (.cells #[.int .i64 0, .int .i64 0, .int .i64 0, .int .i64 0, .slice none 0 0] 26 (0, 0)) := by subst hW0; exact at_new (by simp)
  have z0 : w.heap.size + 1 < W0.heap.size := by subst hW0; simp
  have hC := HR W0 (h.below B0)
  clear h HR
  go_enter Try.func56, Try.ntmps56
  go_wp2_with (go_at_call 14; rw [← hW0]; refine hC.mono ?_; rintro e w1 ⟨a1, g1, c1, rfl, hw1, hg1, hc1, hb⟩; clear hC hW0 hw1 hg1 hc1; replace q2 := (hb.block _ z0).trans q2; replace z0 := Nat.lt_of_lt_of_le z0 hb.size; replace B0 := Rw.next B0 hb; clear hb; have BX := below_alloc1 w1 (.cells #[.int .i64 T, .int .i64 P, .int .i64 S, .int .i64 D, .slice a1 L.length c1] 26); replace q2 := (BX.block _ z0).trans q2; replace z0 := Nat.lt_of_lt_of_le z0 BX.size; replace B0 := Rw.next B0 BX; clear BX; obtain ⟨x0, x1, x2, x3, x4⟩ := Pf.five q2; have f2 := Bl.free q2)
  refine bodyPost_ret (v := .agg #[.int .i64 T, .int .i64 P, .int .i64 S, .int .i64 D, .slice a1 L.length c1]) (by simp [results, Try.results56, go_sem, x0, x1, x2, x3, x4]) rfl ⟨a1, L.length, c1, rfl, ?_⟩
  exact ((((B0.setCell (by simp) _).setCell (by simp) _).setCell (by simp) _).setCell (by simp) _).setCell (by simp) _

set_option maxHeartbeats 1000000 in
theorem tells58 (g1 g2 g3 : Nat) (p d s t y T P S D : Int) (vb vi : Value) (w : World) (h1 : w.heap[g1]? = some (.cells #[.int .i64 p] 3 (0, 0))) (h2 : w.heap[g2]? = some (.cells #[.int .i64 d, .int .i64 s, .int .i64 t, .int .i64 y, vb] 28 (0, 0))) (h3 : w.heap[g3]? = some (.cells #[.int .i64 T, .int .i64 P, .int .i64 S, .int .i64 D, vi] 26 (0, 0))) (ht : -1 ≤ t) (ht2 : t ≤ 4094) :
    Tells 58 (.pointer (some ⟨g1, 0, none⟩)) (.pointer (some ⟨g2, 0, none⟩)) (.pointer (some ⟨g3, 0, none⟩)) [p, s, d, y, t + 1, S, D, P] w := by
  intro k hk w' hb
  have c1 := one ((hb.block g1 (lt_of_block h1)).trans h1)
  obtain ⟨x0, x1, x2, x3, x4⟩ := Pf.five ((hb.block g2 (lt_of_block h2)).trans h2)
  obtain ⟨y0, y1, y2, y3, y4⟩ := Pf.five ((hb.block g3 (lt_of_block h3)).trans h3)
  clear h1 h2 h3 hb x4 y4
  rcases k8 hk with rfl | rfl | rfl | rfl | rfl | rfl | rfl | rfl
  all_goals
    clear hk
    go_enter Try.func58, Try.ntmps58
    go_wp2
    go_ret
    exact ⟨rfl, rfl⟩

set_option maxHeartbeats 4000000 in
theorem implOf_yes (d s t y p : Int) (a : Option Addr) (b off cap : Nat) (l : List Int) (w : World) (h : Rw.Rd w a b off l) (hok : Pk.okB d s t y l.length = true) (hp1 : 1 ≤ p) (hp2 : p ≤ 255) (T P S D : Int) (HD : ∀ W, Rw.Rd W a b off l → Calls Try.prog 56 #[.agg #[.int .i64 d, .int .i64 s, .int .i64 t, .int .i64 y, .slice a l.length cap]] W (Dat W T P S D)) :
    Calls Try.prog 16 #[.agg #[.int .i64 d, .int .i64 s, .int .i64 t, .int .i64 y, .slice a l.length cap], .int .i64 p] w (ResHB w true [p, s, d, y, t + 1, S, D, P]) := by
  have hy1 := (Pb.ok_parts hok).2.2.1
  have hy2 := (Pb.ok_parts hok).2.2.2.1
  have hq1 : ¬ p < 1 := by omega
  have hq2 : ¬ 255 < p := by omega
  obtain ⟨W0, hW0⟩ : ∃ W0, W0 = ((w.alloc (.cells #[.int .i64 d, .int .i64 s, .int .i64 t, .int .i64 y, .slice a l.length cap] 28)).alloc (.cells #[.int .i64 p] 3)).alloc (.cells #[.slice none 0 0] 43) := ⟨_, rfl⟩
  have B0 : Below w.heap.size w W0 := by subst hW0; exact Rw.next (Rw.next (below_alloc1 _ _) (below_alloc1 _ _)) (below_alloc1 _ _)
  have q1 : W0.heap[w.heap.size]? = some (.cells #[.int .i64 d, .int .i64 s, .int .i64 t, .int .i64 y, .slice a l.length cap] 28 (0, 0)) := by subst hW0; rw [at_old (by simp <;> omega), at_old (by simp), at_new rfl]
  have q2 : W0.heap[w.heap.size + 1]? = some (.cells #[.int .i64 p] 3 (0, 0)) := by subst hW0; rw [at_old (by simp), at_new (by simp)]
  have q4 : W0.heap[w.heap.size + 1 + 1]? = some (.cells #[.slice none 0 0] 43 (0, 0)) := by subst hW0; exact at_new (by simp)
  have z0 : w.heap.size + 1 + 1 < W0.heap.size := by subst hW0; simp
  have zK := z0
  have hOk := Pk.implOk_any d s t y a l.length cap W0
  rw [hok] at hOk
  replace h := h.below B0
  have HDh : Hid (∀ W, Rw.Rd W a b off l → Calls Try.prog 56 #[.agg #[.int .i64 d, .int .i64 s, .int .i64 t, .int .i64 y, .slice a l.length cap]] W (Dat W T P S D)) := HD
  have HN : Hid (∀ (W : World) (g3 : Nat) (vi : Value), W.heap[w.heap.size + 1]? = some (.cells #[.int .i64 p] 3 (0, 0)) → W.heap[w.heap.size]? = some (.cells #[.int .i64 d, .int .i64 s, .int .i64 t, .int .i64 y, .slice a l.length cap] 28 (0, 0)) → W.heap[g3]? = some (.cells #[.int .i64 T, .int .i64 P, .int .i64 S, .int .i64 D, vi] 26 (0, 0)) → Calls Try.prog 57 #[.func (.func 58) #[] #[.pointer (some ⟨w.heap.size + 1, 0, none⟩), .pointer (some ⟨w.heap.size, 0, none⟩), .pointer (some ⟨g3, 0, none⟩)]] W (Made W [p, s, d, y, t + 1, S, D, P])) := fun W g3 vi x1 x2 x3 => by58 _ _ _ _ rfl W (tells58 _ _ _ p d s t y T P S D _ vi W x1 x2 x3 hy1 hy2)
  have HL : Hid ([p, s, d, y, t + 1, S, D, P].length = 8) := rfl
  generalize [p, s, d, y, t + 1, S, D, P] = L at *
  clear hok HD
  go_enter Try.func16, Try.ntmps16
  go_wp2_with (first | (go_at_call 46; rw [← hW0]; refine hOk.mono ?_; rintro e w1 ⟨rfl, hb⟩; clear hOk hW0; replace q1 := (hb.block _ (by omega)).trans q1; replace q2 := (hb.block _ (by omega)).trans q2; replace q4 := (hb.block _ (by omega)).trans q4; replace z0 := Nat.lt_of_lt_of_le z0 hb.size; replace h := h.below hb; replace B0 := Rw.next B0 hb; clear hb; obtain ⟨c0, c1, c2, c3, c4⟩ := Pf.five q1; have cp := one q2) | (go_at_call 56; refine (HDh.out _ h).mono ?_; rintro e w2 ⟨ai, ni, ci, rfl, hb⟩; clear HDh c0 c1 c2 c3 c4 cp; replace q1 := (hb.block _ (by omega)).trans q1; replace q2 := (hb.block _ (by omega)).trans q2; replace q4 := (hb.block _ (by omega)).trans q4; replace z0 := Nat.lt_of_lt_of_le z0 hb.size; replace h := h.below hb; replace B0 := Rw.next B0 hb; clear hb; have zW := z0; have BX := below_alloc1 w2 (.cells #[.int .i64 T, .int .i64 P, .int .i64 S, .int .i64 D, .slice ai ni ci] 26); replace q1 := (BX.block _ (by omega)).trans q1; replace q2 := (BX.block _ (by omega)).trans q2; replace q4 := (BX.block _ (by omega)).trans q4; replace z0 := Nat.lt_of_lt_of_le z0 BX.size; replace h := h.below BX; replace B0 := Rw.next B0 BX; clear BX; have q6 : (w2.alloc (.cells #[.int .i64 T, .int .i64 P, .int .i64 S, .int .i64 D, .slice ai ni ci] 26)).heap[w2.heap.size]? = some (.cells #[.int .i64 T, .int .i64 P, .int .i64 S, .int .i64 D, .slice ai ni ci] 26 (0, 0)) := at_new rfl; have hcall := HN.out _ _ _ q2 q1 q6) | (go_at_call 57; refine hcall.mono ?_; rintro e w3 ⟨g, rfl, hM, hg, hb⟩; clear HN hcall q6; replace q4 := (hb.block _ (by omega)).trans q4; replace z0 := Nat.lt_of_lt_of_le z0 hb.size; replace B0 := Rw.next B0 hb; clear hb; have r4 := one q4; have f4 := Bl.free q4))
  refine bodyPost_ret (v := .tuple #[.agg #[.slice (some ⟨g, 0, none⟩) 8 8], .bool true]) (by simp [results, Try.results16, go_sem, r4]) rfl ⟨_, g, _, by rw [HL.out], ?_, ?_, ?_⟩
  · exact wt_set (mine_wt hM) (by simp at hg ⊢; omega)
  · simp at hg; omega
  · exact B0.setCell (by simp <;> omega) _

end Go.Proofs.Ythgbjbebjjeddaa.Hv
