/-
  Contracts of the two SmallHead, on every three integers.
-/
import Derived.Test.YthgbjbebjjeddaaHb
namespace Go.Proofs.Ythgbjbebjjeddaa.Hs
open Go Go.RowKit
open Num Pl Hr Hh Hf Hg Hb

theorem k8 {k : Nat} (h : k < 8) : k = 0 ∨ k = 1 ∨ k = 2 ∨ k = 3 ∨ k = 4 ∨ k = 5 ∨ k = 6 ∨ k = 7 := by omega

/-- A head in memory of the call's own. -/
def ResH (w : World) (L : List Int) (e : Ending) (w' : World) : Prop :=
  ∃ a g cap, e = .returned (.agg #[.slice a L.length cap]) ∧ Wt w' a g L ∧ w.heap.size ≤ g ∧ Below w.heap.size w w'

theorem wt_built {w : World} {g : Nat} {x0 x1 x2 x3 x4 x5 x6 x7 : Int} (h : w.heap[g]? = some (.cells #[.int .i64 x0, .int .i64 x1, .int .i64 x2, .int .i64 x3, .int .i64 x4, .int .i64 x5, .int .i64 x6, .int .i64 x7] 3 (0, 0))) :
    Wt w (some ⟨g, 0, none⟩) g [x0, x1, x2, x3, x4, x5, x6, x7] := by
  refine ⟨fun _ => rfl, fun i hi => ?_, fun i _ => Bl.free h i, by simp⟩
  have hi8 : i < 8 := hi
  rw [Bl.cell h]
  rcases k8 hi8 with rfl | rfl | rfl | rfl | rfl | rfl | rfl | rfl <;> rfl

theorem wt_set {w : World} {a : Option Addr} {g : Nat} {l : List Int} {ad : Addr} {u : Value} (h : Wt w a g l) (hne : ¬ ad.block = g) : Wt (w.setCell ad u) a g l := by
  have e : (w.setCell ad u).heap[g]? = w.heap[g]? := Below.heap_setCell w ad u g (fun e => hne e.symm)
  refine ⟨h.head, fun i hi => ?_, fun i hi => ?_, h.size⟩
  · have := h.cell i hi
    simp only [World.cell?, e] at this ⊢
    exact this
  · have := h.free i hi
    simp only [World.frozen?, e] at this ⊢
    exact this

/-- The list of a small head. -/
def smL (i s d : Int) : List Int := [i, s, d, 2048, 0, 0, 0, 0]
/-- What SmallHead answers. -/
def smallL (i s d : Int) : List Int := if headB (smL i s d) = true then smL i s d else []

set_option maxHeartbeats 1000000 in
theorem tells75 (g1 g2 g3 : Nat) (x y z : Int) (w : World) (h1 : w.cell? ⟨g1, 0, none⟩ = some (.int .i64 x)) (h2 : w.cell? ⟨g2, 0, none⟩ = some (.int .i64 y)) (h3 : w.cell? ⟨g3, 0, none⟩ = some (.int .i64 z)) :
    Tells 75 (.pointer (some ⟨g1, 0, none⟩)) (.pointer (some ⟨g2, 0, none⟩)) (.pointer (some ⟨g3, 0, none⟩)) (smL x y z) w := by
  intro k hk w' hb
  have c1 := (hb.cell (World.block_lt_of_cell? _ _ h1)).trans h1
  have c2 := (hb.cell (World.block_lt_of_cell? _ _ h2)).trans h2
  have c3 := (hb.cell (World.block_lt_of_cell? _ _ h3)).trans h3
  clear h1 h2 h3 hb
  unfold smL
  rcases k8 hk with rfl | rfl | rfl | rfl | rfl | rfl | rfl | rfl
  all_goals
    clear hk
    go_enter Try.func75, Try.ntmps75
    go_wp2
    go_ret
    exact ⟨rfl, rfl⟩

set_option maxHeartbeats 2000000 in
theorem implSmall_any (i s d : Int) (w : World) :
    Calls Try.prog 34 #[.int .i64 i, .int .i64 s, .int .i64 d] w (ResH w (smallL i s d)) := by
  obtain ⟨W0, hW0⟩ : ∃ W0, W0 = (((w.alloc (.cells #[.int .i64 i] 3)).alloc (.cells #[.int .i64 s] 3)).alloc (.cells #[.int .i64 d] 3)).alloc (.cells #[.slice none 0 0] 43) := ⟨_, rfl⟩
  have B0 : Below w.heap.size w W0 := by subst hW0; exact Rw.next (Rw.next (Rw.next (below_alloc1 _ _) (below_alloc1 _ _)) (below_alloc1 _ _)) (below_alloc1 _ _)
  have q1 : W0.heap[w.heap.size]? = some (.cells #[.int .i64 i] 3 (0, 0)) := by subst hW0; rw [at_old (by simp <;> omega), at_old (by simp <;> omega), at_old (by simp), at_new rfl]
  have q2 : W0.heap[w.heap.size + 1]? = some (.cells #[.int .i64 s] 3 (0, 0)) := by subst hW0; rw [at_old (by simp <;> omega), at_old (by simp), at_new (by simp)]
  have q3 : W0.heap[w.heap.size + 1 + 1]? = some (.cells #[.int .i64 d] 3 (0, 0)) := by subst hW0; rw [at_old (by simp), at_new (by simp)]
  have q4 : W0.heap[w.heap.size + 1 + 1 + 1]? = some (.cells #[.slice none 0 0] 43 (0, 0)) := by subst hW0; exact at_new (by simp)
  have z0 : w.heap.size + 1 + 1 + 1 < W0.heap.size := by subst hW0; simp
  have zK := z0
  have hT := by75 _ _ _ (smL i s d) rfl W0 (tells75 _ _ _ i s d W0 (one q1) (one q2) (one q3))
  have HE : Hid (smallL i s d = if headB (smL i s d) = true then smL i s d else []) := rfl
  have HL : Hid ((smL i s d).length = 8) := rfl
  generalize smallL i s d = R at *
  generalize smL i s d = L at *
  clear q1 q2 q3
  cases hB : headB L with
  | true =>
    rw [hB] at HE
    obtain rfl : R = L := by simpa using HE.out
    go_enter Try.func34, Try.ntmps34
    go_wp2_with (first | (go_at_call 57; rw [← hW0]; refine hT.mono ?_; rintro e w1 ⟨g, rfl, hM, hg, hb⟩; clear hW0 hT; replace q4 := (hb.block _ z0).trans q4; replace z0 := Nat.lt_of_lt_of_le z0 hb.size; replace B0 := Rw.next B0 hb; clear hb; have hlg := hM.row.lt; have BX := below_alloc1 w1 (.cells #[.slice (some ⟨g, 0, none⟩) 8 8] 43); replace hM := hM.below BX; replace q4 := (BX.block _ z0).trans q4; replace z0 := Nat.lt_of_lt_of_le z0 BX.size; replace B0 := Rw.next B0 BX; clear BX; have q5 : (w1.alloc (.cells #[.slice (some ⟨g, 0, none⟩) 8 8] 43)).heap[w1.heap.size]? = some (.cells #[.slice (some ⟨g, 0, none⟩) 8 8] 43 (0, 0)) := at_new rfl; have z5 : w1.heap.size < (w1.alloc (.cells #[.slice (some ⟨g, 0, none⟩) 8 8] 43)).heap.size := (by simp); have hOk := implOk_any _ _ _ 8 _ _ hM.rd; rw [hB, HL.out] at hOk) | (go_at_call 22; refine hOk.mono ?_; rintro e w2 ⟨rfl, hb⟩; clear hOk; replace q4 := (hb.block _ z0).trans q4; replace q5 := (hb.block _ z5).trans q5; replace hM := hM.below hb; replace B0 := Rw.next B0 hb; clear hb; have c4 := one q4; have f4 := Bl.free q4; have c5 := one q5))
    refine bodyPost_ret (v := .agg #[.slice (some ⟨g, 0, none⟩) 8 8]) (by simp [results, Try.results34, go_sem, c4]) rfl ⟨_, g, _, by rw [HL.out], ?_, ?_, ?_⟩
    · exact wt_set (mine_wt hM) (by simp <;> omega)
    · have := B0.size; omega
    · exact B0.setCell (by simp <;> omega) _
  | false =>
    rw [hB] at HE
    obtain rfl : R = [] := by simpa using HE.out
    go_enter Try.func34, Try.ntmps34
    go_wp2_with (first | (go_at_call 57; rw [← hW0]; refine hT.mono ?_; rintro e w1 ⟨g, rfl, hM, hg, hb⟩; clear hW0 hT; replace q4 := (hb.block _ z0).trans q4; replace z0 := Nat.lt_of_lt_of_le z0 hb.size; replace B0 := Rw.next B0 hb; clear hb; have hlg := hM.row.lt; have BX := below_alloc1 w1 (.cells #[.slice (some ⟨g, 0, none⟩) 8 8] 43); replace hM := hM.below BX; replace q4 := (BX.block _ z0).trans q4; replace z0 := Nat.lt_of_lt_of_le z0 BX.size; replace B0 := Rw.next B0 BX; clear BX; have q5 : (w1.alloc (.cells #[.slice (some ⟨g, 0, none⟩) 8 8] 43)).heap[w1.heap.size]? = some (.cells #[.slice (some ⟨g, 0, none⟩) 8 8] 43 (0, 0)) := at_new rfl; have z5 : w1.heap.size < (w1.alloc (.cells #[.slice (some ⟨g, 0, none⟩) 8 8] 43)).heap.size := (by simp); have hOk := implOk_any _ _ _ 8 _ _ hM.rd; rw [hB, HL.out] at hOk) | (go_at_call 22; refine hOk.mono ?_; rintro e w2 ⟨rfl, hb⟩; clear hOk; replace q4 := (hb.block _ z0).trans q4; replace q5 := (hb.block _ z5).trans q5; replace hM := hM.below hb; replace B0 := Rw.next B0 hb; clear hb; have c4 := one q4; have f4 := Bl.free q4; have c5 := one q5))
    refine bodyPost_ret (v := .agg #[.slice none 0 0]) (by simp [results, Try.results34, go_sem, c4]) rfl ⟨none, w.heap.size, 0, rfl, Wt.nil _ _ _, Nat.le_refl _, ?_⟩
    exact B0.setCell (by simp <;> omega) _

set_option maxHeartbeats 2000000 in
theorem specSmall_any (i s d : Int) (w : World) :
    Calls Try.prog 33 #[.int .i64 i, .int .i64 s, .int .i64 d] w (ResH w (smallL i s d)) := by
  obtain ⟨W0, hW0⟩ : ∃ W0, W0 = ((w.alloc (.cells #[.slice none 0 0] 43)).alloc (.cells #[.int .i64 i, .int .i64 s, .int .i64 d, .int .i64 2048, .int .i64 0, .int .i64 0, .int .i64 0, .int .i64 0] 3)).alloc (.cells #[.slice (some ⟨w.heap.size + 1, 0, none⟩) 8 8] 43) := ⟨_, rfl⟩
  have B0 : Below w.heap.size w W0 := by subst hW0; exact Rw.next (Rw.next (below_alloc1 _ _) (below_alloc1 _ _)) (below_alloc1 _ _)
  have q4 : W0.heap[w.heap.size]? = some (.cells #[.slice none 0 0] 43 (0, 0)) := by subst hW0; rw [at_old (by simp <;> omega), at_old (by simp), at_new rfl]
  have q3 : W0.heap[w.heap.size + 1]? = some (.cells #[.int .i64 i, .int .i64 s, .int .i64 d, .int .i64 2048, .int .i64 0, .int .i64 0, .int .i64 0, .int .i64 0] 3 (0, 0)) := by subst hW0; rw [at_old (by simp), at_new (by simp)]
  have q5 : W0.heap[w.heap.size + 1 + 1]? = some (.cells #[.slice (some ⟨w.heap.size + 1, 0, none⟩) 8 8] 43 (0, 0)) := by subst hW0; exact at_new (by simp)
  have z5 : w.heap.size + 1 + 1 < W0.heap.size := by subst hW0; simp
  have hM : Wt W0 (some ⟨w.heap.size + 1, 0, none⟩) (w.heap.size + 1) (smL i s d) := wt_built q3
  have HE : Hid (smallL i s d = if headB (smL i s d) = true then smL i s d else []) := rfl
  have HL : Hid ((smL i s d).length = 8) := rfl
  generalize smallL i s d = R at *
  generalize smL i s d = L at *
  clear q3
  have hOk := specOk_any _ _ _ 8 _ _ hM.rd
  rw [HL.out] at hOk
  cases hB : headB L with
  | true =>
    rw [hB] at HE hOk
    obtain rfl : R = L := by simpa using HE.out
    go_enter Try.func33, Try.ntmps33
    go_wp2_with (go_at_call 20; rw [← hW0]; refine hOk.mono ?_; rintro e w2 ⟨rfl, hb⟩; clear hOk hW0; replace q4 := (hb.block _ (by omega)).trans q4; replace q5 := (hb.block _ z5).trans q5; replace hM := hM.below hb; replace B0 := Rw.next B0 hb; clear hb; have c4 := one q4; have f4 := Bl.free q4; have c5 := one q5)
    refine bodyPost_ret (v := .agg #[.slice (some ⟨w.heap.size + 1, 0, none⟩) 8 8]) (by simp [results, Try.results33, go_sem, c4]) rfl ⟨_, w.heap.size + 1, _, by rw [HL.out], ?_, by omega, ?_⟩
    · exact wt_set hM (by simp)
    · exact B0.setCell (by simp) _
  | false =>
    rw [hB] at HE hOk
    obtain rfl : R = [] := by simpa using HE.out
    go_enter Try.func33, Try.ntmps33
    go_wp2_with (go_at_call 20; rw [← hW0]; refine hOk.mono ?_; rintro e w2 ⟨rfl, hb⟩; clear hOk hW0; replace q4 := (hb.block _ (by omega)).trans q4; replace q5 := (hb.block _ z5).trans q5; replace hM := hM.below hb; replace B0 := Rw.next B0 hb; clear hb; have c4 := one q4; have f4 := Bl.free q4; have c5 := one q5)
    refine bodyPost_ret (v := .agg #[.slice none 0 0]) (by simp [results, Try.results33, go_sem, c4]) rfl ⟨none, w.heap.size, 0, rfl, Wt.nil _ _ _, Nat.le_refl _, ?_⟩
    exact B0.setCell (by simp) _

/-- Both by one word. -/
theorem small (i s d : Int) : ∃ L, (∀ w, Calls Try.prog 34 #[.int .i64 i, .int .i64 s, .int .i64 d] w (ResH w L)) ∧ (∀ w, Calls Try.prog 33 #[.int .i64 i, .int .i64 s, .int .i64 d] w (ResH w L)) :=
  ⟨_, fun w => implSmall_any i s d w, fun w => specSmall_any i s d w⟩

end Go.Proofs.Ythgbjbebjjeddaa.Hs
