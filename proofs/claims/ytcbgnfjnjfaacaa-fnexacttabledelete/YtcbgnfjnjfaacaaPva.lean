/-
  Contracts laid together (Mj, Mo, Mp, Mh, Mq, Ld, Nb, Lq, Hq, Xa).
-/
import Derived.Test.YtcbgnfjnjfaacaaPte
import Derived.Deep.RegionHeld3
import Derived.Deep.MidRow
namespace Go.Proofs.Ytcbgnfjnjfaacaa.Mj
set_option maxRecDepth 8000
open Go Go.RowKit
open Num Pl Hr Hh Hf Hg Pa Pm Po Pq Pe Mi
set_option linter.unusedSimpArgs false

theorem resMB_none {w w' : World} (h : Below w.heap.size w w') : ResMB w false [] [] (.returned (.tuple #[.agg #[.slice none 0 0, .slice none 0 0], .bool false])) w' :=
  ⟨none, w.heap.size, 0, none, w.heap.size + 1, 0, rfl, Wt.nil _ _ _, Wt.nil _ _ _, Nat.le_refl _, Nat.le_succ _, by omega, h⟩

set_option maxHeartbeats 2000000 in
theorem meet_wrong (a1 a2 a3 a4 : Option Addr) (n1 n2 n3 n4 c1 c2 c3 c4 : Nat) (x y x' y' : Nat → Int) (w : World) (h : Two a1 a2 a3 a4 n1 n2 n3 n4 c1 c2 c3 c4 x y x' y' false w) :
    Calls Try.prog 18 #[.agg #[.slice a1 n1 c1, .slice a2 n2 c2], .agg #[.slice a3 n3 c3, .slice a4 n4 c4]] w (ResMB w false [] []) := by
  have HT : Hid (Two a1 a2 a3 a4 n1 n2 n3 n4 c1 c2 c3 c4 x y x' y' false w) := h
  obtain ⟨W0, hW0⟩ : ∃ W0, W0 = (((w.alloc (.cells #[.slice a1 n1 c1, .slice a2 n2 c2] 25)).alloc (.cells #[.slice a3 n3 c3, .slice a4 n4 c4] 25)).alloc (.cells #[.slice none 0 0, .slice none 0 0] 25)) := ⟨_, rfl⟩
  have B : Below w.heap.size w W0 := by subst hW0; exact Rw.next (below2 _ _ _) (below_alloc1 _ _)
  have kR : W0.heap[w.heap.size + 1 + 1]? = some (.cells #[.slice none 0 0, .slice none 0 0] 25 (0, 0)) := by subst hW0; exact at_new (by simp)
  have zR : w.heap.size + 1 + 1 < W0.heap.size := (Array.getElem?_eq_some_iff.1 kR).1
  clear h
  have tok1 : True := trivial
  go_enter Try.func18, Try.ntmps18
  go_wp2_with (first
    | (go_at_call 64; rw [← hW0]; clear hW0; refine (HT.out _ B).mono ?_; rintro e wa ⟨rfl, hb⟩; have ZB := Nat.le_trans B.size hb.size; replace kR := (hb.block _ zR).trans kR; replace zR := Nat.lt_of_lt_of_le zR hb.size; replace B := Rw.next B hb; clear hb HT)
    | (clear tok1; refine store66 rfl _ _ rfl rfl rfl (has_old (has_zero rfl)) (fun w1 hX hS => ?_); have hZ := hS.has (has_zero (g := wa.heap.size + 1) (by simp)) (by simp); replace B := hS.below (Rw.next B (below2 _ _ _)) B.size; replace kR := (hS.block _ (Nat.ne_of_lt zR)).trans (((below2 _ _ _).block _ zR).trans kR); have tok2 : True := trivial; clear hS)
    | (clear tok2; refine store66 rfl _ _ rfl rfl rfl hZ (fun w2 hY hS => ?_); replace hX := hS.has hX (by simp); replace B := hS.below B (Nat.le_succ_of_le ZB); replace kR := (hS.block _ (Nat.ne_of_lt (Nat.lt_succ_of_lt zR))).trans kR; have zW : w.heap.size + 1 + 1 < w2.heap.size := (Array.getElem?_eq_some_iff.1 kR).1; clear hS hZ))
  refine wp_region_held_drew (S := (fun w' => Has w' wa.heap.size x y ∧ Has w' (wa.heap.size + 1) x' y')) (by kernel_rfl) ⟨hX.drew, hY.drew⟩ (fun hHeld => ?_)
  refine take (i := 0) (d := some 16) (v := .bool false) rfl (by kernel_rfl) (by kernel_rfl) (by kernel_rfl) (by kernel_rfl) (fun _ _ _ h => h) (Or.inl ⟨by rfl, by intro w hSw; go_simp⟩) hHeld ?_
  simp only [Act.put, List.setIfInBounds_toArray, List.set_cons_zero, List.set_cons_succ]
  refine take (i := 1) (d := some 17) (v := .bool true) rfl (by kernel_rfl) (by kernel_rfl) (by kernel_rfl) (by kernel_rfl) (fun _ _ _ h => h) (Or.inl ⟨by rfl, by intro w hSw; go_simp⟩) hHeld ?_
  simp only [Act.put, List.setIfInBounds_toArray, List.set_cons_zero, List.set_cons_succ]
  refine take (i := 2) (d := some 18) (v := .bool true) rfl (by kernel_rfl) (by kernel_rfl) (by kernel_rfl) (by kernel_rfl) (fun _ _ _ h => h) (Or.inl ⟨by rfl, by intro w hSw; go_simp⟩) hHeld ?_
  simp only [Act.put, List.setIfInBounds_toArray, List.set_cons_zero, List.set_cons_succ]
  refine take (i := 3) (d := some 19) (v := undef) rfl (by kernel_rfl) (by kernel_rfl) (by kernel_rfl) (by kernel_rfl) (fun _ _ _ h => h) (Or.inr ⟨by rfl, rfl⟩) hHeld ?_
  simp only [Act.put, List.setIfInBounds_toArray, List.set_cons_zero, List.set_cons_succ]
  refine take (i := 4) (d := some 20) (v := undef) rfl (by kernel_rfl) (by kernel_rfl) (by kernel_rfl) (by kernel_rfl) (fun _ _ _ h => h) (Or.inr ⟨by rfl, rfl⟩) hHeld ?_
  simp only [Act.put, List.setIfInBounds_toArray, List.set_cons_zero, List.set_cons_succ]
  refine take (i := 5) (d := some 21) (v := undef) rfl (by kernel_rfl) (by kernel_rfl) (by kernel_rfl) (by kernel_rfl) (fun _ _ _ h => h) (Or.inr ⟨by rfl, rfl⟩) hHeld ?_
  simp only [Act.put, List.setIfInBounds_toArray, List.set_cons_zero, List.set_cons_succ]
  refine take (i := 6) (d := some 22) (v := undef) rfl (by kernel_rfl) (by kernel_rfl) (by kernel_rfl) (by kernel_rfl) (fun _ _ _ h => h) (Or.inr ⟨by rfl, rfl⟩) hHeld ?_
  simp only [Act.put, List.setIfInBounds_toArray, List.set_cons_zero, List.set_cons_succ]
  refine take (i := 7) (d := some 23) (v := undef) rfl (by kernel_rfl) (by kernel_rfl) (by kernel_rfl) (by kernel_rfl) (fun _ _ _ h => h) (Or.inr ⟨by rfl, rfl⟩) hHeld ?_
  simp only [Act.put, List.setIfInBounds_toArray, List.set_cons_zero, List.set_cons_succ]
  refine take (i := 8) (d := some 24) (v := undef) rfl (by kernel_rfl) (by kernel_rfl) (by kernel_rfl) (by kernel_rfl) (fun _ _ _ h => h) (Or.inr ⟨by rfl, rfl⟩) hHeld ?_
  simp only [Act.put, List.setIfInBounds_toArray, List.set_cons_zero, List.set_cons_succ]
  refine take (i := 9) (d := some 25) (v := undef) rfl (by kernel_rfl) (by kernel_rfl) (by kernel_rfl) (by kernel_rfl) (fun _ _ _ h => h) (Or.inr ⟨by rfl, rfl⟩) hHeld ?_
  simp only [Act.put, List.setIfInBounds_toArray, List.set_cons_zero, List.set_cons_succ]
  refine take (i := 10) (d := some 26) (v := .bool true) rfl (by kernel_rfl) (by kernel_rfl) (by kernel_rfl) (by kernel_rfl) (fun _ _ _ h => h) (Or.inl ⟨by rfl, by intro w hSw; go_simp⟩) hHeld ?_
  simp only [Act.put, List.setIfInBounds_toArray, List.set_cons_zero, List.set_cons_succ]
  refine wpAnyH_done (by kernel_rfl) ?_ _
  obtain ⟨r0, r1⟩ := two kR
  have fr := Bl.free kR
  go_wp2
  refine bodyPost_ret (v := .tuple #[.agg #[.slice none 0 0, .slice none 0 0], .bool false]) (by simp [results, Try.results18, go_sem, r0, r1]) rfl (resMB_none ?_)
  exact (bset (bset B (by omega)) (by omega)).drew

set_option maxHeartbeats 4000000 in
theorem meet_no (a1 a2 a3 a4 : Option Addr) (n1 n2 n3 n4 c1 c2 c3 c4 : Nat) (x y x' y' : Nat → Int) (w : World) (h : Two a1 a2 a3 a4 n1 n2 n3 n4 c1 c2 c3 c4 x y x' y' true w) (hR : sameB (fun k => bits .and .i64 (x k) (y' k)) (fun k => bits .and .i64 (y k) (y' k)) (fun k => bits .and .i64 (x' k) (y k)) (fun k => bits .and .i64 (y' k) (y k)) = false) :
    Calls Try.prog 18 #[.agg #[.slice a1 n1 c1, .slice a2 n2 c2], .agg #[.slice a3 n3 c3, .slice a4 n4 c4]] w (ResMB w false [] []) := by
  have heq := fun w => neq_any (fun k => bits .and .i64 (x k) (y' k)) (fun k => bits .and .i64 (y k) (y' k)) (fun k => bits .and .i64 (x' k) (y k)) (fun k => bits .and .i64 (y' k) (y k)) w
  rw [hR] at heq
  have hgd := guard66
  clear hR
  have HT : Hid (Two a1 a2 a3 a4 n1 n2 n3 n4 c1 c2 c3 c4 x y x' y' true w) := h
  obtain ⟨W0, hW0⟩ : ∃ W0, W0 = (((w.alloc (.cells #[.slice a1 n1 c1, .slice a2 n2 c2] 25)).alloc (.cells #[.slice a3 n3 c3, .slice a4 n4 c4] 25)).alloc (.cells #[.slice none 0 0, .slice none 0 0] 25)) := ⟨_, rfl⟩
  have B : Below w.heap.size w W0 := by subst hW0; exact Rw.next (below2 _ _ _) (below_alloc1 _ _)
  have kR : W0.heap[w.heap.size + 1 + 1]? = some (.cells #[.slice none 0 0, .slice none 0 0] 25 (0, 0)) := by subst hW0; exact at_new (by simp)
  have zR : w.heap.size + 1 + 1 < W0.heap.size := (Array.getElem?_eq_some_iff.1 kR).1
  clear h
  have tok1 : True := trivial
  go_enter Try.func18, Try.ntmps18
  go_wp2_with (first
    | (go_at_call 64; rw [← hW0]; clear hW0; refine (HT.out _ B).mono ?_; rintro e wa ⟨rfl, hb⟩; have ZB := Nat.le_trans B.size hb.size; replace kR := (hb.block _ zR).trans kR; replace zR := Nat.lt_of_lt_of_le zR hb.size; replace B := Rw.next B hb; clear hb HT)
    | (clear tok1; refine store66 rfl _ _ rfl rfl rfl (has_old (has_zero rfl)) (fun w1 hX hS => ?_); have hZ := hS.has (has_zero (g := wa.heap.size + 1) (by simp)) (by simp); replace B := hS.below (Rw.next B (below2 _ _ _)) B.size; replace kR := (hS.block _ (Nat.ne_of_lt zR)).trans (((below2 _ _ _).block _ zR).trans kR); have tok2 : True := trivial; clear hS)
    | (clear tok2; refine store66 rfl _ _ rfl rfl rfl hZ (fun w2 hY hS => ?_); replace hX := hS.has hX (by simp); replace B := hS.below B (Nat.le_succ_of_le ZB); replace kR := (hS.block _ (Nat.ne_of_lt (Nat.lt_succ_of_lt zR))).trans kR; have zW : w.heap.size + 1 + 1 < w2.heap.size := (Array.getElem?_eq_some_iff.1 kR).1; clear hS hZ))
  refine wp_region_held_drew (S := (fun w' => Has w' wa.heap.size x y ∧ Has w' (wa.heap.size + 1) x' y')) (by kernel_rfl) ⟨hX.drew, hY.drew⟩ (fun hHeld => ?_)
  refine take (i := 0) (d := some 16) (v := .bool true) rfl (by kernel_rfl) (by kernel_rfl) (by kernel_rfl) (by kernel_rfl) (fun _ _ _ h => h) (Or.inl ⟨by rfl, by intro w hSw; go_simp⟩) hHeld ?_
  simp only [Act.put, List.setIfInBounds_toArray, List.set_cons_zero, List.set_cons_succ]
  refine take (i := 1) (d := some 17) (v := .bool false) rfl (by kernel_rfl) (by kernel_rfl) (by kernel_rfl) (by kernel_rfl) (fun _ _ _ h => h) (Or.inl ⟨by rfl, by intro w hSw; go_simp⟩) hHeld ?_
  simp only [Act.put, List.setIfInBounds_toArray, List.set_cons_zero, List.set_cons_succ]
  refine take (i := 2) (d := some 18) (v := .bool false) rfl (by kernel_rfl) (by kernel_rfl) (by kernel_rfl) (by kernel_rfl) (fun _ _ _ h => h) (Or.inl ⟨by rfl, by intro w hSw; go_simp⟩) hHeld ?_
  simp only [Act.put, List.setIfInBounds_toArray, List.set_cons_zero, List.set_cons_succ]
  refine take (i := 3) (d := some 19) (v := _) rfl (by kernel_rfl) (by kernel_rfl) (by kernel_rfl) (by kernel_rfl) (fun _ _ _ h => h) (yields66 (by rfl) _ rfl rfl (fun w h => h.1)) hHeld ?_
  simp only [Act.put, List.setIfInBounds_toArray, List.set_cons_zero, List.set_cons_succ]
  refine take (i := 4) (d := some 20) (v := _) rfl (by kernel_rfl) (by kernel_rfl) (by kernel_rfl) (by kernel_rfl) (fun _ _ _ h => h) (yields66 (by rfl) _ rfl rfl (fun w h => h.2)) hHeld ?_
  simp only [Act.put, List.setIfInBounds_toArray, List.set_cons_zero, List.set_cons_succ]
  refine take (i := 6) (d := some 22) (v := _) rfl (by kernel_rfl) (by kernel_rfl) (by kernel_rfl) (by kernel_rfl) (fun _ _ _ h => h) (yields66 (by rfl) _ rfl rfl (fun w h => h.2)) hHeld ?_
  simp only [Act.put, List.setIfInBounds_toArray, List.set_cons_zero, List.set_cons_succ]
  refine take (i := 7) (d := some 23) (v := _) rfl (by kernel_rfl) (by kernel_rfl) (by kernel_rfl) (by kernel_rfl) (fun _ _ _ h => h) (yields66 (by rfl) _ rfl rfl (fun w h => h.1)) hHeld ?_
  simp only [Act.put, List.setIfInBounds_toArray, List.set_cons_zero, List.set_cons_succ]
  refine wpAnyH_ready (rs := [5]) (by kernel_rfl) (by simp) (readyCall2 rfl (by kernel_rfl) 65 (.tmp 19) (.tmp 20) 97 97 (by kernel_rfl) 21 (by kernel_rfl) _ _ (by kernel_rfl) (by kernel_rfl) (fun _ => rfl) (under_any x y x' y' _) (fun w3 hb => ⟨hX.drew.below hb, hY.drew.below hb⟩) (fun w3 hb hHeld => ?_) AllReadyH.nil)
  simp only [Act.put, List.setIfInBounds_toArray, List.set_cons_zero, List.set_cons_succ]
  replace hX := hX.drew.below hb
  replace hY := hY.drew.below hb
  replace kR := (hb.block _ zW).trans kR
  replace zW := Nat.lt_of_lt_of_le zW hb.size
  replace B := Rw.next B.drew hb
  clear hb
  refine wpAnyH_ready (rs := [8]) (by kernel_rfl) (by simp) (readyCall2 rfl (by kernel_rfl) 65 (.tmp 22) (.tmp 23) 97 97 (by kernel_rfl) 24 (by kernel_rfl) _ _ (by kernel_rfl) (by kernel_rfl) (fun _ => rfl) (under_any x' y' x y _) (fun w4 hb => ⟨hX.below hb, hY.below hb⟩) (fun w4 hb hHeld => ?_) AllReadyH.nil)
  simp only [Act.put, List.setIfInBounds_toArray, List.set_cons_zero, List.set_cons_succ]
  replace hX := hX.below hb
  replace hY := hY.below hb
  replace kR := (hb.block _ zW).trans kR
  replace zW := Nat.lt_of_lt_of_le zW hb.size
  replace B := Rw.next B hb
  clear hb
  refine take (i := 9) (d := some 25) (v := .bool true) rfl (by kernel_rfl) (by kernel_rfl) (by kernel_rfl) (by kernel_rfl) (fun _ _ _ h => h) (Or.inl ⟨by rfl, by intro w hSw; go_simp⟩) hHeld ?_
  simp only [Act.put, List.setIfInBounds_toArray, List.set_cons_zero, List.set_cons_succ]
  refine take (i := 10) (d := some 26) (v := .bool true) rfl (by kernel_rfl) (by kernel_rfl) (by kernel_rfl) (by kernel_rfl) (fun _ _ _ h => h) (Or.inl ⟨by rfl, by intro w hSw; go_simp⟩) hHeld ?_
  simp only [Act.put, List.setIfInBounds_toArray, List.set_cons_zero, List.set_cons_succ]
  refine wpAnyH_done (by kernel_rfl) ?_ _
  obtain ⟨r0, r1⟩ := two kR
  have fr := Bl.free kR
  go_wp2
  refine bodyPost_ret (v := .tuple #[.agg #[.slice none 0 0, .slice none 0 0], .bool false]) (by simp [results, Try.results18, go_sem, r0, r1]) rfl (resMB_none ?_)
  exact bset (bset B (by omega)) (by omega)

theorem wt_set2 {w : World} {a : Option Addr} {g b k : Nat} {l : List Int} {u : Value} (h : Wt w a g l) (hne : b ≠ g) : Wt (w.setCell ⟨b, k, none⟩ u) a g l := by
  have e : (w.setCell ⟨b, k, none⟩ u).heap[g]? = w.heap[g]? := Below.heap_setCell w _ u g (fun e => hne e.symm)
  refine ⟨h.head, fun i hi => ?_, fun i hi => ?_, h.size⟩
  · have := h.cell i hi
    simp only [World.cell?, e] at this ⊢
    exact this
  · have := h.free i hi
    simp only [World.frozen?, e] at this ⊢
    exact this

set_option maxHeartbeats 4000000 in
theorem meet_yes (a1 a2 a3 a4 : Option Addr) (n1 n2 n3 n4 c1 c2 c3 c4 : Nat) (x y x' y' : Nat → Int) (w : World) (h : Two a1 a2 a3 a4 n1 n2 n3 n4 c1 c2 c3 c4 x y x' y' true w) (hR : sameB (fun k => bits .and .i64 (x k) (y' k)) (fun k => bits .and .i64 (y k) (y' k)) (fun k => bits .and .i64 (x' k) (y k)) (fun k => bits .and .i64 (y' k) (y k)) = true) :
    Calls Try.prog 18 #[.agg #[.slice a1 n1 c1, .slice a2 n2 c2], .agg #[.slice a3 n3 c3, .slice a4 n4 c4]] w (ResMB w true (lst fun k => bits .or .i64 (x k) (x' k)) (lst fun k => bits .or .i64 (y k) (y' k))) := by
  have heq := fun w => neq_any (fun k => bits .and .i64 (x k) (y' k)) (fun k => bits .and .i64 (y k) (y' k)) (fun k => bits .and .i64 (x' k) (y k)) (fun k => bits .and .i64 (y' k) (y k)) w
  rw [hR] at heq
  have hgd := guard66
  clear hR
  have HT : Hid (Two a1 a2 a3 a4 n1 n2 n3 n4 c1 c2 c3 c4 x y x' y' true w) := h
  obtain ⟨W0, hW0⟩ : ∃ W0, W0 = (((w.alloc (.cells #[.slice a1 n1 c1, .slice a2 n2 c2] 25)).alloc (.cells #[.slice a3 n3 c3, .slice a4 n4 c4] 25)).alloc (.cells #[.slice none 0 0, .slice none 0 0] 25)) := ⟨_, rfl⟩
  have B : Below w.heap.size w W0 := by subst hW0; exact Rw.next (below2 _ _ _) (below_alloc1 _ _)
  have kR : W0.heap[w.heap.size + 1 + 1]? = some (.cells #[.slice none 0 0, .slice none 0 0] 25 (0, 0)) := by subst hW0; exact at_new (by simp)
  have zR : w.heap.size + 1 + 1 < W0.heap.size := (Array.getElem?_eq_some_iff.1 kR).1
  clear h
  have tok1 : True := trivial
  go_enter Try.func18, Try.ntmps18
  go_wp2_with (first
    | (go_at_call 64; rw [← hW0]; clear hW0; refine (HT.out _ B).mono ?_; rintro e wa ⟨rfl, hb⟩; have ZB := Nat.le_trans B.size hb.size; replace kR := (hb.block _ zR).trans kR; replace zR := Nat.lt_of_lt_of_le zR hb.size; replace B := Rw.next B hb; clear hb HT)
    | (clear tok1; refine store66 rfl _ _ rfl rfl rfl (has_old (has_zero rfl)) (fun w1 hX hS => ?_); have hZ := hS.has (has_zero (g := wa.heap.size + 1) (by simp)) (by simp); replace B := hS.below (Rw.next B (below2 _ _ _)) B.size; replace kR := (hS.block _ (Nat.ne_of_lt zR)).trans (((below2 _ _ _).block _ zR).trans kR); have tok2 : True := trivial; clear hS)
    | (clear tok2; refine store66 rfl _ _ rfl rfl rfl hZ (fun w2 hY hS => ?_); replace hX := hS.has hX (by simp); replace B := hS.below B (Nat.le_succ_of_le ZB); replace kR := (hS.block _ (Nat.ne_of_lt (Nat.lt_succ_of_lt zR))).trans kR; have zW : w.heap.size + 1 + 1 < w2.heap.size := (Array.getElem?_eq_some_iff.1 kR).1; clear hS hZ))
  refine wp_region_held_drew (S := (fun w' => Has w' wa.heap.size x y ∧ Has w' (wa.heap.size + 1) x' y')) (by kernel_rfl) ⟨hX.drew, hY.drew⟩ (fun hHeld => ?_)
  refine take (i := 0) (d := some 16) (v := .bool true) rfl (by kernel_rfl) (by kernel_rfl) (by kernel_rfl) (by kernel_rfl) (fun _ _ _ h => h) (Or.inl ⟨by rfl, by intro w hSw; go_simp⟩) hHeld ?_
  simp only [Act.put, List.setIfInBounds_toArray, List.set_cons_zero, List.set_cons_succ]
  refine take (i := 1) (d := some 17) (v := .bool false) rfl (by kernel_rfl) (by kernel_rfl) (by kernel_rfl) (by kernel_rfl) (fun _ _ _ h => h) (Or.inl ⟨by rfl, by intro w hSw; go_simp⟩) hHeld ?_
  simp only [Act.put, List.setIfInBounds_toArray, List.set_cons_zero, List.set_cons_succ]
  refine take (i := 2) (d := some 18) (v := .bool false) rfl (by kernel_rfl) (by kernel_rfl) (by kernel_rfl) (by kernel_rfl) (fun _ _ _ h => h) (Or.inl ⟨by rfl, by intro w hSw; go_simp⟩) hHeld ?_
  simp only [Act.put, List.setIfInBounds_toArray, List.set_cons_zero, List.set_cons_succ]
  refine take (i := 3) (d := some 19) (v := _) rfl (by kernel_rfl) (by kernel_rfl) (by kernel_rfl) (by kernel_rfl) (fun _ _ _ h => h) (yields66 (by rfl) _ rfl rfl (fun w h => h.1)) hHeld ?_
  simp only [Act.put, List.setIfInBounds_toArray, List.set_cons_zero, List.set_cons_succ]
  refine take (i := 4) (d := some 20) (v := _) rfl (by kernel_rfl) (by kernel_rfl) (by kernel_rfl) (by kernel_rfl) (fun _ _ _ h => h) (yields66 (by rfl) _ rfl rfl (fun w h => h.2)) hHeld ?_
  simp only [Act.put, List.setIfInBounds_toArray, List.set_cons_zero, List.set_cons_succ]
  refine take (i := 6) (d := some 22) (v := _) rfl (by kernel_rfl) (by kernel_rfl) (by kernel_rfl) (by kernel_rfl) (fun _ _ _ h => h) (yields66 (by rfl) _ rfl rfl (fun w h => h.2)) hHeld ?_
  simp only [Act.put, List.setIfInBounds_toArray, List.set_cons_zero, List.set_cons_succ]
  refine take (i := 7) (d := some 23) (v := _) rfl (by kernel_rfl) (by kernel_rfl) (by kernel_rfl) (by kernel_rfl) (fun _ _ _ h => h) (yields66 (by rfl) _ rfl rfl (fun w h => h.1)) hHeld ?_
  simp only [Act.put, List.setIfInBounds_toArray, List.set_cons_zero, List.set_cons_succ]
  refine wpAnyH_ready (rs := [5]) (by kernel_rfl) (by simp) (readyCall2 rfl (by kernel_rfl) 65 (.tmp 19) (.tmp 20) 97 97 (by kernel_rfl) 21 (by kernel_rfl) _ _ (by kernel_rfl) (by kernel_rfl) (fun _ => rfl) (under_any x y x' y' _) (fun w3 hb => ⟨hX.drew.below hb, hY.drew.below hb⟩) (fun w3 hb hHeld => ?_) AllReadyH.nil)
  simp only [Act.put, List.setIfInBounds_toArray, List.set_cons_zero, List.set_cons_succ]
  replace hX := hX.drew.below hb
  replace hY := hY.drew.below hb
  replace kR := (hb.block _ zW).trans kR
  replace zW := Nat.lt_of_lt_of_le zW hb.size
  replace B := Rw.next B.drew hb
  clear hb
  refine wpAnyH_ready (rs := [8]) (by kernel_rfl) (by simp) (readyCall2 rfl (by kernel_rfl) 65 (.tmp 22) (.tmp 23) 97 97 (by kernel_rfl) 24 (by kernel_rfl) _ _ (by kernel_rfl) (by kernel_rfl) (fun _ => rfl) (under_any x' y' x y _) (fun w4 hb => ⟨hX.below hb, hY.below hb⟩) (fun w4 hb hHeld => ?_) AllReadyH.nil)
  simp only [Act.put, List.setIfInBounds_toArray, List.set_cons_zero, List.set_cons_succ]
  replace hX := hX.below hb
  replace hY := hY.below hb
  replace kR := (hb.block _ zW).trans kR
  replace zW := Nat.lt_of_lt_of_le zW hb.size
  replace B := Rw.next B hb
  clear hb
  refine take (i := 9) (d := some 25) (v := .bool false) rfl (by kernel_rfl) (by kernel_rfl) (by kernel_rfl) (by kernel_rfl) (fun _ _ _ h => h) (Or.inl ⟨by rfl, by intro w hSw; go_simp⟩) hHeld ?_
  simp only [Act.put, List.setIfInBounds_toArray, List.set_cons_zero, List.set_cons_succ]
  refine take (i := 10) (d := some 26) (v := .bool false) rfl (by kernel_rfl) (by kernel_rfl) (by kernel_rfl) (by kernel_rfl) (fun _ _ _ h => h) (Or.inl ⟨by rfl, by intro w hSw; go_simp⟩) hHeld ?_
  simp only [Act.put, List.setIfInBounds_toArray, List.set_cons_zero, List.set_cons_succ]
  refine wpAnyH_done (by kernel_rfl) ?_ _
  obtain ⟨r0, r1⟩ := two kR
  have fr := Bl.free kR
  have sW := B.size
  go_wp2_with (first
    | (refine load66 rfl _ rfl rfl hX ?_)
    | (refine load66 rfl _ rfl rfl hY ?_)
    | (go_at_call 69; refine (with_any x y x' y' _).mono ?_; rintro e w5 ⟨rfl, hb⟩; replace kR := (hb.block _ zW).trans kR; replace zW := Nat.lt_of_lt_of_le zW hb.size; replace B := Rw.next B hb; clear r0 r1 fr hb hX hY)
    | (go_at_call 70; refine (match_any _ _ _).mono ?_; rintro e w6 ⟨aV, gV, cV, aM, gM, cM, rfl, hV, hM, l1, l2, l3, hb⟩; replace kR := (hb.block _ zW).trans kR; have zg := zW; replace B := Rw.next B hb; obtain ⟨r0, r1⟩ := two kR; have fr := Bl.free kR; clear hb))
  refine bodyPost_ret (v := .tuple #[.agg #[.slice aV (lst _).length cV, .slice aM (lst _).length cM], .bool true]) (by simp [results, Try.results18, go_sem, r0, r1]) rfl ⟨aV, gV, cV, aM, gM, cM, rfl, ?_, ?_, by omega, by omega, l3, ?_⟩
  · exact wt_set2 (wt_set2 hV (by omega)) (by omega)
  · exact wt_set2 (wt_set2 hM (by omega)) (by omega)
  · exact bset (bset B (by omega)) (by omega)

end Go.Proofs.Ytcbgnfjnjfaacaa.Mj
namespace Go.Proofs.Ytcbgnfjnjfaacaa.Mo
set_option maxRecDepth 8000
open Go Go.RowKit
open Num Pl Hr Hh Hf Hg Pa Pm Po Pq Mi Bw
set_option linter.unusedSimpArgs false
set_option linter.unusedVariables false

/-- The n highest bits of a field, as an integer. -/
def topI (f n : Nat) : Int := ((Bt.top (fbN f) n : Nat) : Int)

theorem top_eq (b n c : Nat) (h : b = n + c) (hb : b ≤ 48) : IntKind.i64.wrap (IntKind.i64.wrap ((2 : Int) ^ b) - IntKind.i64.wrap ((2 : Int) ^ c)) = ((Bt.top b n : Nat) : Int) := by
  have e : ∀ k : Nat, k ≤ 48 → IntKind.i64.wrap ((2 : Int) ^ k) = ((2 ^ k : Nat) : Int) ∧ (2 ^ k : Nat) ≤ 281474976710656 := by
    intro k hk
    have h1 : (2 ^ k : Nat) ≤ 2 ^ 48 := Nat.pow_le_pow_right (by decide) hk
    have h2 : (2 : Int) ^ k = ((2 ^ k : Nat) : Int) := by rw [Int.natCast_pow]; rfl
    rw [h2]
    have h3 : (2 ^ k : Nat) ≤ 281474976710656 := h1
    clear h2 h1
    generalize (2 ^ k : Nat) = Q at h3 ⊢
    exact ⟨Get.wraps_i64 _ (by omega) (by omega), h3⟩
  obtain ⟨e1, l1⟩ := e b hb
  obtain ⟨e2, l2⟩ := e c (by omega)
  rw [e1, e2]
  have et : (2 ^ b : Nat) = Bt.top b n + 2 ^ c := by
    unfold Bt.top
    subst h
    rw [Nat.add_sub_cancel_left, Nat.pow_add]
    have hp : 0 < 2 ^ n := Nat.pow_pos (by decide)
    generalize 2 ^ n = P at *
    generalize 2 ^ c = Q at *
    obtain ⟨p, rfl⟩ : ∃ p, P = p + 1 := ⟨P - 1, by omega⟩
    rw [Nat.add_sub_cancel, Nat.add_mul, Nat.one_mul]
  have e3 : ((2 ^ b : Nat) : Int) - ((2 ^ c : Nat) : Int) = ((Bt.top b n : Nat) : Int) := by
    rw [et]
    generalize (2 ^ c : Nat) = Q
    generalize Bt.top b n = P
    omega
  rw [e3]
  have : Bt.top b n ≤ 2 ^ b := by rw [et]; exact Nat.le_add_right _ _
  generalize (2 ^ b : Nat) = Q at *
  exact Get.wraps_i64 _ (by omega) (by omega)

set_option maxHeartbeats 1000000 in
theorem high_any (f n : Nat) (hf : f < 8) (hn : n ≤ fbN f) (w : World) :
    Calls Try.prog 122 #[.int .i64 f, .int .i64 n] w fun e w' => e = .returned (.int .i64 (topI f n)) ∧ Below w.heap.size w w' := by
  have hb : ∀ w, Calls Try.prog 123 #[.int .i64 f] w fun e w' => e = .returned (.int .i64 (fbN f : Int)) ∧ w' = w := fun w => by have := implBits_any f w; rw [fbN_eq] at this; exact this
  have HB : Hid (∀ w, Calls Try.prog 123 #[.int .i64 f] w fun e w' => e = .returned (.int .i64 (fbN f : Int)) ∧ w' = w) := hb
  clear hb
  have h48 := fbN_le f
  unfold topI
  generalize fbN f = b at *
  obtain ⟨c, hc⟩ : ∃ c, b = n + c := ⟨b - n, by omega⟩
  have HBC : Hid (b = n + c) := hc
  have e11 : IntKind.i64.wrap ((b : Int) - (n : Int)) = (c : Int) := by
    have e : (b : Int) - (n : Int) = c := by omega
    rw [e]
    exact Get.wraps_i64 _ (by omega) (by omega)
  have hc64 : (c : Int) ≤ 64 := by omega
  have hb64 : (b : Int) ≤ 64 := by omega
  clear hc hn
  go_enter Try.func122, Try.ntmps122
  go_wp2
  refine wp_region_held_drew (S := fun _ => True) (by kernel_rfl) trivial (fun hHeld => ?_)
  refine take (i := 0) (d := some 5) (v := .int .i64 f) rfl (by kernel_rfl) (by kernel_rfl) (by kernel_rfl) (by kernel_rfl) (fun _ _ _ h => h) (Or.inl ⟨by rfl, by intro w hSw; go_simp⟩) hHeld ?_
  simp only [Act.put, List.setIfInBounds_toArray, List.set_cons_zero, List.set_cons_succ]
  refine take (i := 3) (d := some 8) (v := .int .i64 f) rfl (by kernel_rfl) (by kernel_rfl) (by kernel_rfl) (by kernel_rfl) (fun _ _ _ h => h) (Or.inl ⟨by rfl, by intro w hSw; go_simp⟩) hHeld ?_
  simp only [Act.put, List.setIfInBounds_toArray, List.set_cons_zero, List.set_cons_succ]
  refine take (i := 5) (d := some 10) (v := .int .i64 n) rfl (by kernel_rfl) (by kernel_rfl) (by kernel_rfl) (by kernel_rfl) (fun _ _ _ h => h) (Or.inl ⟨by rfl, by intro w hSw; go_simp⟩) hHeld ?_
  simp only [Act.put, List.setIfInBounds_toArray, List.set_cons_zero, List.set_cons_succ]
  refine wpAnyH_ready (rs := [1]) (by kernel_rfl) (by simp) (Rg.call1 rfl (by kernel_rfl) 123 (.tmp 5) 3 (by kernel_rfl) 6 (by kernel_rfl) (.int .i64 f) (by kernel_rfl) (fun _ => rfl) (HB.out _) ?_ AllReadyH.nil)
  rintro e wq ⟨rfl, hwq⟩
  subst hwq
  refine ⟨_, rfl, trivial, fun hHeld => ?_⟩
  simp only [Act.put, List.setIfInBounds_toArray, List.set_cons_zero, List.set_cons_succ]
  refine' take (i := 2) (d := some 7) (v := _) rfl (by kernel_rfl) (by kernel_rfl) (by kernel_rfl) (by kernel_rfl) (fun _ _ _ h => h) (Or.inl ⟨by rfl, ?hy2⟩) hHeld ?rest2
  case hy2 => intro w hSw; go_simp; rfl
  simp only [Act.put, List.setIfInBounds_toArray, List.set_cons_zero, List.set_cons_succ]
  refine wpAnyH_ready (rs := [4]) (by kernel_rfl) (by simp) (Rg.call1 rfl (by kernel_rfl) 123 (.tmp 8) 3 (by kernel_rfl) 9 (by kernel_rfl) (.int .i64 f) (by kernel_rfl) (fun _ => rfl) (HB.out _) ?_ AllReadyH.nil)
  rintro e wq ⟨rfl, hwq⟩
  subst hwq
  refine ⟨_, rfl, trivial, fun hHeld => ?_⟩
  simp only [Act.put, List.setIfInBounds_toArray, List.set_cons_zero, List.set_cons_succ]
  refine take (i := 6) (d := some 11) (v := .int .i64 c) rfl (by kernel_rfl) (by kernel_rfl) (by kernel_rfl) (by kernel_rfl) (fun _ _ _ h => h) (Or.inl ⟨by rfl, by intro w hSw; go_simp⟩) hHeld ?_
  simp only [Act.put, List.setIfInBounds_toArray, List.set_cons_zero, List.set_cons_succ]
  refine' take (i := 7) (d := some 12) (v := _) rfl (by kernel_rfl) (by kernel_rfl) (by kernel_rfl) (by kernel_rfl) (fun _ _ _ h => h) (Or.inl ⟨by rfl, ?hy7⟩) hHeld ?rest7
  case hy7 => intro w hSw; go_simp; rfl
  simp only [Act.put, List.setIfInBounds_toArray, List.set_cons_zero, List.set_cons_succ]
  refine' take (i := 8) (d := some 13) (v := _) rfl (by kernel_rfl) (by kernel_rfl) (by kernel_rfl) (by kernel_rfl) (fun _ _ _ h => h) (Or.inl ⟨by rfl, ?hy8⟩) hHeld ?rest8
  case hy8 => intro w hSw; go_simp; rfl
  simp only [Act.put, List.setIfInBounds_toArray, List.set_cons_zero, List.set_cons_succ]
  refine' take (i := 9) (d := some 4) (v := _) rfl (by kernel_rfl) (by kernel_rfl) (by kernel_rfl) (by kernel_rfl) (fun _ _ _ h => h) (Or.inl ⟨by rfl, ?hy9⟩) hHeld ?rest9
  case hy9 => intro w hSw; go_simp; rfl
  simp only [Act.put, List.setIfInBounds_toArray, List.set_cons_zero, List.set_cons_succ]
  refine wpAnyH_done (by kernel_rfl) ?_ _
  go_wp2_with fail
  go_ret
  exact ⟨Hf.ret_int (top_eq _ _ _ HBC.out h48), (Below.refl _ _).drew⟩

/-- A store of one pair into the pairs, in a region that draws its order. -/
theorem ready64 {md : Region.Mode} {ops : Array Oper} {Q : Exit → Act → World → Prop} {S : World → Prop} {fuel : Nat} {listed : Array Bool} {a : Act} {w : World} {i : Nat} {o : Oper} {rs : List Nat} (hi : ops[i]? = some o) (hgd : o.guard = none)
    (x y : Operand) (ho : o.op = .store 95 x y) (hd : o.dst = none) {g k : Nat} (hx : a.eval x = .pointer (some ⟨g, k * 2, none⟩)) {p q : Int} (hy : a.eval y = .agg #[.int .i64 p, .int .i64 q]) {v m : Nat → Int} (h : Has w g v m) (hk8 : k < 8)
    (hS : S ((w.setCell ⟨g, k * 2, none⟩ (.int .i64 p)).setCell ⟨g, k * 2 + 1, none⟩ (.int .i64 q)))
    (hk : S ((w.setCell ⟨g, k * 2, none⟩ (.int .i64 p)).setCell ⟨g, k * 2 + 1, none⟩ (.int .i64 q)) → wpAnyH Try.prog md ops Q S fuel (listed.setIfInBounds i true) (a.put none undef) ((w.setCell ⟨g, k * 2, none⟩ (.int .i64 p)).setCell ⟨g, k * 2 + 1, none⟩ (.int .i64 q)))
    (hs : AllReadyH Try.prog md ops Q S fuel listed a w rs) : AllReadyH Try.prog md ops Q S fuel listed a w (i :: rs) :=
  AllReadyH.cons hi (fun K hK => by
    rw [if_pos (by simp only [Region.wanted, hgd])]
    refine wp_store_mid 95 x y ho g (k * 2) _ hx hy ?_ (by kernel_rfl) (by simp [Value.oneCell']) ?_
    · intro j hj
      have hj2 : j < 2 := hj
      rw [cell_of_row w g _ _ _ _ h, enc_at _ _ (by omega)]
      exact ⟨rfl, h.free _⟩
    · exact hK.out _ _ hS (fun hs' => by rw [hd]; exact hk hs')) hs

end Go.Proofs.Ytcbgnfjnjfaacaa.Mo
namespace Go.Proofs.Ytcbgnfjnjfaacaa.Mp
set_option maxRecDepth 8000
open Go Go.RowKit
open Num Pl Hr Hh Hf Hg Pa Pm Po Pq Mi Bw Mo
set_option linter.unusedSimpArgs false
set_option linter.unusedVariables false

theorem cell_set2 {w : World} {a : Addr} {g i j : Nat} {x y : Value} {v : Option Value} (h : w.cell? a = v) (hne : a.block ≠ g) : ((w.setCell ⟨g, i, none⟩ x).setCell ⟨g, j, none⟩ y).cell? a = v := by
  rw [World.cell?_setCell_other _ _ _ _ (by intro q; exact hne (by rw [← q])), World.cell?_setCell_other _ _ _ _ (by intro q; exact hne (by rw [← q]))]
  exact h
theorem resM_none {w w' : World} (h : Below w.heap.size w w') : ResM w [] [] (.returned (.agg #[.slice none 0 0, .slice none 0 0])) w' :=
  ⟨none, w.heap.size, 0, none, w.heap.size + 1, 0, rfl, Wt.nil _ _ _, Wt.nil _ _ _, Nat.le_refl _, Nat.le_succ _, by omega, h⟩
/-- All bits of a field. -/
def fullI (f : Nat) : Int := topI f (fbN f)

set_option maxHeartbeats 1000000 in
theorem of_no (a : Option Addr) (n c : Nat) (w : World) (t0 : ∀ w1, Below w.heap.size w w1 → Calls Try.prog 121 #[.agg #[.slice a n c]] w1 fun e w' => e = .returned (.bool false) ∧ Below w1.heap.size w1 w') :
    Calls Try.prog 68 #[.agg #[.slice a n c]] w (ResM w [] []) := by
  have T0 : Hid (∀ w1, Below w.heap.size w w1 → Calls Try.prog 121 #[.agg #[.slice a n c]] w1 fun e w' => e = .returned (.bool false) ∧ Below w1.heap.size w1 w') := t0
  obtain ⟨W0, hW0⟩ : ∃ W0, W0 = (w.alloc (.cells #[.slice a n c] 27)).alloc (.cells #[.slice none 0 0, .slice none 0 0] 25) := ⟨_, rfl⟩
  have B : Below w.heap.size w W0 := by subst hW0; exact Mi.below2 _ _ _
  have k1 : W0.heap[w.heap.size + 1]? = some (.cells #[.slice none 0 0, .slice none 0 0] 25 (0, 0)) := by subst hW0; exact at_new (by simp)
  clear t0
  go_enter Try.func68, Try.ntmps68
  go_wp2_with (go_at_call 121; rw [← hW0]; refine (T0.out _ B).mono ?_; rintro e wa ⟨rfl, hb⟩; replace k1 := (hb.block _ (Array.getElem?_eq_some_iff.1 k1).1).trans k1; obtain ⟨r0, r1⟩ := two k1; have fr := Bl.free k1; replace B := Rw.next B hb; clear hb)
  refine bodyPost_ret (v := .agg #[.slice none 0 0, .slice none 0 0]) (by simp [results, Try.results68, go_sem, r0, r1]) rfl (resM_none ?_)
  exact bset (bset B (by omega)) (by omega)

set_option maxHeartbeats 4000000 in
theorem of_yes (b o c : Nat) (H : List Int) (w : World) (r1 : ∀ k, k < 8 → w.cell? ⟨b, o + k, none⟩ = some (.int .i64 (H.getD k 0)))
    (t0 : ∀ w1, Below w.heap.size w w1 → Calls Try.prog 121 #[.agg #[.slice (some ⟨b, o, none⟩) 8 c]] w1 fun e w' => e = .returned (.bool true) ∧ Below w1.heap.size w1 w') :
    Calls Try.prog 68 #[.agg #[.slice (some ⟨b, o, none⟩) 8 c]] w (ResM w (lst (nth H)) (lst fullI)) := by
  have T0 : Hid (∀ w1, Below w.heap.size w w1 → Calls Try.prog 121 #[.agg #[.slice (some ⟨b, o, none⟩) 8 c]] w1 fun e w' => e = .returned (.bool true) ∧ Below w1.heap.size w1 w') := t0
  have R1 : Hid (∀ k, k < 8 → w.cell? ⟨b, o + k, none⟩ = some (.int .i64 (H.getD k 0))) := r1
  obtain ⟨W0, hW0⟩ : ∃ W0, W0 = (w.alloc (.cells #[.slice (some ⟨b, o, none⟩) 8 c] 27)).alloc (.cells #[.slice none 0 0, .slice none 0 0] 25) := ⟨_, rfl⟩
  have B : Below w.heap.size w W0 := by subst hW0; exact Mi.below2 _ _ _
  have k0 : W0.heap[w.heap.size]? = some (.cells #[.slice (some ⟨b, o, none⟩) 8 c] 27 (0, 0)) := by subst hW0; rw [at_old (by simp), at_new rfl]
  have k1 : W0.heap[w.heap.size + 1]? = some (.cells #[.slice none 0 0, .slice none 0 0] 25 (0, 0)) := by subst hW0; exact at_new (by simp)
  clear t0 r1
  go_enter Try.func68, Try.ntmps68
  go_wp2_with (go_at_call 121; rw [← hW0]; refine (T0.out _ B).mono ?_; rintro e wa ⟨rfl, hb⟩; replace k0 := (hb.block _ (Array.getElem?_eq_some_iff.1 k0).1).trans k0; replace k1 := (hb.block _ (Array.getElem?_eq_some_iff.1 k1).1).trans k1; replace B := Rw.next B hb; clear hb)
  clear hW0 T0
  have z0 := (Array.getElem?_eq_some_iff.1 k0).1
  have z1 := (Array.getElem?_eq_some_iff.1 k1).1
  have hA : Has (wa.alloc (.cells #[.int .i64 0, .int .i64 0, .int .i64 0, .int .i64 0, .int .i64 0, .int .i64 0, .int .i64 0, .int .i64 0, .int .i64 0, .int .i64 0, .int .i64 0, .int .i64 0, .int .i64 0, .int .i64 0, .int .i64 0, .int .i64 0] 97)) wa.heap.size nul nul := has_zero rfl
  have B1 : Below w.heap.size w (wa.alloc (.cells #[.int .i64 0, .int .i64 0, .int .i64 0, .int .i64 0, .int .i64 0, .int .i64 0, .int .i64 0, .int .i64 0, .int .i64 0, .int .i64 0, .int .i64 0, .int .i64 0, .int .i64 0, .int .i64 0, .int .i64 0, .int .i64 0] 97)) := Rw.next B (below_alloc1 _ _)
  replace k0 := (at_old (o := .cells #[.int .i64 0, .int .i64 0, .int .i64 0, .int .i64 0, .int .i64 0, .int .i64 0, .int .i64 0, .int .i64 0, .int .i64 0, .int .i64 0, .int .i64 0, .int .i64 0, .int .i64 0, .int .i64 0, .int .i64 0, .int .i64 0] 97) z0).trans k0
  replace k1 := (at_old (o := .cells #[.int .i64 0, .int .i64 0, .int .i64 0, .int .i64 0, .int .i64 0, .int .i64 0, .int .i64 0, .int .i64 0, .int .i64 0, .int .i64 0, .int .i64 0, .int .i64 0, .int .i64 0, .int .i64 0, .int .i64 0, .int .i64 0] 97) z1).trans k1
  obtain ⟨gA, hgA⟩ : ∃ gA, gA = wa.heap.size := ⟨_, rfl⟩
  rw [← hgA] at hA ⊢
  have n0 : w.heap.size ≠ gA := by omega
  have n1 : w.heap.size + 1 ≠ gA := by omega
  have n2 : w.heap.size ≤ gA := by omega
  have HLT : Hid (∀ k, k < 8 → b ≠ gA) := (fun k hk e => by have := World.block_lt_of_cell? _ _ (R1.out k hk); simp at this; omega : ∀ k, k < 8 → b ≠ gA)
  clear hgA z0 z1 B
  go_loopw [9] (fun i wr => ∃ k : Nat, k ≤ 8 ∧ i = .int .i64 k ∧ Below w.heap.size w wr ∧ wr.heap[w.heap.size]? = some (.cells #[.slice (some ⟨b, o, none⟩) 8 c] 27 (0, 0)) ∧ wr.heap[w.heap.size + 1]? = some (.cells #[.slice none 0 0, .slice none 0 0] 25 (0, 0)) ∧ Has wr gA (cut (nth H) nul k) (cut fullI nul k)) (fun i _ => 8 - (intOf i).toNat)
  case atStart => exact ⟨0, Nat.zero_le _, rfl, B1, k0, k1, hA.cast (by funext i; simp [cut]) (by funext i; simp [cut])⟩
  case round =>
    obtain ⟨k, hk, rfl, hbel, q0, q1, ha⟩ := hrel
    clear B1 k0 k1 hA
    have z0 := (Array.getElem?_eq_some_iff.1 q0).1
    have z1 := (Array.getElem?_eq_some_iff.1 q1).1
    by_cases hlt : k < 8
    · have hkz : (k : Int) < 8 := by omega
      have g0 : wr.cell? ⟨b, o + k, none⟩ = some (.int .i64 (nth H k)) := (hbel.cell (World.block_lt_of_cell? _ _ (R1.out k hlt))).trans (R1.out k hlt)
      have p0 := one q0
      have nb := HLT.out k hlt
      have Q0 : Hid (wr.heap[w.heap.size]? = some (.cells #[.slice (some ⟨b, o, none⟩) 8 c] 27 (0, 0))) := q0
      have Q1 : Hid (wr.heap[w.heap.size + 1]? = some (.cells #[.slice none 0 0, .slice none 0 0] 25 (0, 0))) := q1
      have HA : Hid (Has wr gA (cut (nth H) nul k) (cut fullI nul k)) := ha
      clear q0 q1 ha
      have HB : Hid (∀ w, Calls Try.prog 123 #[.int .i64 k] w fun e w' => e = .returned (.int .i64 (fbN k : Int)) ∧ w' = w) := (fun w => by have := implBits_any k w; rw [fbN_eq] at this; exact this : ∀ w, Calls Try.prog 123 #[.int .i64 k] w fun e w' => e = .returned (.int .i64 (fbN k : Int)) ∧ w' = w)
      have HT : Hid (∀ w, Calls Try.prog 122 #[.int .i64 k, .int .i64 (fbN k : Int)] w fun e w' => e = .returned (.int .i64 (fullI k)) ∧ Below w.heap.size w w') := (fun w => high_any k (fbN k) hlt (Nat.le_refl _) w : ∀ w, Calls Try.prog 122 #[.int .i64 k, .int .i64 (fbN k : Int)] w fun e w' => e = .returned (.int .i64 (fullI k)) ∧ Below w.heap.size w w')
      have eV : Hid (upd (cut (nth H) nul k) k (nth H k) = cut (nth H) nul (k + 1)) := upd_cut _ _ _
      have eM : Hid (upd (cut fullI nul k) k (fullI k) = cut fullI nul (k + 1)) := upd_cut _ _ _
      generalize (fbN k : Int) = B at HB HT
      generalize nth H k = h at g0 eV
      generalize fullI k = T at HT eM
      go_wp2
      refine wp_region_held_drew (S := (fun w' => w'.cell? ⟨w.heap.size, 0, none⟩ = some (.slice (some ⟨b, o, none⟩) 8 c) ∧ w'.cell? ⟨b, o + k, none⟩ = some (.int .i64 h))) (by kernel_rfl) ⟨p0, g0⟩ (fun hHeld => ?_)
      refine take (i := 0) (d := some 12) (v := .int .i64 k) rfl (by kernel_rfl) (by kernel_rfl) (by kernel_rfl) (by kernel_rfl) (fun _ _ _ h => h) (Or.inl ⟨by rfl, by intro w hSw; go_simp⟩) hHeld ?_
      simp only [Act.put, List.setIfInBounds_toArray, List.set_cons_zero, List.set_cons_succ]
      refine take (i := 1) (d := some 13) (v := .pointer (some ⟨w.heap.size, 0, none⟩)) rfl (by kernel_rfl) (by kernel_rfl) (by kernel_rfl) (by kernel_rfl) (fun _ _ _ h => h) (Or.inl ⟨by rfl, by intro w hSw; go_simp⟩) hHeld ?_
      simp only [Act.put, List.setIfInBounds_toArray, List.set_cons_zero, List.set_cons_succ]
      refine take (i := 2) (d := some 14) (v := .slice (some ⟨b, o, none⟩) 8 c) rfl (by kernel_rfl) (by kernel_rfl) (by kernel_rfl) (by kernel_rfl) (fun _ _ _ h => h) (Or.inl ⟨by rfl, by intro w hSw; obtain ⟨p0, g0⟩ := hSw; go_simp⟩) hHeld ?_
      simp only [Act.put, List.setIfInBounds_toArray, List.set_cons_zero, List.set_cons_succ]
      refine take (i := 3) (d := some 15) (v := .int .i64 k) rfl (by kernel_rfl) (by kernel_rfl) (by kernel_rfl) (by kernel_rfl) (fun _ _ _ h => h) (Or.inl ⟨by rfl, by intro w hSw; go_simp⟩) hHeld ?_
      simp only [Act.put, List.setIfInBounds_toArray, List.set_cons_zero, List.set_cons_succ]
      refine take (i := 4) (d := some 16) (v := .pointer (some ⟨b, o + k, none⟩)) rfl (by kernel_rfl) (by kernel_rfl) (by kernel_rfl) (by kernel_rfl) (fun _ _ _ h => h) (Or.inl ⟨by rfl, by intro w hSw; go_simp⟩) hHeld ?_
      simp only [Act.put, List.setIfInBounds_toArray, List.set_cons_zero, List.set_cons_succ]
      refine take (i := 5) (d := some 17) (v := .int .i64 h) rfl (by kernel_rfl) (by kernel_rfl) (by kernel_rfl) (by kernel_rfl) (fun _ _ _ h => h) (Or.inl ⟨by rfl, by intro w hSw; obtain ⟨p0, g0⟩ := hSw; go_simp⟩) hHeld ?_
      simp only [Act.put, List.setIfInBounds_toArray, List.set_cons_zero, List.set_cons_succ]
      refine take (i := 6) (d := some 18) (v := .int .i64 k) rfl (by kernel_rfl) (by kernel_rfl) (by kernel_rfl) (by kernel_rfl) (fun _ _ _ h => h) (Or.inl ⟨by rfl, by intro w hSw; go_simp⟩) hHeld ?_
      simp only [Act.put, List.setIfInBounds_toArray, List.set_cons_zero, List.set_cons_succ]
      refine take (i := 7) (d := some 19) (v := .int .i64 k) rfl (by kernel_rfl) (by kernel_rfl) (by kernel_rfl) (by kernel_rfl) (fun _ _ _ h => h) (Or.inl ⟨by rfl, by intro w hSw; go_simp⟩) hHeld ?_
      simp only [Act.put, List.setIfInBounds_toArray, List.set_cons_zero, List.set_cons_succ]
      refine wpAnyH_ready (rs := [8]) (by kernel_rfl) (by simp) (Rg.call1 rfl (by kernel_rfl) 123 (.tmp 19) 3 (by kernel_rfl) 20 (by kernel_rfl) (.int .i64 k) (by kernel_rfl) (fun _ => rfl) (HB.out _) ?_ AllReadyH.nil)
      rintro e wq ⟨rfl, hwq⟩
      subst hwq
      refine ⟨_, rfl, hHeld, fun hHeld => ?_⟩
      simp only [Act.put, List.setIfInBounds_toArray, List.set_cons_zero, List.set_cons_succ]
      refine wpAnyH_ready (rs := [9]) (by kernel_rfl) (by simp) (Rg.call2 rfl (by kernel_rfl) 122 (.tmp 18) (.tmp 20) 3 3 (by kernel_rfl) 21 (by kernel_rfl) (.int .i64 k) (.int .i64 B) (by kernel_rfl) (by kernel_rfl) (fun _ => rfl) (HT.out _) ?_ AllReadyH.nil)
      rintro e wq ⟨rfl, hb⟩
      replace p0 := (hb.cell (World.block_lt_of_cell? _ _ p0)).trans p0
      replace g0 := (hb.cell (World.block_lt_of_cell? _ _ g0)).trans g0
      refine ⟨_, rfl, ⟨p0, g0⟩, fun hHeld => ?_⟩
      simp only [Act.put, List.setIfInBounds_toArray, List.set_cons_zero, List.set_cons_succ]
      have hA1 := (HA.out.drew).below hb
      refine take (i := 10) (d := some 22) (v := .agg #[.int .i64 h, .int .i64 T]) rfl (by kernel_rfl) (by kernel_rfl) (by kernel_rfl) (by kernel_rfl) (fun _ _ _ h => h) (Or.inl ⟨by rfl, by intro w hSw; go_simp⟩) hHeld ?_
      simp only [Act.put, List.setIfInBounds_toArray, List.set_cons_zero, List.set_cons_succ]
      refine take (i := 11) (d := some 23) (v := .pointer (some ⟨gA, k * 2, none⟩)) rfl (by kernel_rfl) (by kernel_rfl) (by kernel_rfl) (by kernel_rfl) (fun _ _ _ h => h) (Or.inl ⟨by rfl, by intro w hSw; go_simp⟩) hHeld ?_
      simp only [Act.put, List.setIfInBounds_toArray, List.set_cons_zero, List.set_cons_succ]
      refine wpAnyH_ready (rs := [12]) (by kernel_rfl) (by simp) (Mo.ready64 (g := gA) (k := k) (p := h) (q := T) rfl (by kernel_rfl) (.tmp 23) (.tmp 22) (by kernel_rfl) (by kernel_rfl) (by kernel_rfl) (by kernel_rfl) hA1 hlt ⟨cell_set2 p0 (by omega), cell_set2 g0 (by omega)⟩ (fun hHeld => ?_) AllReadyH.nil)
      simp only [Act.put, List.setIfInBounds_toArray, List.set_cons_zero, List.set_cons_succ]
      refine wpAnyH_done (by kernel_rfl) ?_ _
      go_wp2
      go_roundw
      case rel => exact ⟨k + 1, by omega, by go_num, bset (bset (Rw.next hbel.drew hb) n2) n2, blk_set (blk_set ((hb.block _ z0).trans Q0.out) n0) n0, blk_set (blk_set ((hb.block _ z1).trans Q1.out) n1) n1, ((hA1.set_v hlt _).set_m hlt _).cast eV.out eM.out⟩
      case measure => simp [intOf]; omega
    · have he : k = 8 := by omega
      subst he
      have e8 : lst (cut (nth H) nul 8) = lst (nth H) := by unfold lst; apply List.map_congr_left; intro i hi; simp at hi; simp [cut, hi]
      have e9 : lst (cut fullI nul 8) = lst fullI := by unfold lst; apply List.map_congr_left; intro i hi; simp at hi; simp [cut, hi]
      have E8 : Hid (lst (cut (nth H) nul 8) = lst (nth H)) := e8
      have E9 : Hid (lst (cut fullI nul 8) = lst fullI) := e9
      clear e8 e9 q0 HLT R1
      have sW := hbel.size
      go_wp2_with (first
        | (refine load66 rfl _ rfl rfl ha ?_)
        | (go_at_call 70; refine (match_any _ _ _).mono ?_; rw [E8.out, E9.out]; rintro e w6 ⟨aV, gV, cV, aM, gM, cM, rfl, hV, hM, l1, l2, l3, hb⟩; replace q1 := (hb.block _ z1).trans q1; replace hbel := Rw.next hbel hb; obtain ⟨r0, r1⟩ := two q1; have fr := Bl.free q1; clear hb))
      refine bodyPost_ret (v := .agg #[.slice aV (lst _).length cV, .slice aM (lst _).length cM]) (by simp [results, Try.results68, go_sem, r0, r1]) rfl ⟨aV, gV, cV, aM, gM, cM, rfl, ?_, ?_, by omega, by omega, l3, ?_⟩
      · exact Mj.wt_set2 (Mj.wt_set2 hV (by omega)) (by omega)
      · exact Mj.wt_set2 (Mj.wt_set2 hM (by omega)) (by omega)
      · exact bset (bset hbel (by omega)) (by omega)

end Go.Proofs.Ytcbgnfjnjfaacaa.Mp
namespace Go.Proofs.Ytcbgnfjnjfaacaa.Mh
set_option maxRecDepth 8000
open Go Go.RowKit
open Num Pl Hr Hh Hf Hg Pa Pm Po Pq
set_option linter.unusedSimpArgs false
set_option linter.unusedVariables false

end Go.Proofs.Ytcbgnfjnjfaacaa.Mh
namespace Go.Proofs.Ytcbgnfjnjfaacaa.Mq
set_option maxRecDepth 8000
open Go Go.RowKit
open Num Pl Hr Hh Hf Hg Pa Pm Po Pq Pe Mi Bw Mo Mp
set_option linter.unusedSimpArgs false
set_option linter.unusedVariables false

set_option maxHeartbeats 2000000 in
theorem hits_l (a a' : Option Addr) (n c n' c' : Nat) (p : Option Addr) (m d : Nat) (HV HM : List Int) (R : Bool) (w : World)
    (t0 : ∀ w1, Below w.heap.size w w1 → Calls Try.prog 68 #[.agg #[.slice p m d]] w1 (ResM w1 HV HM))
    (t1 : ∀ w1, Below w.heap.size w w1 → ∀ (aV aM : Option Addr) (gV cV gM cM : Nat), Rd w1 aV gV 0 HV → Rd w1 aM gM 0 HM → Calls Try.prog 15 #[.agg #[.slice a n c, .slice a' n' c'], .agg #[.slice aV HV.length cV, .slice aM HM.length cM]] w1 fun e w' => e = .returned (.bool R) ∧ Below w1.heap.size w1 w') :
    Calls Try.prog 17 #[.agg #[.slice a n c, .slice a' n' c'], .agg #[.slice p m d]] w fun e w' => e = .returned (.bool R) ∧ Below w.heap.size w w' := by
  have T0 : Hid (∀ w1, Below w.heap.size w w1 → Calls Try.prog 68 #[.agg #[.slice p m d]] w1 (ResM w1 HV HM)) := t0
  have T1 : Hid (∀ w1, Below w.heap.size w w1 → ∀ (aV aM : Option Addr) (gV cV gM cM : Nat), Rd w1 aV gV 0 HV → Rd w1 aM gM 0 HM → Calls Try.prog 15 #[.agg #[.slice a n c, .slice a' n' c'], .agg #[.slice aV HV.length cV, .slice aM HM.length cM]] w1 fun e w' => e = .returned (.bool R) ∧ Below w1.heap.size w1 w') := t1
  obtain ⟨W0, hW0⟩ : ∃ W0, W0 = (w.alloc (.cells #[.slice a n c, .slice a' n' c'] 25)).alloc (.cells #[.slice p m d] 27) := ⟨_, rfl⟩
  have B : Below w.heap.size w W0 := by subst hW0; exact Mi.below2 _ _ _
  have k0 : W0.heap[w.heap.size]? = some (.cells #[.slice a n c, .slice a' n' c'] 25 (0, 0)) := by subst hW0; rw [at_old (by simp), at_new rfl]
  have k1 : W0.heap[w.heap.size + 1]? = some (.cells #[.slice p m d] 27 (0, 0)) := by subst hW0; exact at_new (by simp)
  have z0 := (Array.getElem?_eq_some_iff.1 k0).1
  have z1 := (Array.getElem?_eq_some_iff.1 k1).1
  clear t0 t1
  go_enter Try.func17, Try.ntmps17
  go_wp2
  rw [← hW0]
  clear hW0
  refine wp_region_held_drew (S := (fun w' => w'.heap[w.heap.size]? = some (.cells #[.slice a n c, .slice a' n' c'] 25 (0, 0)) ∧ w'.heap[w.heap.size + 1]? = some (.cells #[.slice p m d] 27 (0, 0)))) (by kernel_rfl) ⟨k0, k1⟩ (fun hHeld => ?_)
  refine take (i := 0) (d := some 5) (v := .agg #[.slice a n c, .slice a' n' c']) rfl (by kernel_rfl) (by kernel_rfl) (by kernel_rfl) (by kernel_rfl) (fun _ _ _ h => h) (Or.inl ⟨by rfl, by intro w hSw; obtain ⟨q0, q1⟩ := hSw; obtain ⟨t0, t1⟩ := two q0; go_simp⟩) hHeld ?_
  simp only [Act.put, List.setIfInBounds_toArray, List.set_cons_zero, List.set_cons_succ]
  refine take (i := 1) (d := some 6) (v := .agg #[.slice p m d]) rfl (by kernel_rfl) (by kernel_rfl) (by kernel_rfl) (by kernel_rfl) (fun _ _ _ h => h) (Or.inl ⟨by rfl, by intro w hSw; obtain ⟨q0, q1⟩ := hSw; have t0 := one q1; go_simp⟩) hHeld ?_
  simp only [Act.put, List.setIfInBounds_toArray, List.set_cons_zero, List.set_cons_succ]
  refine wpAnyH_ready (rs := [2]) (by kernel_rfl) (by simp) (Rg.call1 rfl (by kernel_rfl) 68 (.tmp 6) 27 (by kernel_rfl) 7 (by kernel_rfl) (.agg #[.slice p m d]) (by kernel_rfl) (fun _ => rfl) (T0.out _ B.drew) ?_ AllReadyH.nil)
  rintro e w3 ⟨aV, gV, cV, aM, gM, cM, rfl, hV, hM, l1, l2, l3, hb⟩
  refine ⟨_, rfl, ⟨(hb.block _ z0).trans k0, (hb.block _ z1).trans k1⟩, fun hHeld => ?_⟩
  simp only [Act.put, List.setIfInBounds_toArray, List.set_cons_zero, List.set_cons_succ]
  have B1 := Rw.next B.drew hb
  have k0a : w3.heap[w.heap.size]? = some (.cells #[.slice a n c, .slice a' n' c'] 25 (0, 0)) := (hb.block _ z0).trans k0
  have k1a : w3.heap[w.heap.size + 1]? = some (.cells #[.slice p m d] 27 (0, 0)) := (hb.block _ z1).trans k1
  have z0a := Nat.lt_of_lt_of_le z0 hb.size
  have z1a := Nat.lt_of_lt_of_le z1 hb.size
  clear hb
  refine wpAnyH_ready (rs := [3]) (by kernel_rfl) (by simp) (Rg.call2 rfl (by kernel_rfl) 15 (.tmp 5) (.tmp 7) 25 25 (by kernel_rfl) 8 (by kernel_rfl) (.agg #[.slice a n c, .slice a' n' c']) (.agg #[.slice aV HV.length cV, .slice aM HM.length cM]) (by kernel_rfl) (by kernel_rfl) (fun _ => rfl) (T1.out _ B1 _ _ _ _ _ _ hV.rd hM.rd) ?_ AllReadyH.nil)
  rintro e w4 ⟨rfl, hb⟩
  refine ⟨_, rfl, ⟨(hb.block _ z0a).trans k0a, (hb.block _ z1a).trans k1a⟩, fun hHeld => ?_⟩
  simp only [Act.put, List.setIfInBounds_toArray, List.set_cons_zero, List.set_cons_succ]
  refine take (i := 4) (d := some 4) (v := .bool R) rfl (by kernel_rfl) (by kernel_rfl) (by kernel_rfl) (by kernel_rfl) (fun _ _ _ h => h) (Or.inl ⟨by rfl, by intro w hSw; go_simp⟩) hHeld ?_
  simp only [Act.put, List.setIfInBounds_toArray, List.set_cons_zero, List.set_cons_succ]
  refine wpAnyH_done (by kernel_rfl) ?_ _
  go_wp2_with fail
  go_ret
  exact ⟨rfl, Rw.next B1 hb⟩

theorem full_eq (k : Nat) : fullI k = ((2 ^ fbN k - 1 : Nat) : Int) := by
  unfold fullI topI Bt.top
  rw [Nat.sub_self, Nat.pow_zero, Nat.mul_one]
theorem full_lt (k : Nat) : 0 ≤ fullI k ∧ fullI k < 281474976710656 := by
  rw [full_eq]
  have h1 : (2 ^ fbN k : Nat) ≤ 2 ^ 48 := Nat.pow_le_pow_right (by decide) (fbN_le k)
  have h3 : (2 ^ fbN k : Nat) ≤ 281474976710656 := h1
  have hp : 0 < 2 ^ fbN k := Nat.pow_pos (by decide)
  generalize (2 ^ fbN k : Nat) = Q at *
  omega
theorem fb_pos {k : Nat} (h : k < 8) : 0 < fbN k := by
  rcases Hs.k8 h with rfl | rfl | rfl | rfl | rfl | rfl | rfl | rfl <;> decide
theorem fits_full {k : Nat} (h : k < 8) : fits k (fullI k) = true := by
  rcases Hs.k8 h with rfl | rfl | rfl | rfl | rfl | rfl | rfl | rfl <;> decide
theorem or_full {n b : Nat} (h : n < 2 ^ b) : n ||| (2 ^ b - 1) = 2 ^ b - 1 := by
  rw [Bt.within_iff]
  intro i hi
  rw [Nat.testBit_two_pow_sub_one]
  refine decide_eq_true (Nat.lt_of_not_le fun hle => ?_)
  rw [Bt.testBit_out h hle] at hi
  exact absurd hi (by simp)
theorem and_full {n b : Nat} (h : n < 2 ^ b) : (2 ^ b - 1) &&& n = n := by
  have := (Bt.within_or_and n (2 ^ b - 1)).1 (or_full h)
  rw [Nat.and_comm]
  exact this

/-- What a right head says of its places. -/
theorem head_at {H : List Int} (h : headB H = true) {k : Nat} (hk : k < 8) : fits k (H.getD k 0) = true := by
  unfold headB at h
  simp only [Bool.and_eq_true, decide_eq_true_eq] at h
  have key : ∀ j, upto H j = true → ∀ i, i < j → fits i (H.getD i 0) = true := by
    intro j
    induction j with
    | zero => intro _ i hi; omega
    | succ j ih =>
      intro hu i hi
      simp only [upto, Bool.and_eq_true] at hu
      by_cases e : i = j
      · subst e; exact hu.2
      · exact ih hu.1 i (by omega)
  exact key 8 h.2 k hk
theorem head_len {H : List Int} (h : headB H = true) : H.length = 8 := by
  unfold headB at h
  simp only [Bool.and_eq_true, decide_eq_true_eq] at h
  exact h.1
theorem lst_getD (v : Nat → Int) {k : Nat} (h : k < 8) : (lst v).getD k 0 = v k := lst_at v h
theorem of_ok {H : List Int} (h : headB H = true) : matchB (lst (nth H)) (lst fullI) = true := by
  unfold matchB
  rw [lst_len, lst_len]
  have key : ∀ j, j ≤ 8 → uptoP (lst (nth H)) (lst fullI) j = true := by
    intro j
    induction j with
    | zero => intro _; rfl
    | succ j ih =>
      intro hj
      simp only [uptoP, ih (by omega), Bool.true_and]
      rw [lst_at _ (by omega), lst_at _ (by omega)]
      unfold pairB
      have hf := head_at h (k := j) (by omega)
      rw [fits_full (by omega)]
      simp only [Bool.true_and, decide_eq_true_eq]
      refine ⟨(fits_lt hf).1, ?_⟩
      rw [full_eq, Int.toNat_natCast]
      exact or_full (fits_pow hf)
  rw [key 8 (Nat.le_refl _)]
  rfl
theorem wide_lst {v : Nat → Int} (h : ∀ k, k < 8 → I64 (v k)) : Wide (lst v) := by
  intro k
  by_cases hk : k < 8
  · rw [lst_at v hk]; exact h k hk
  · have e : (lst v).getD k 0 = 0 := by simp [List.getD, List.getElem?_eq_none (by rw [lst_len]; omega : (lst v).length ≤ k)]
    rw [e]
    unfold I64
    omega

/-- What the program asks of a right match and a right head is what the specification asks bit by bit. -/
theorem hits_iff {V M H : List Int} (h : matchB V M = true) (hh : headB H = true) :
    sameB (fun k => bits .and .i64 (nth (lst (nth H)) k) (nth M k)) (fun k => bits .and .i64 (nth (lst fullI) k) (nth M k)) (nth V) (nth M) = true ↔ ∀ f, f < 8 → ∀ i, i < fbN f → (bitI (M.getD f 0) i = 1 → bitI (V.getD f 0) i = bitI (H.getD f 0) i) := by
  rw [Lb.sameB_iff]
  have key : ∀ f, f < 8 → ((bits .and .i64 (nth (lst (nth H)) f) (nth M f) = nth V f ∧ bits .and .i64 (nth (lst fullI) f) (nth M f) = nth M f) ↔ ∀ i, i < fbN f → (bitI (M.getD f 0) i = 1 → bitI (V.getD f 0) i = bitI (H.getD f 0) i)) := by
    intro f hf
    obtain ⟨a1, a2, a3, a4, a5, a6⟩ := Lc.at_ok h hf
    have b1 := head_at hh hf
    have b2 := fits_lt b1
    have b3 := full_lt f
    unfold nth
    rw [lst_at _ hf, lst_at _ hf, Lc.and_nat b2.1 b2.2 a4 a5, Lc.and_nat b3.1 b3.2 a4 a5, Lc.cast_eq a2, Lc.cast_eq a4, full_eq, Int.toNat_natCast, and_full (fits_pow a1)]
    simp only [and_true]
    have := Bt.hits_iff (H := (H.getD f 0).toNat) a3 (fits_pow a1)
    simp only [bit_iff, bit_eq_iff]
    rw [this]
  exact ⟨fun q f hf => (key f hf).1 (q f hf), fun q f hf => (key f hf).2 (q f hf)⟩

end Go.Proofs.Ytcbgnfjnjfaacaa.Mq
namespace Go.Proofs.Ytcbgnfjnjfaacaa.Ld
set_option maxRecDepth 8000
open Go Go.RowKit
open Num Pl Hr Hh Hf Hg Pa Pm Po Pe Rg Lb Lc Bw Mo Mp Mq
set_option linter.unusedVariables false

/-- The match of a head: nothing where the head isn't right. -/
def ofV (H : List Int) : List Int := if headB H = true then lst (nth H) else []
def ofM (H : List Int) : List Int := if headB H = true then lst fullI else []
theorem of_any {H : List Int} {a : Option Addr} {b o : Nat} (c : Nat) {w : World} (h : Rd w a b o H) : ∀ w1, Below w.heap.size w w1 → Calls Try.prog 68 #[.agg #[.slice a H.length c]] w1 (ResM w1 (ofV H) (ofM H)) := by
  intro w1 hb
  have h1 := h.below hb
  unfold ofV ofM
  cases hh : headB H with
  | false =>
    refine of_no a H.length c w1 (fun w2 h2 => ?_)
    have := implOk_any a b o c H w2 (h1.below h2)
    rw [hh] at this
    exact this
  | true =>
    have l8 := Mq.head_len hh
    obtain rfl := rd_some h1 l8
    have g := h1.cell
    have t : ∀ w2, Below w1.heap.size w1 w2 → Calls Try.prog 121 #[.agg #[.slice (some ⟨b, o, none⟩) H.length c]] w2 fun e w' => e = .returned (.bool true) ∧ Below w2.heap.size w2 w' := by
      intro w2 h2
      have := implOk_any _ b o c H w2 (h1.below h2)
      rw [hh] at this
      exact this
    rw [l8] at t g ⊢
    exact of_yes b o c H w1 g t
theorem wide_ofV {H : List Int} (hW : Wide H) : Wide (ofV H) := by
  unfold ofV
  cases headB H with
  | false => intro k; simp [I64]
  | true => exact wide_lst (fun k _ => hW k)
theorem ofB (H : List Int) : matchB (ofV H) (ofM H) = headB H := by
  unfold ofV ofM
  cases hh : headB H with
  | false => rfl
  | true => exact of_ok hh
/-- What the program's Hits answers. -/
def hitB (V M H : List Int) : Bool := (matchB V M && matchB (ofV H) (ofM H)) && sameB (fun k => bits .and .i64 (pv (ofV H) (ofM H) k) (pm V M k)) (fun k => bits .and .i64 (pm (ofV H) (ofM H) k) (pm V M k)) (pv V M) (pm V M)
theorem hits_any (V M H : List Int) (wV : Wide V) (wH : Wide H) : CMH 17 V M H (Bo (hitB V M H)) := by
  intro a a' b o c b' o' c' p q r s w h1 h2 h3
  refine hits_l a a' _ c _ c' p _ s (ofV H) (ofM H) _ w (of_any s h3) ?_
  intro w1 hb aV aM gV cV gM cM r1 r2
  exact Mi.covers_l a a' aV aM _ _ _ _ c c' cV cM _ _ _ _ _ w1 (Mi.two_any c c' cV cM (h1.below hb) (h2.below hb) wV r1 r2 (wide_ofV wH))
theorem headT {H : List Int} {a : Option Addr} {b o : Nat} (c : Nat) {w : World} (h1 : Rd w a b o H) {P : Bool} (hP : headB H = P) :
    ∀ w1, Below w.heap.size w w1 → Calls Try.prog 97 #[.agg #[.slice a H.length c]] w1 fun e w' => e = .returned (.bool P) ∧ Below w1.heap.size w1 w' := by
  intro w1 hb
  have := specOk_any a b o c H w1 (h1.below hb)
  rw [hP] at this
  exact this
end Go.Proofs.Ytcbgnfjnjfaacaa.Ld
namespace Go.Proofs.Ytcbgnfjnjfaacaa.Lc
set_option maxRecDepth 8000
set_option linter.unusedVariables false
open Go Go.RowKit
open Num Pl Hr Hh Hf Hg Pa Pm Po Pe Rg Lb Bw
set_option maxHeartbeats 1000000 in
theorem hit_wrong1 (a a' : Option Addr) (n c n' c' : Nat) (p : Option Addr) (m d : Nat) (w : World) (t0 : ∀ w1, Below w.heap.size w w1 → Calls Try.prog 62 #[.agg #[.slice a n c, .slice a' n' c']] w1 fun e w' => e = .returned (.bool false) ∧ Below w1.heap.size w1 w') :
    Calls Try.prog 102 #[.agg #[.slice a n c, .slice a' n' c'], .agg #[.slice p m d]] w fun e w' => e = .returned (.bool false) ∧ Below w.heap.size w w' := by
  have T0 : Hid (∀ w1, Below w.heap.size w w1 → Calls Try.prog 62 #[.agg #[.slice a n c, .slice a' n' c']] w1 fun e w' => e = .returned (.bool false) ∧ Below w1.heap.size w1 w') := t0
  obtain ⟨W0, hW0⟩ : ∃ W0, W0 = ((w.alloc (.cells #[.slice a n c, .slice a' n' c'] 25)).alloc (.cells #[.slice p m d] 27)) := ⟨_, rfl⟩
  have B : Below w.heap.size w W0 := by subst hW0; exact Mi.below2 _ _ _
  clear t0
  go_enter Try.func102, Try.ntmps102
  go_wp2_with (go_at_call 62; rw [← hW0]; refine (T0.out _ B).mono ?_; rintro e wa ⟨rfl, hb⟩; replace B := Rw.next B hb)
  go_ret
  exact ⟨rfl, B⟩

set_option maxHeartbeats 1000000 in
theorem hit_wrong2 (a a' : Option Addr) (n c n' c' : Nat) (p : Option Addr) (m d : Nat) (w : World) (t0 : ∀ w1, Below w.heap.size w w1 → Calls Try.prog 62 #[.agg #[.slice a n c, .slice a' n' c']] w1 fun e w' => e = .returned (.bool true) ∧ Below w1.heap.size w1 w') (t1 : ∀ w1, Below w.heap.size w w1 → Calls Try.prog 97 #[.agg #[.slice p m d]] w1 fun e w' => e = .returned (.bool false) ∧ Below w1.heap.size w1 w') :
    Calls Try.prog 102 #[.agg #[.slice a n c, .slice a' n' c'], .agg #[.slice p m d]] w fun e w' => e = .returned (.bool false) ∧ Below w.heap.size w w' := by
  have T0 : Hid (∀ w1, Below w.heap.size w w1 → Calls Try.prog 62 #[.agg #[.slice a n c, .slice a' n' c']] w1 fun e w' => e = .returned (.bool true) ∧ Below w1.heap.size w1 w') := t0
  have T1 : Hid (∀ w1, Below w.heap.size w w1 → Calls Try.prog 97 #[.agg #[.slice p m d]] w1 fun e w' => e = .returned (.bool false) ∧ Below w1.heap.size w1 w') := t1
  obtain ⟨W0, hW0⟩ : ∃ W0, W0 = ((w.alloc (.cells #[.slice a n c, .slice a' n' c'] 25)).alloc (.cells #[.slice p m d] 27)) := ⟨_, rfl⟩
  have B : Below w.heap.size w W0 := by subst hW0; exact Mi.below2 _ _ _
  clear t0 t1
  have k1 : W0.heap[w.heap.size + 1]? = some (.cells #[.slice p m d] 27 (0, 0)) := by subst hW0; exact at_new (by simp)
  have tok1 : True := trivial
  go_enter Try.func102, Try.ntmps102
  go_wp2_with (first
    | (go_at_call 62; clear tok1; rw [← hW0]; refine (T0.out _ B).mono ?_; rintro e wa ⟨rfl, hb⟩; replace k1 := (hb.block _ (Array.getElem?_eq_some_iff.1 k1).1).trans k1; have q0 := one k1; replace B := Rw.next B hb; clear hb; have tok2 : True := trivial)
    | (go_at_call 97; clear tok2; refine (T1.out _ B).mono ?_; rintro e wb ⟨rfl, hb⟩; replace B := Rw.next B hb))
  go_ret
  exact ⟨rfl, B⟩

end Go.Proofs.Ytcbgnfjnjfaacaa.Lc
namespace Go.Proofs.Ytcbgnfjnjfaacaa.Mh
set_option maxRecDepth 8000
set_option linter.unusedVariables false
open Go Go.RowKit
open Num Pl Hr Hh Hf Hg Pa Pm Po Pq
set_option maxHeartbeats 8000000 in
theorem hitsS (b1 o1 c1 : Nat) (b2 o2 c2 : Nat) (b3 o3 c3 : Nat) (V M H : List Int) (w : World)
    (r1 : ∀ k, k < 8 → w.cell? ⟨b1, o1 + k, none⟩ = some (.int .i64 (V.getD k 0))) (r2 : ∀ k, k < 8 → w.cell? ⟨b2, o2 + k, none⟩ = some (.int .i64 (M.getD k 0))) (r3 : ∀ k, k < 8 → w.cell? ⟨b3, o3 + k, none⟩ = some (.int .i64 (H.getD k 0)))
    (d1 : ∀ k, k < 8 → 0 ≤ V.getD k 0 ∧ V.getD k 0 < 281474976710656) (d2 : ∀ k, k < 8 → 0 ≤ M.getD k 0 ∧ M.getD k 0 < 281474976710656) (d3 : ∀ k, k < 8 → 0 ≤ H.getD k 0 ∧ H.getD k 0 < 281474976710656)
    (t0 : ∀ w1, Below w.heap.size w w1 → Calls Try.prog 62 #[.agg #[.slice (some ⟨b1, o1, none⟩) 8 c1, .slice (some ⟨b2, o2, none⟩) 8 c2]] w1 fun e w' => e = .returned (.bool true) ∧ Below w1.heap.size w1 w')
    (t1 : ∀ w1, Below w.heap.size w w1 → Calls Try.prog 97 #[.agg #[.slice (some ⟨b3, o3, none⟩) 8 c3]] w1 fun e w' => e = .returned (.bool true) ∧ Below w1.heap.size w1 w')
    (R : Bool) (hR : R = true ↔ ∀ f, f < 8 → ∀ i, i < Bw.fbN f → (Bw.bitI (M.getD f 0) i = 1 → Bw.bitI (V.getD f 0) i = Bw.bitI (H.getD f 0) i)) :
    Calls Try.prog 102 #[.agg #[.slice (some ⟨b1, o1, none⟩) 8 c1, .slice (some ⟨b2, o2, none⟩) 8 c2], .agg #[.slice (some ⟨b3, o3, none⟩) 8 c3]] w fun e w' => e = .returned (.bool R) ∧ Below w.heap.size w w' := by
  have R1 : Hid (∀ k, k < 8 → w.cell? ⟨b1, o1 + k, none⟩ = some (.int .i64 (V.getD k 0))) := r1
  have D1 : Hid (∀ k, k < 8 → 0 ≤ V.getD k 0 ∧ V.getD k 0 < 281474976710656) := d1
  have R2 : Hid (∀ k, k < 8 → w.cell? ⟨b2, o2 + k, none⟩ = some (.int .i64 (M.getD k 0))) := r2
  have D2 : Hid (∀ k, k < 8 → 0 ≤ M.getD k 0 ∧ M.getD k 0 < 281474976710656) := d2
  have R3 : Hid (∀ k, k < 8 → w.cell? ⟨b3, o3 + k, none⟩ = some (.int .i64 (H.getD k 0))) := r3
  have D3 : Hid (∀ k, k < 8 → 0 ≤ H.getD k 0 ∧ H.getD k 0 < 281474976710656) := d3
  have T0 : Hid (∀ w1, Below w.heap.size w w1 → Calls Try.prog 62 #[.agg #[.slice (some ⟨b1, o1, none⟩) 8 c1, .slice (some ⟨b2, o2, none⟩) 8 c2]] w1 fun e w' => e = .returned (.bool true) ∧ Below w1.heap.size w1 w') := t0
  have T1 : Hid (∀ w1, Below w.heap.size w w1 → Calls Try.prog 97 #[.agg #[.slice (some ⟨b3, o3, none⟩) 8 c3]] w1 fun e w' => e = .returned (.bool true) ∧ Below w1.heap.size w1 w') := t1
  have HR : Hid (R = true ↔ ∀ f, f < 8 → ∀ i, i < Bw.fbN f → (Bw.bitI (M.getD f 0) i = 1 → Bw.bitI (V.getD f 0) i = Bw.bitI (H.getD f 0) i)) := hR
  clear hR t0 t1 r1 d1 r2 d2 r3 d3
  obtain ⟨W0, hW0⟩ : ∃ W0, W0 = (w.alloc (.cells #[.slice (some ⟨b1, o1, none⟩) 8 c1, .slice (some ⟨b2, o2, none⟩) 8 c2] 25)).alloc (.cells #[.slice (some ⟨b3, o3, none⟩) 8 c3] 27) := ⟨_, rfl⟩
  have B : Below w.heap.size w W0 := by subst hW0; exact Mi.below2 _ _ _
  have k0 : W0.heap[w.heap.size]? = some (.cells #[.slice (some ⟨b1, o1, none⟩) 8 c1, .slice (some ⟨b2, o2, none⟩) 8 c2] 25 (0, 0)) := by subst hW0; rw [at_old (by simp), at_new rfl]
  have k1 : W0.heap[w.heap.size + 1]? = some (.cells #[.slice (some ⟨b3, o3, none⟩) 8 c3] 27 (0, 0)) := by subst hW0; exact at_new (by simp)
  have tok1 : True := trivial
  go_enter Try.func102, Try.ntmps102
  go_wp2_with (first
    | (go_at_call 62; clear tok1; rw [← hW0]; refine (T0.out _ B).mono ?_; rintro e wa ⟨rfl, hb⟩; replace k0 := (hb.block _ (Array.getElem?_eq_some_iff.1 k0).1).trans k0; replace k1 := (hb.block _ (Array.getElem?_eq_some_iff.1 k1).1).trans k1; obtain ⟨p00, p01⟩ := two k0; have p10 := one k1; replace B := Rw.next B hb; clear hb; have tok2 : True := trivial)
    | (go_at_call 97; clear tok2; refine (T1.out _ B).mono ?_; rintro e wb ⟨rfl, hb⟩; clear p00 p01 p10; replace k0 := (hb.block _ (Array.getElem?_eq_some_iff.1 k0).1).trans k0; replace k1 := (hb.block _ (Array.getElem?_eq_some_iff.1 k1).1).trans k1; obtain ⟨p00, p01⟩ := two k0; have p10 := one k1; replace B := Rw.next B hb; clear hb))
  clear p00 p01 p10 hW0 T0 T1
  go_loopw [5] (fun i wr => ∃ k : Nat, k ≤ 8 ∧ i = .int .i64 k ∧ Below w.heap.size w wr ∧ wr.heap[w.heap.size]? = some (.cells #[.slice (some ⟨b1, o1, none⟩) 8 c1, .slice (some ⟨b2, o2, none⟩) 8 c2] 25 (0, 0)) ∧ wr.heap[w.heap.size + 1]? = some (.cells #[.slice (some ⟨b3, o3, none⟩) 8 c3] 27 (0, 0)) ∧ ∀ f, f < k → ∀ i, i < Bw.fbN f → (Bw.bitI (M.getD f 0) i = 1 → Bw.bitI (V.getD f 0) i = Bw.bitI (H.getD f 0) i)) (fun i _ => 8 - (intOf i).toNat)
  case atStart => exact ⟨0, Nat.zero_le _, rfl, B, k0, k1, fun f hf => by omega⟩
  case round =>
    obtain ⟨k, hk, rfl, hbo, q0, q1, hgo⟩ := hrel
    have HG : Hid (∀ f, f < k → ∀ i, i < Bw.fbN f → (Bw.bitI (M.getD f 0) i = 1 → Bw.bitI (V.getD f 0) i = Bw.bitI (H.getD f 0) i)) := hgo
    clear hgo B k0 k1
    by_cases hlt : k < 8
    · have hkz : (k : Int) < 8 := by omega
      have h48 := Bw.fbN_le k
      have HF : Hid (∀ w, Calls Try.prog 66 #[.int .i64 k] w fun e w' => e = .returned (.int .i64 (Bw.fbN k : Int)) ∧ Below w.heap.size w w') := (fun w => by have := specBits_any k w; rw [Bw.fbN_eq] at this; exact this : ∀ w, Calls Try.prog 66 #[.int .i64 k] w fun e w' => e = .returned (.int .i64 (Bw.fbN k : Int)) ∧ Below w.heap.size w w')
      go_wp2
      go_loopw [6] (fun i wr => ∃ j : Nat, j ≤ Bw.fbN k ∧ i = .int .i64 j ∧ Below w.heap.size w wr ∧ wr.heap[w.heap.size]? = some (.cells #[.slice (some ⟨b1, o1, none⟩) 8 c1, .slice (some ⟨b2, o2, none⟩) 8 c2] 25 (0, 0)) ∧ wr.heap[w.heap.size + 1]? = some (.cells #[.slice (some ⟨b3, o3, none⟩) 8 c3] 27 (0, 0)) ∧ ∀ i, i < j → (Bw.bitI (M.getD k 0) i = 1 → Bw.bitI (V.getD k 0) i = Bw.bitI (H.getD k 0) i)) (fun i _ => Bw.fbN k - (intOf i).toNat)
      case atStart => exact ⟨0, Nat.zero_le _, rfl, hbo, q0, q1, fun i hi => by omega⟩
      case round =>
        obtain ⟨j, hj, rfl, hbel, q0, q1, hgi⟩ := hrel
        have HI : Hid (∀ i, i < j → (Bw.bitI (M.getD k 0) i = 1 → Bw.bitI (V.getD k 0) i = Bw.bitI (H.getD k 0) i)) := hgi
        clear hgi
        by_cases hjl : j < Bw.fbN k
        · have hjz : (j : Int) < (Bw.fbN k : Int) := by omega
          have hj48 : j < 48 := by omega
          go_wp2_with (go_at_call 66; refine (HF.out _).mono ?_; rintro e ws ⟨rfl, hb⟩; replace q0 := (hb.block _ (Array.getElem?_eq_some_iff.1 q0).1).trans q0; replace q1 := (hb.block _ (Array.getElem?_eq_some_iff.1 q1).1).trans q1; replace hbel := Rw.next hbel hb; clear hb)
          have Q0 : Hid (ws.heap[w.heap.size]? = some (.cells #[.slice (some ⟨b1, o1, none⟩) 8 c1, .slice (some ⟨b2, o2, none⟩) 8 c2] 25 (0, 0))) := q0
          have Q1 : Hid (ws.heap[w.heap.size + 1]? = some (.cells #[.slice (some ⟨b3, o3, none⟩) 8 c3] 27 (0, 0))) := q1
          obtain ⟨p00, p01⟩ := two q0
          have p10 := one q1
          clear q0 q1
          have g1 : ws.cell? ⟨b1, o1 + k, none⟩ = some (.int .i64 (V.getD k 0)) := (hbel.cell (World.block_lt_of_cell? _ _ (R1.out k hlt))).trans (R1.out k hlt)
          have H1 : Hid (∀ w, Calls Try.prog 67 #[.int .i64 (V.getD k 0), .int .i64 j] w fun e w' => e = .returned (.int .i64 (Bw.bitI (V.getD k 0) j)) ∧ w' = w) := (fun w => Bw.bit_any _ _ (D1.out k hlt).1 (D1.out k hlt).2 hj48 w : ∀ w, Calls Try.prog 67 #[.int .i64 (V.getD k 0), .int .i64 j] w fun e w' => e = .returned (.int .i64 (Bw.bitI (V.getD k 0) j)) ∧ w' = w)
          have y1 := Bw.bit_01 (V.getD k 0) j
          have g2 : ws.cell? ⟨b2, o2 + k, none⟩ = some (.int .i64 (M.getD k 0)) := (hbel.cell (World.block_lt_of_cell? _ _ (R2.out k hlt))).trans (R2.out k hlt)
          have H2 : Hid (∀ w, Calls Try.prog 67 #[.int .i64 (M.getD k 0), .int .i64 j] w fun e w' => e = .returned (.int .i64 (Bw.bitI (M.getD k 0) j)) ∧ w' = w) := (fun w => Bw.bit_any _ _ (D2.out k hlt).1 (D2.out k hlt).2 hj48 w : ∀ w, Calls Try.prog 67 #[.int .i64 (M.getD k 0), .int .i64 j] w fun e w' => e = .returned (.int .i64 (Bw.bitI (M.getD k 0) j)) ∧ w' = w)
          have y2 := Bw.bit_01 (M.getD k 0) j
          have g3 : ws.cell? ⟨b3, o3 + k, none⟩ = some (.int .i64 (H.getD k 0)) := (hbel.cell (World.block_lt_of_cell? _ _ (R3.out k hlt))).trans (R3.out k hlt)
          have H3 : Hid (∀ w, Calls Try.prog 67 #[.int .i64 (H.getD k 0), .int .i64 j] w fun e w' => e = .returned (.int .i64 (Bw.bitI (H.getD k 0) j)) ∧ w' = w) := (fun w => Bw.bit_any _ _ (D3.out k hlt).1 (D3.out k hlt).2 hj48 w : ∀ w, Calls Try.prog 67 #[.int .i64 (H.getD k 0), .int .i64 j] w fun e w' => e = .returned (.int .i64 (Bw.bitI (H.getD k 0) j)) ∧ w' = w)
          have y3 := Bw.bit_01 (H.getD k 0) j
          have HN : Hid (¬ (Bw.bitI (M.getD k 0) j = 1 → Bw.bitI (V.getD k 0) j = Bw.bitI (H.getD k 0) j) → R = false) := (fun h => by cases hr : R with | false => rfl | true => exact absurd (HR.out.1 hr k hlt j hjl) h : ¬ (Bw.bitI (M.getD k 0) j = 1 → Bw.bitI (V.getD k 0) j = Bw.bitI (H.getD k 0) j) → R = false)
          have HY : Hid ((Bw.bitI (M.getD k 0) j = 1 → Bw.bitI (V.getD k 0) j = Bw.bitI (H.getD k 0) j) → ∀ i, i < j + 1 → (Bw.bitI (M.getD k 0) i = 1 → Bw.bitI (V.getD k 0) i = Bw.bitI (H.getD k 0) i)) := (fun h i hi => by by_cases e : i = j; (· subst e; exact h); (· exact HI.out i (by omega)) : (Bw.bitI (M.getD k 0) j = 1 → Bw.bitI (V.getD k 0) j = Bw.bitI (H.getD k 0) j) → ∀ i, i < j + 1 → (Bw.bitI (M.getD k 0) i = 1 → Bw.bitI (V.getD k 0) i = Bw.bitI (H.getD k 0) i))
          generalize e1a : Bw.bitI (V.getD k 0) j = x1 at *
          generalize e1b : V.getD k 0 = m1 at H1 g1
          generalize e2a : Bw.bitI (M.getD k 0) j = x2 at *
          generalize e2b : M.getD k 0 = m2 at H2 g2
          generalize e3a : Bw.bitI (H.getD k 0) j = x3 at *
          generalize e3b : H.getD k 0 = m3 at H3 g3
          clear e1a e1b e2a e2b e3a e3b
          clear HI HF D1 D2 D3
          have hc : x2 = 0 ∨ (x2 = 1 ∧ x1 = x3) ∨ (x2 = 1 ∧ ¬ x1 = x3) := by omega
          rcases hc with u | ⟨u, t⟩ | ⟨u, t⟩
          · have U : Hid (x2 = 0) := u
            have f1 : (x2 == 1) = false := by rw [u]; rfl
            clear u y1 y2 y3
            refine wp_region_held_drew (S := (fun w' => w'.cell? ⟨w.heap.size, 0, none⟩ = some (.slice (some ⟨b1, o1, none⟩) 8 c1) ∧ w'.cell? ⟨w.heap.size, 1, none⟩ = some (.slice (some ⟨b2, o2, none⟩) 8 c2) ∧ w'.cell? ⟨w.heap.size + 1, 0, none⟩ = some (.slice (some ⟨b3, o3, none⟩) 8 c3) ∧ w'.cell? ⟨b1, o1 + k, none⟩ = some (.int .i64 m1) ∧ w'.cell? ⟨b2, o2 + k, none⟩ = some (.int .i64 m2) ∧ w'.cell? ⟨b3, o3 + k, none⟩ = some (.int .i64 m3))) (by kernel_rfl) ⟨p00, p01, p10, g1, g2, g3⟩ (fun hHeld => ?_)
            refine take (i := 0) (d := some 25) (v := .pointer (some ⟨w.heap.size, 1, none⟩)) rfl (by kernel_rfl) (by kernel_rfl) (by kernel_rfl) (by kernel_rfl) (fun _ _ _ h => h) (Or.inl ⟨by rfl, by intro w hSw; go_simp⟩) hHeld ?_
            simp only [Act.put, List.setIfInBounds_toArray, List.set_cons_zero, List.set_cons_succ]
            refine take (i := 1) (d := some 26) (v := .slice (some ⟨b2, o2, none⟩) 8 c2) rfl (by kernel_rfl) (by kernel_rfl) (by kernel_rfl) (by kernel_rfl) (fun _ _ _ h => h) (Or.inl ⟨by rfl, by intro w hSw; obtain ⟨p00, p01, p10, g1, g2, g3⟩ := hSw; go_simp⟩) hHeld ?_
            simp only [Act.put, List.setIfInBounds_toArray, List.set_cons_zero, List.set_cons_succ]
            refine take (i := 2) (d := some 27) (v := .int .i64 k) rfl (by kernel_rfl) (by kernel_rfl) (by kernel_rfl) (by kernel_rfl) (fun _ _ _ h => h) (Or.inl ⟨by rfl, by intro w hSw; go_simp⟩) hHeld ?_
            simp only [Act.put, List.setIfInBounds_toArray, List.set_cons_zero, List.set_cons_succ]
            refine take (i := 3) (d := some 28) (v := .pointer (some ⟨b2, o2 + k, none⟩)) rfl (by kernel_rfl) (by kernel_rfl) (by kernel_rfl) (by kernel_rfl) (fun _ _ _ h => h) (Or.inl ⟨by rfl, by intro w hSw; go_simp⟩) hHeld ?_
            simp only [Act.put, List.setIfInBounds_toArray, List.set_cons_zero, List.set_cons_succ]
            refine take (i := 4) (d := some 29) (v := .int .i64 m2) rfl (by kernel_rfl) (by kernel_rfl) (by kernel_rfl) (by kernel_rfl) (fun _ _ _ h => h) (Or.inl ⟨by rfl, by intro w hSw; obtain ⟨p00, p01, p10, g1, g2, g3⟩ := hSw; go_simp⟩) hHeld ?_
            simp only [Act.put, List.setIfInBounds_toArray, List.set_cons_zero, List.set_cons_succ]
            refine take (i := 5) (d := some 30) (v := .int .i64 j) rfl (by kernel_rfl) (by kernel_rfl) (by kernel_rfl) (by kernel_rfl) (fun _ _ _ h => h) (Or.inl ⟨by rfl, by intro w hSw; go_simp⟩) hHeld ?_
            simp only [Act.put, List.setIfInBounds_toArray, List.set_cons_zero, List.set_cons_succ]
            refine wpAnyH_ready (rs := [6]) (by kernel_rfl) (by simp) (Mi.readyCall2 rfl (by kernel_rfl) 67 (.tmp 29) (.tmp 30) 3 3 (by kernel_rfl) 31 (by kernel_rfl) _ _ (by kernel_rfl) (by kernel_rfl) (fun _ => rfl) (H2.out _) (fun wx hb => by rw [hb]; exact hHeld) (fun wx hb hHeld => ?_) AllReadyH.nil)
            subst hb
            simp only [Act.put, List.setIfInBounds_toArray, List.set_cons_zero, List.set_cons_succ]
            refine take (i := 7) (d := some 32) (v := .bool false) rfl (by kernel_rfl) (by kernel_rfl) (by kernel_rfl) (by kernel_rfl) (fun _ _ _ h => h) (Or.inl ⟨by rfl, by intro w hSw; go_simp⟩) hHeld ?_
            simp only [Act.put, List.setIfInBounds_toArray, List.set_cons_zero, List.set_cons_succ]
            refine take (i := 8) (d := some 33) (v := .bool false) rfl (by kernel_rfl) (by kernel_rfl) (by kernel_rfl) (by kernel_rfl) (fun _ _ _ h => h) (Or.inl ⟨by rfl, by intro w hSw; go_simp⟩) hHeld ?_
            simp only [Act.put, List.setIfInBounds_toArray, List.set_cons_zero, List.set_cons_succ]
            refine take (i := 9) (d := some 34) (v := undef) rfl (by kernel_rfl) (by kernel_rfl) (by kernel_rfl) (by kernel_rfl) (fun _ _ _ h => h) (Or.inr ⟨by rfl, rfl⟩) hHeld ?_
            simp only [Act.put, List.setIfInBounds_toArray, List.set_cons_zero, List.set_cons_succ]
            refine take (i := 10) (d := some 35) (v := undef) rfl (by kernel_rfl) (by kernel_rfl) (by kernel_rfl) (by kernel_rfl) (fun _ _ _ h => h) (Or.inr ⟨by rfl, rfl⟩) hHeld ?_
            simp only [Act.put, List.setIfInBounds_toArray, List.set_cons_zero, List.set_cons_succ]
            refine take (i := 11) (d := some 36) (v := undef) rfl (by kernel_rfl) (by kernel_rfl) (by kernel_rfl) (by kernel_rfl) (fun _ _ _ h => h) (Or.inr ⟨by rfl, rfl⟩) hHeld ?_
            simp only [Act.put, List.setIfInBounds_toArray, List.set_cons_zero, List.set_cons_succ]
            refine take (i := 12) (d := some 37) (v := undef) rfl (by kernel_rfl) (by kernel_rfl) (by kernel_rfl) (by kernel_rfl) (fun _ _ _ h => h) (Or.inr ⟨by rfl, rfl⟩) hHeld ?_
            simp only [Act.put, List.setIfInBounds_toArray, List.set_cons_zero, List.set_cons_succ]
            refine take (i := 13) (d := some 38) (v := undef) rfl (by kernel_rfl) (by kernel_rfl) (by kernel_rfl) (by kernel_rfl) (fun _ _ _ h => h) (Or.inr ⟨by rfl, rfl⟩) hHeld ?_
            simp only [Act.put, List.setIfInBounds_toArray, List.set_cons_zero, List.set_cons_succ]
            refine take (i := 14) (d := some 39) (v := undef) rfl (by kernel_rfl) (by kernel_rfl) (by kernel_rfl) (by kernel_rfl) (fun _ _ _ h => h) (Or.inr ⟨by rfl, rfl⟩) hHeld ?_
            simp only [Act.put, List.setIfInBounds_toArray, List.set_cons_zero, List.set_cons_succ]
            refine take (i := 16) (d := some 41) (v := undef) rfl (by kernel_rfl) (by kernel_rfl) (by kernel_rfl) (by kernel_rfl) (fun _ _ _ h => h) (Or.inr ⟨by rfl, rfl⟩) hHeld ?_
            simp only [Act.put, List.setIfInBounds_toArray, List.set_cons_zero, List.set_cons_succ]
            refine take (i := 17) (d := some 42) (v := undef) rfl (by kernel_rfl) (by kernel_rfl) (by kernel_rfl) (by kernel_rfl) (fun _ _ _ h => h) (Or.inr ⟨by rfl, rfl⟩) hHeld ?_
            simp only [Act.put, List.setIfInBounds_toArray, List.set_cons_zero, List.set_cons_succ]
            refine take (i := 18) (d := some 43) (v := undef) rfl (by kernel_rfl) (by kernel_rfl) (by kernel_rfl) (by kernel_rfl) (fun _ _ _ h => h) (Or.inr ⟨by rfl, rfl⟩) hHeld ?_
            simp only [Act.put, List.setIfInBounds_toArray, List.set_cons_zero, List.set_cons_succ]
            refine take (i := 19) (d := some 44) (v := undef) rfl (by kernel_rfl) (by kernel_rfl) (by kernel_rfl) (by kernel_rfl) (fun _ _ _ h => h) (Or.inr ⟨by rfl, rfl⟩) hHeld ?_
            simp only [Act.put, List.setIfInBounds_toArray, List.set_cons_zero, List.set_cons_succ]
            refine take (i := 20) (d := some 45) (v := undef) rfl (by kernel_rfl) (by kernel_rfl) (by kernel_rfl) (by kernel_rfl) (fun _ _ _ h => h) (Or.inr ⟨by rfl, rfl⟩) hHeld ?_
            simp only [Act.put, List.setIfInBounds_toArray, List.set_cons_zero, List.set_cons_succ]
            refine take (i := 21) (d := some 46) (v := undef) rfl (by kernel_rfl) (by kernel_rfl) (by kernel_rfl) (by kernel_rfl) (fun _ _ _ h => h) (Or.inr ⟨by rfl, rfl⟩) hHeld ?_
            simp only [Act.put, List.setIfInBounds_toArray, List.set_cons_zero, List.set_cons_succ]
            refine take (i := 15) (d := some 40) (v := undef) rfl (by kernel_rfl) (by kernel_rfl) (by kernel_rfl) (by kernel_rfl) (fun _ _ _ h => h) (Or.inr ⟨by rfl, rfl⟩) hHeld ?_
            simp only [Act.put, List.setIfInBounds_toArray, List.set_cons_zero, List.set_cons_succ]
            refine take (i := 22) (d := some 47) (v := undef) rfl (by kernel_rfl) (by kernel_rfl) (by kernel_rfl) (by kernel_rfl) (fun _ _ _ h => h) (Or.inr ⟨by rfl, rfl⟩) hHeld ?_
            simp only [Act.put, List.setIfInBounds_toArray, List.set_cons_zero, List.set_cons_succ]
            refine take (i := 23) (d := some 48) (v := undef) rfl (by kernel_rfl) (by kernel_rfl) (by kernel_rfl) (by kernel_rfl) (fun _ _ _ h => h) (Or.inr ⟨by rfl, rfl⟩) hHeld ?_
            simp only [Act.put, List.setIfInBounds_toArray, List.set_cons_zero, List.set_cons_succ]
            refine take (i := 24) (d := some 49) (v := .bool false) rfl (by kernel_rfl) (by kernel_rfl) (by kernel_rfl) (by kernel_rfl) (fun _ _ _ h => h) (Or.inl ⟨by rfl, by intro w hSw; go_simp⟩) hHeld ?_
            simp only [Act.put, List.setIfInBounds_toArray, List.set_cons_zero, List.set_cons_succ]
            refine wpAnyH_done (by kernel_rfl) ?_ _
            go_wp2
            go_roundw
            case rel => exact ⟨j + 1, by omega, by go_num, hbel.drew, Q0.out, Q1.out, HY.out (fun h => by have := U.out; omega)⟩
            case measure => simp [intOf]; omega
          · have U : Hid (x1 = x3) := t
            have f1 : (x2 == 1) = true := by rw [u]; rfl
            have f3 : (x1 != x3) = false := by rw [t]; simp
            clear u t y1 y2 y3
            refine wp_region_held_drew (S := (fun w' => w'.cell? ⟨w.heap.size, 0, none⟩ = some (.slice (some ⟨b1, o1, none⟩) 8 c1) ∧ w'.cell? ⟨w.heap.size, 1, none⟩ = some (.slice (some ⟨b2, o2, none⟩) 8 c2) ∧ w'.cell? ⟨w.heap.size + 1, 0, none⟩ = some (.slice (some ⟨b3, o3, none⟩) 8 c3) ∧ w'.cell? ⟨b1, o1 + k, none⟩ = some (.int .i64 m1) ∧ w'.cell? ⟨b2, o2 + k, none⟩ = some (.int .i64 m2) ∧ w'.cell? ⟨b3, o3 + k, none⟩ = some (.int .i64 m3))) (by kernel_rfl) ⟨p00, p01, p10, g1, g2, g3⟩ (fun hHeld => ?_)
            refine take (i := 0) (d := some 25) (v := .pointer (some ⟨w.heap.size, 1, none⟩)) rfl (by kernel_rfl) (by kernel_rfl) (by kernel_rfl) (by kernel_rfl) (fun _ _ _ h => h) (Or.inl ⟨by rfl, by intro w hSw; go_simp⟩) hHeld ?_
            simp only [Act.put, List.setIfInBounds_toArray, List.set_cons_zero, List.set_cons_succ]
            refine take (i := 1) (d := some 26) (v := .slice (some ⟨b2, o2, none⟩) 8 c2) rfl (by kernel_rfl) (by kernel_rfl) (by kernel_rfl) (by kernel_rfl) (fun _ _ _ h => h) (Or.inl ⟨by rfl, by intro w hSw; obtain ⟨p00, p01, p10, g1, g2, g3⟩ := hSw; go_simp⟩) hHeld ?_
            simp only [Act.put, List.setIfInBounds_toArray, List.set_cons_zero, List.set_cons_succ]
            refine take (i := 2) (d := some 27) (v := .int .i64 k) rfl (by kernel_rfl) (by kernel_rfl) (by kernel_rfl) (by kernel_rfl) (fun _ _ _ h => h) (Or.inl ⟨by rfl, by intro w hSw; go_simp⟩) hHeld ?_
            simp only [Act.put, List.setIfInBounds_toArray, List.set_cons_zero, List.set_cons_succ]
            refine take (i := 3) (d := some 28) (v := .pointer (some ⟨b2, o2 + k, none⟩)) rfl (by kernel_rfl) (by kernel_rfl) (by kernel_rfl) (by kernel_rfl) (fun _ _ _ h => h) (Or.inl ⟨by rfl, by intro w hSw; go_simp⟩) hHeld ?_
            simp only [Act.put, List.setIfInBounds_toArray, List.set_cons_zero, List.set_cons_succ]
            refine take (i := 4) (d := some 29) (v := .int .i64 m2) rfl (by kernel_rfl) (by kernel_rfl) (by kernel_rfl) (by kernel_rfl) (fun _ _ _ h => h) (Or.inl ⟨by rfl, by intro w hSw; obtain ⟨p00, p01, p10, g1, g2, g3⟩ := hSw; go_simp⟩) hHeld ?_
            simp only [Act.put, List.setIfInBounds_toArray, List.set_cons_zero, List.set_cons_succ]
            refine take (i := 5) (d := some 30) (v := .int .i64 j) rfl (by kernel_rfl) (by kernel_rfl) (by kernel_rfl) (by kernel_rfl) (fun _ _ _ h => h) (Or.inl ⟨by rfl, by intro w hSw; go_simp⟩) hHeld ?_
            simp only [Act.put, List.setIfInBounds_toArray, List.set_cons_zero, List.set_cons_succ]
            refine wpAnyH_ready (rs := [6]) (by kernel_rfl) (by simp) (Mi.readyCall2 rfl (by kernel_rfl) 67 (.tmp 29) (.tmp 30) 3 3 (by kernel_rfl) 31 (by kernel_rfl) _ _ (by kernel_rfl) (by kernel_rfl) (fun _ => rfl) (H2.out _) (fun wx hb => by rw [hb]; exact hHeld) (fun wx hb hHeld => ?_) AllReadyH.nil)
            subst hb
            simp only [Act.put, List.setIfInBounds_toArray, List.set_cons_zero, List.set_cons_succ]
            refine take (i := 7) (d := some 32) (v := .bool true) rfl (by kernel_rfl) (by kernel_rfl) (by kernel_rfl) (by kernel_rfl) (fun _ _ _ h => h) (Or.inl ⟨by rfl, by intro w hSw; go_simp⟩) hHeld ?_
            simp only [Act.put, List.setIfInBounds_toArray, List.set_cons_zero, List.set_cons_succ]
            refine take (i := 8) (d := some 33) (v := .bool true) rfl (by kernel_rfl) (by kernel_rfl) (by kernel_rfl) (by kernel_rfl) (fun _ _ _ h => h) (Or.inl ⟨by rfl, by intro w hSw; go_simp⟩) hHeld ?_
            simp only [Act.put, List.setIfInBounds_toArray, List.set_cons_zero, List.set_cons_succ]
            refine take (i := 9) (d := some 34) (v := .pointer (some ⟨w.heap.size, 0, none⟩)) rfl (by kernel_rfl) (by kernel_rfl) (by kernel_rfl) (by kernel_rfl) (fun _ _ _ h => h) (Or.inl ⟨by rfl, by intro w hSw; go_simp⟩) hHeld ?_
            simp only [Act.put, List.setIfInBounds_toArray, List.set_cons_zero, List.set_cons_succ]
            refine take (i := 10) (d := some 35) (v := .slice (some ⟨b1, o1, none⟩) 8 c1) rfl (by kernel_rfl) (by kernel_rfl) (by kernel_rfl) (by kernel_rfl) (fun _ _ _ h => h) (Or.inl ⟨by rfl, by intro w hSw; obtain ⟨p00, p01, p10, g1, g2, g3⟩ := hSw; go_simp⟩) hHeld ?_
            simp only [Act.put, List.setIfInBounds_toArray, List.set_cons_zero, List.set_cons_succ]
            refine take (i := 11) (d := some 36) (v := .int .i64 k) rfl (by kernel_rfl) (by kernel_rfl) (by kernel_rfl) (by kernel_rfl) (fun _ _ _ h => h) (Or.inl ⟨by rfl, by intro w hSw; go_simp⟩) hHeld ?_
            simp only [Act.put, List.setIfInBounds_toArray, List.set_cons_zero, List.set_cons_succ]
            refine take (i := 12) (d := some 37) (v := .pointer (some ⟨b1, o1 + k, none⟩)) rfl (by kernel_rfl) (by kernel_rfl) (by kernel_rfl) (by kernel_rfl) (fun _ _ _ h => h) (Or.inl ⟨by rfl, by intro w hSw; go_simp⟩) hHeld ?_
            simp only [Act.put, List.setIfInBounds_toArray, List.set_cons_zero, List.set_cons_succ]
            refine take (i := 13) (d := some 38) (v := .int .i64 m1) rfl (by kernel_rfl) (by kernel_rfl) (by kernel_rfl) (by kernel_rfl) (fun _ _ _ h => h) (Or.inl ⟨by rfl, by intro w hSw; obtain ⟨p00, p01, p10, g1, g2, g3⟩ := hSw; go_simp⟩) hHeld ?_
            simp only [Act.put, List.setIfInBounds_toArray, List.set_cons_zero, List.set_cons_succ]
            refine take (i := 14) (d := some 39) (v := .int .i64 j) rfl (by kernel_rfl) (by kernel_rfl) (by kernel_rfl) (by kernel_rfl) (fun _ _ _ h => h) (Or.inl ⟨by rfl, by intro w hSw; go_simp⟩) hHeld ?_
            simp only [Act.put, List.setIfInBounds_toArray, List.set_cons_zero, List.set_cons_succ]
            refine take (i := 16) (d := some 41) (v := .pointer (some ⟨w.heap.size + 1, 0, none⟩)) rfl (by kernel_rfl) (by kernel_rfl) (by kernel_rfl) (by kernel_rfl) (fun _ _ _ h => h) (Or.inl ⟨by rfl, by intro w hSw; go_simp⟩) hHeld ?_
            simp only [Act.put, List.setIfInBounds_toArray, List.set_cons_zero, List.set_cons_succ]
            refine take (i := 17) (d := some 42) (v := .slice (some ⟨b3, o3, none⟩) 8 c3) rfl (by kernel_rfl) (by kernel_rfl) (by kernel_rfl) (by kernel_rfl) (fun _ _ _ h => h) (Or.inl ⟨by rfl, by intro w hSw; obtain ⟨p00, p01, p10, g1, g2, g3⟩ := hSw; go_simp⟩) hHeld ?_
            simp only [Act.put, List.setIfInBounds_toArray, List.set_cons_zero, List.set_cons_succ]
            refine take (i := 18) (d := some 43) (v := .int .i64 k) rfl (by kernel_rfl) (by kernel_rfl) (by kernel_rfl) (by kernel_rfl) (fun _ _ _ h => h) (Or.inl ⟨by rfl, by intro w hSw; go_simp⟩) hHeld ?_
            simp only [Act.put, List.setIfInBounds_toArray, List.set_cons_zero, List.set_cons_succ]
            refine take (i := 19) (d := some 44) (v := .pointer (some ⟨b3, o3 + k, none⟩)) rfl (by kernel_rfl) (by kernel_rfl) (by kernel_rfl) (by kernel_rfl) (fun _ _ _ h => h) (Or.inl ⟨by rfl, by intro w hSw; go_simp⟩) hHeld ?_
            simp only [Act.put, List.setIfInBounds_toArray, List.set_cons_zero, List.set_cons_succ]
            refine take (i := 20) (d := some 45) (v := .int .i64 m3) rfl (by kernel_rfl) (by kernel_rfl) (by kernel_rfl) (by kernel_rfl) (fun _ _ _ h => h) (Or.inl ⟨by rfl, by intro w hSw; obtain ⟨p00, p01, p10, g1, g2, g3⟩ := hSw; go_simp⟩) hHeld ?_
            simp only [Act.put, List.setIfInBounds_toArray, List.set_cons_zero, List.set_cons_succ]
            refine take (i := 21) (d := some 46) (v := .int .i64 j) rfl (by kernel_rfl) (by kernel_rfl) (by kernel_rfl) (by kernel_rfl) (fun _ _ _ h => h) (Or.inl ⟨by rfl, by intro w hSw; go_simp⟩) hHeld ?_
            simp only [Act.put, List.setIfInBounds_toArray, List.set_cons_zero, List.set_cons_succ]
            refine wpAnyH_ready (rs := [15]) (by kernel_rfl) (by simp) (Mi.readyCall2 rfl (by kernel_rfl) 67 (.tmp 38) (.tmp 39) 3 3 (by kernel_rfl) 40 (by kernel_rfl) _ _ (by kernel_rfl) (by kernel_rfl) (fun _ => rfl) (H1.out _) (fun wx hb => by rw [hb]; exact hHeld) (fun wx hb hHeld => ?_) AllReadyH.nil)
            subst hb
            simp only [Act.put, List.setIfInBounds_toArray, List.set_cons_zero, List.set_cons_succ]
            refine wpAnyH_ready (rs := [22]) (by kernel_rfl) (by simp) (Mi.readyCall2 rfl (by kernel_rfl) 67 (.tmp 45) (.tmp 46) 3 3 (by kernel_rfl) 47 (by kernel_rfl) _ _ (by kernel_rfl) (by kernel_rfl) (fun _ => rfl) (H3.out _) (fun wx hb => by rw [hb]; exact hHeld) (fun wx hb hHeld => ?_) AllReadyH.nil)
            subst hb
            simp only [Act.put, List.setIfInBounds_toArray, List.set_cons_zero, List.set_cons_succ]
            refine take (i := 23) (d := some 48) (v := .bool false) rfl (by kernel_rfl) (by kernel_rfl) (by kernel_rfl) (by kernel_rfl) (fun _ _ _ h => h) (Or.inl ⟨by rfl, by intro w hSw; go_simp⟩) hHeld ?_
            simp only [Act.put, List.setIfInBounds_toArray, List.set_cons_zero, List.set_cons_succ]
            refine take (i := 24) (d := some 49) (v := .bool false) rfl (by kernel_rfl) (by kernel_rfl) (by kernel_rfl) (by kernel_rfl) (fun _ _ _ h => h) (Or.inl ⟨by rfl, by intro w hSw; go_simp⟩) hHeld ?_
            simp only [Act.put, List.setIfInBounds_toArray, List.set_cons_zero, List.set_cons_succ]
            refine wpAnyH_done (by kernel_rfl) ?_ _
            go_wp2
            go_roundw
            case rel => exact ⟨j + 1, by omega, by go_num, hbel.drew, Q0.out, Q1.out, HY.out (fun _ => U.out)⟩
            case measure => simp [intOf]; omega
          · have U : Hid (x2 = 1 ∧ ¬ x1 = x3) := ⟨u, t⟩
            have f1 : (x2 == 1) = true := by rw [u]; rfl
            have f3 : (x1 != x3) = true := by simpa using t
            clear u t y1 y2 y3
            refine wp_region_held_drew (S := (fun w' => w'.cell? ⟨w.heap.size, 0, none⟩ = some (.slice (some ⟨b1, o1, none⟩) 8 c1) ∧ w'.cell? ⟨w.heap.size, 1, none⟩ = some (.slice (some ⟨b2, o2, none⟩) 8 c2) ∧ w'.cell? ⟨w.heap.size + 1, 0, none⟩ = some (.slice (some ⟨b3, o3, none⟩) 8 c3) ∧ w'.cell? ⟨b1, o1 + k, none⟩ = some (.int .i64 m1) ∧ w'.cell? ⟨b2, o2 + k, none⟩ = some (.int .i64 m2) ∧ w'.cell? ⟨b3, o3 + k, none⟩ = some (.int .i64 m3))) (by kernel_rfl) ⟨p00, p01, p10, g1, g2, g3⟩ (fun hHeld => ?_)
            refine take (i := 0) (d := some 25) (v := .pointer (some ⟨w.heap.size, 1, none⟩)) rfl (by kernel_rfl) (by kernel_rfl) (by kernel_rfl) (by kernel_rfl) (fun _ _ _ h => h) (Or.inl ⟨by rfl, by intro w hSw; go_simp⟩) hHeld ?_
            simp only [Act.put, List.setIfInBounds_toArray, List.set_cons_zero, List.set_cons_succ]
            refine take (i := 1) (d := some 26) (v := .slice (some ⟨b2, o2, none⟩) 8 c2) rfl (by kernel_rfl) (by kernel_rfl) (by kernel_rfl) (by kernel_rfl) (fun _ _ _ h => h) (Or.inl ⟨by rfl, by intro w hSw; obtain ⟨p00, p01, p10, g1, g2, g3⟩ := hSw; go_simp⟩) hHeld ?_
            simp only [Act.put, List.setIfInBounds_toArray, List.set_cons_zero, List.set_cons_succ]
            refine take (i := 2) (d := some 27) (v := .int .i64 k) rfl (by kernel_rfl) (by kernel_rfl) (by kernel_rfl) (by kernel_rfl) (fun _ _ _ h => h) (Or.inl ⟨by rfl, by intro w hSw; go_simp⟩) hHeld ?_
            simp only [Act.put, List.setIfInBounds_toArray, List.set_cons_zero, List.set_cons_succ]
            refine take (i := 3) (d := some 28) (v := .pointer (some ⟨b2, o2 + k, none⟩)) rfl (by kernel_rfl) (by kernel_rfl) (by kernel_rfl) (by kernel_rfl) (fun _ _ _ h => h) (Or.inl ⟨by rfl, by intro w hSw; go_simp⟩) hHeld ?_
            simp only [Act.put, List.setIfInBounds_toArray, List.set_cons_zero, List.set_cons_succ]
            refine take (i := 4) (d := some 29) (v := .int .i64 m2) rfl (by kernel_rfl) (by kernel_rfl) (by kernel_rfl) (by kernel_rfl) (fun _ _ _ h => h) (Or.inl ⟨by rfl, by intro w hSw; obtain ⟨p00, p01, p10, g1, g2, g3⟩ := hSw; go_simp⟩) hHeld ?_
            simp only [Act.put, List.setIfInBounds_toArray, List.set_cons_zero, List.set_cons_succ]
            refine take (i := 5) (d := some 30) (v := .int .i64 j) rfl (by kernel_rfl) (by kernel_rfl) (by kernel_rfl) (by kernel_rfl) (fun _ _ _ h => h) (Or.inl ⟨by rfl, by intro w hSw; go_simp⟩) hHeld ?_
            simp only [Act.put, List.setIfInBounds_toArray, List.set_cons_zero, List.set_cons_succ]
            refine wpAnyH_ready (rs := [6]) (by kernel_rfl) (by simp) (Mi.readyCall2 rfl (by kernel_rfl) 67 (.tmp 29) (.tmp 30) 3 3 (by kernel_rfl) 31 (by kernel_rfl) _ _ (by kernel_rfl) (by kernel_rfl) (fun _ => rfl) (H2.out _) (fun wx hb => by rw [hb]; exact hHeld) (fun wx hb hHeld => ?_) AllReadyH.nil)
            subst hb
            simp only [Act.put, List.setIfInBounds_toArray, List.set_cons_zero, List.set_cons_succ]
            refine take (i := 7) (d := some 32) (v := .bool true) rfl (by kernel_rfl) (by kernel_rfl) (by kernel_rfl) (by kernel_rfl) (fun _ _ _ h => h) (Or.inl ⟨by rfl, by intro w hSw; go_simp⟩) hHeld ?_
            simp only [Act.put, List.setIfInBounds_toArray, List.set_cons_zero, List.set_cons_succ]
            refine take (i := 8) (d := some 33) (v := .bool true) rfl (by kernel_rfl) (by kernel_rfl) (by kernel_rfl) (by kernel_rfl) (fun _ _ _ h => h) (Or.inl ⟨by rfl, by intro w hSw; go_simp⟩) hHeld ?_
            simp only [Act.put, List.setIfInBounds_toArray, List.set_cons_zero, List.set_cons_succ]
            refine take (i := 9) (d := some 34) (v := .pointer (some ⟨w.heap.size, 0, none⟩)) rfl (by kernel_rfl) (by kernel_rfl) (by kernel_rfl) (by kernel_rfl) (fun _ _ _ h => h) (Or.inl ⟨by rfl, by intro w hSw; go_simp⟩) hHeld ?_
            simp only [Act.put, List.setIfInBounds_toArray, List.set_cons_zero, List.set_cons_succ]
            refine take (i := 10) (d := some 35) (v := .slice (some ⟨b1, o1, none⟩) 8 c1) rfl (by kernel_rfl) (by kernel_rfl) (by kernel_rfl) (by kernel_rfl) (fun _ _ _ h => h) (Or.inl ⟨by rfl, by intro w hSw; obtain ⟨p00, p01, p10, g1, g2, g3⟩ := hSw; go_simp⟩) hHeld ?_
            simp only [Act.put, List.setIfInBounds_toArray, List.set_cons_zero, List.set_cons_succ]
            refine take (i := 11) (d := some 36) (v := .int .i64 k) rfl (by kernel_rfl) (by kernel_rfl) (by kernel_rfl) (by kernel_rfl) (fun _ _ _ h => h) (Or.inl ⟨by rfl, by intro w hSw; go_simp⟩) hHeld ?_
            simp only [Act.put, List.setIfInBounds_toArray, List.set_cons_zero, List.set_cons_succ]
            refine take (i := 12) (d := some 37) (v := .pointer (some ⟨b1, o1 + k, none⟩)) rfl (by kernel_rfl) (by kernel_rfl) (by kernel_rfl) (by kernel_rfl) (fun _ _ _ h => h) (Or.inl ⟨by rfl, by intro w hSw; go_simp⟩) hHeld ?_
            simp only [Act.put, List.setIfInBounds_toArray, List.set_cons_zero, List.set_cons_succ]
            refine take (i := 13) (d := some 38) (v := .int .i64 m1) rfl (by kernel_rfl) (by kernel_rfl) (by kernel_rfl) (by kernel_rfl) (fun _ _ _ h => h) (Or.inl ⟨by rfl, by intro w hSw; obtain ⟨p00, p01, p10, g1, g2, g3⟩ := hSw; go_simp⟩) hHeld ?_
            simp only [Act.put, List.setIfInBounds_toArray, List.set_cons_zero, List.set_cons_succ]
            refine take (i := 14) (d := some 39) (v := .int .i64 j) rfl (by kernel_rfl) (by kernel_rfl) (by kernel_rfl) (by kernel_rfl) (fun _ _ _ h => h) (Or.inl ⟨by rfl, by intro w hSw; go_simp⟩) hHeld ?_
            simp only [Act.put, List.setIfInBounds_toArray, List.set_cons_zero, List.set_cons_succ]
            refine take (i := 16) (d := some 41) (v := .pointer (some ⟨w.heap.size + 1, 0, none⟩)) rfl (by kernel_rfl) (by kernel_rfl) (by kernel_rfl) (by kernel_rfl) (fun _ _ _ h => h) (Or.inl ⟨by rfl, by intro w hSw; go_simp⟩) hHeld ?_
            simp only [Act.put, List.setIfInBounds_toArray, List.set_cons_zero, List.set_cons_succ]
            refine take (i := 17) (d := some 42) (v := .slice (some ⟨b3, o3, none⟩) 8 c3) rfl (by kernel_rfl) (by kernel_rfl) (by kernel_rfl) (by kernel_rfl) (fun _ _ _ h => h) (Or.inl ⟨by rfl, by intro w hSw; obtain ⟨p00, p01, p10, g1, g2, g3⟩ := hSw; go_simp⟩) hHeld ?_
            simp only [Act.put, List.setIfInBounds_toArray, List.set_cons_zero, List.set_cons_succ]
            refine take (i := 18) (d := some 43) (v := .int .i64 k) rfl (by kernel_rfl) (by kernel_rfl) (by kernel_rfl) (by kernel_rfl) (fun _ _ _ h => h) (Or.inl ⟨by rfl, by intro w hSw; go_simp⟩) hHeld ?_
            simp only [Act.put, List.setIfInBounds_toArray, List.set_cons_zero, List.set_cons_succ]
            refine take (i := 19) (d := some 44) (v := .pointer (some ⟨b3, o3 + k, none⟩)) rfl (by kernel_rfl) (by kernel_rfl) (by kernel_rfl) (by kernel_rfl) (fun _ _ _ h => h) (Or.inl ⟨by rfl, by intro w hSw; go_simp⟩) hHeld ?_
            simp only [Act.put, List.setIfInBounds_toArray, List.set_cons_zero, List.set_cons_succ]
            refine take (i := 20) (d := some 45) (v := .int .i64 m3) rfl (by kernel_rfl) (by kernel_rfl) (by kernel_rfl) (by kernel_rfl) (fun _ _ _ h => h) (Or.inl ⟨by rfl, by intro w hSw; obtain ⟨p00, p01, p10, g1, g2, g3⟩ := hSw; go_simp⟩) hHeld ?_
            simp only [Act.put, List.setIfInBounds_toArray, List.set_cons_zero, List.set_cons_succ]
            refine take (i := 21) (d := some 46) (v := .int .i64 j) rfl (by kernel_rfl) (by kernel_rfl) (by kernel_rfl) (by kernel_rfl) (fun _ _ _ h => h) (Or.inl ⟨by rfl, by intro w hSw; go_simp⟩) hHeld ?_
            simp only [Act.put, List.setIfInBounds_toArray, List.set_cons_zero, List.set_cons_succ]
            refine wpAnyH_ready (rs := [15]) (by kernel_rfl) (by simp) (Mi.readyCall2 rfl (by kernel_rfl) 67 (.tmp 38) (.tmp 39) 3 3 (by kernel_rfl) 40 (by kernel_rfl) _ _ (by kernel_rfl) (by kernel_rfl) (fun _ => rfl) (H1.out _) (fun wx hb => by rw [hb]; exact hHeld) (fun wx hb hHeld => ?_) AllReadyH.nil)
            subst hb
            simp only [Act.put, List.setIfInBounds_toArray, List.set_cons_zero, List.set_cons_succ]
            refine wpAnyH_ready (rs := [22]) (by kernel_rfl) (by simp) (Mi.readyCall2 rfl (by kernel_rfl) 67 (.tmp 45) (.tmp 46) 3 3 (by kernel_rfl) 47 (by kernel_rfl) _ _ (by kernel_rfl) (by kernel_rfl) (fun _ => rfl) (H3.out _) (fun wx hb => by rw [hb]; exact hHeld) (fun wx hb hHeld => ?_) AllReadyH.nil)
            subst hb
            simp only [Act.put, List.setIfInBounds_toArray, List.set_cons_zero, List.set_cons_succ]
            refine take (i := 23) (d := some 48) (v := .bool true) rfl (by kernel_rfl) (by kernel_rfl) (by kernel_rfl) (by kernel_rfl) (fun _ _ _ h => h) (Or.inl ⟨by rfl, by intro w hSw; go_simp⟩) hHeld ?_
            simp only [Act.put, List.setIfInBounds_toArray, List.set_cons_zero, List.set_cons_succ]
            refine take (i := 24) (d := some 49) (v := .bool true) rfl (by kernel_rfl) (by kernel_rfl) (by kernel_rfl) (by kernel_rfl) (fun _ _ _ h => h) (Or.inl ⟨by rfl, by intro w hSw; go_simp⟩) hHeld ?_
            simp only [Act.put, List.setIfInBounds_toArray, List.set_cons_zero, List.set_cons_succ]
            refine wpAnyH_done (by kernel_rfl) ?_ _
            go_wp2
            go_ret
            exact ⟨Num.ret_bool (HN.out (fun h => U.out.2 (h U.out.1))).symm, hbel.drew⟩
        · have he : j = Bw.fbN k := by omega
          have hjz : ¬ ((j : Int) < (Bw.fbN k : Int)) := by omega
          have HY : Hid (∀ f, f < k + 1 → ∀ i, i < Bw.fbN f → (Bw.bitI (M.getD f 0) i = 1 → Bw.bitI (V.getD f 0) i = Bw.bitI (H.getD f 0) i)) := (fun f hf => by by_cases e : f = k; (· subst e; intro i hi; exact HI.out i (by omega)); (· exact HG.out f (by omega)) : ∀ f, f < k + 1 → ∀ i, i < Bw.fbN f → (Bw.bitI (M.getD f 0) i = 1 → Bw.bitI (V.getD f 0) i = Bw.bitI (H.getD f 0) i))
          clear HI HG he D1 R1 D2 R2 D3 R3
          go_wp2_with (go_at_call 66; refine (HF.out _).mono ?_; rintro e ws ⟨rfl, hb⟩; replace q0 := (hb.block _ (Array.getElem?_eq_some_iff.1 q0).1).trans q0; replace q1 := (hb.block _ (Array.getElem?_eq_some_iff.1 q1).1).trans q1; replace hbel := Rw.next hbel hb; clear hb)
          go_roundw
          case rel => exact ⟨k + 1, by omega, by go_num, hbel, q0, q1, HY.out⟩
          case measure => simp [intOf]; omega
    · have he : k = 8 := by omega
      subst he
      clear D1 R1 D2 R2 D3 R3
      go_wp2
      go_ret
      exact ⟨Num.ret_bool (HR.out.2 HG.out).symm, hbo⟩

end Go.Proofs.Ytcbgnfjnjfaacaa.Mh
namespace Go.Proofs.Ytcbgnfjnjfaacaa.Ld
set_option maxRecDepth 8000
set_option linter.unusedVariables false
open Go Go.RowKit
open Num Pl Hr Hh Hf Hg Pa Pm Po Pe Rg Lb Lc Bw Mo Mp Mq
theorem hitsS_any (V M H : List Int) (wV : Wide V) (wH : Wide H) : CMH 102 V M H (Bo (hitB V M H)) := by
  intro a a' b o c b' o' c' p q r s w h1 h2 h3
  unfold hitB
  rw [ofB]
  cases h : matchB V M with
  | false => exact hit_wrong1 _ _ _ _ _ _ _ _ _ w (okT c c' h1 h2 wV h)
  | true =>
    cases hh : headB H with
    | false => exact hit_wrong2 _ _ _ _ _ _ _ _ _ w (okT c c' h1 h2 wV h) (headT s h3 hh)
    | true =>
      have ho := ofB H
      rw [hh] at ho
      obtain ⟨l1, l2⟩ := lens h
      have l3 := Mq.head_len hh
      obtain ⟨d1, d2⟩ := bounds h
      have d3 : ∀ k, k < 8 → 0 ≤ H.getD k 0 ∧ H.getD k 0 < 281474976710656 := fun k hk => fits_lt (head_at hh hk)
      have t0 := okT c c' h1 h2 wV h
      have t1 := headT s h3 hh
      obtain rfl := rd_some h1 l1
      obtain rfl := rd_some h2 l2
      obtain rfl := rd_some h3 l3
      have g1 := h1.cell; have g2 := h2.cell; have g3 := h3.cell
      rw [l1] at t0 g1; rw [l2] at t0 g2; rw [l3] at t1 g3
      rw [l1, l2, l3, pv_yes h, pm_yes h, pv_yes ho, pm_yes ho]
      have e1 : ofV H = lst (nth H) := by unfold ofV; rw [hh]; rfl
      have e2 : ofM H = lst fullI := by unfold ofM; rw [hh]; rfl
      rw [e1, e2]
      exact Mh.hitsS b o c b' o' c' q r s V M H w g1 g2 g3 d1 d2 d3 t0 t1 _ (hits_iff h hh)
theorem hitsR (V M H : List Int) (wV : Wide V) (_wM : Wide M) (wH : Wide H) : ∃ R, CMH 17 V M H (Bo R) ∧ CMH 102 V M H (Bo R) :=
  ⟨_, hits_any V M H wV wH, hitsS_any V M H wV wH⟩

end Go.Proofs.Ytcbgnfjnjfaacaa.Ld
namespace Go.Proofs.Ytcbgnfjnjfaacaa.Lq
set_option maxRecDepth 8000
set_option linter.unusedSimpArgs false
set_option linter.unusedVariables false
open Go Go.RowKit
open Num Pl Ea Ra Pq Ka

/-- Is the entry of that epoch, and does it hit the head? -/
def lkE (ep : Int) (H : List Int) (x : En) : Bool := decide (x.1 = ep) && Ld.hitB x.2.2.1 x.2.2.2.1 H
theorem fst_one {p : Nat → Bool} {n : Nat} {r r' : Int} (h : Fst p n r) (h' : Fst p n r') : r = r' := by
  rcases h with ⟨rfl, h⟩ | ⟨k, rfl, hk, h, hp⟩
  · rcases h' with ⟨rfl, h'⟩ | ⟨k', rfl, hk', h', _⟩
    · rfl
    · rw [h k' hk'] at h'; cases h'
  · rcases h' with ⟨rfl, h'⟩ | ⟨k', rfl, hk', h', hp'⟩
    · rw [h' k hk] at h; cases h
    · rcases Nat.lt_trichotomy k k' with e | e | e
      · rw [hp' k e] at h; cases h
      · rw [e]
      · rw [hp k' e] at h'; cases h'
theorem fst_some (p : Nat → Bool) (n : Nat) : ∃ r, Fst p n r := by
  induction n with
  | zero => exact ⟨-1, .inl ⟨rfl, fun k hk => by omega⟩⟩
  | succ n ih =>
    obtain ⟨r, h⟩ := ih
    rcases h with ⟨rfl, h⟩ | ⟨k, rfl, hk, h, hp⟩
    · cases e : p n
      · exact ⟨-1, .inl ⟨rfl, fun k hk => by
          by_cases e1 : k = n
          · subst e1; exact e
          · exact h k (by omega)⟩⟩
      · exact ⟨n, .inr ⟨n, rfl, by omega, e, fun j hj => h j hj⟩⟩
    · exact ⟨k, .inr ⟨k, rfl, by omega, h, hp⟩⟩
/-- What a look-up answers. -/
def Look (q : Int) (L : List En) (ep : Int) (H : List Int) (r : Int) : Prop := (TabP q L ∧ Fst (fun k => lkE ep H (L.getD k x0)) L.length r) ∨ (¬ TabP q L ∧ r = -1)
theorem look_some (q : Int) (L : List En) (ep : Int) (H : List Int) : ∃ r, Look q L ep H r := by
  rcases Classical.em (TabP q L) with h | h
  · obtain ⟨r, hr⟩ := fst_some (fun k => lkE ep H (L.getD k x0)) L.length
    exact ⟨r, .inl ⟨h, hr⟩⟩
  · exact ⟨-1, .inr ⟨h, rfl⟩⟩
theorem hit_wrong {V M H : List Int} (h : Hg.headB H = false) : Ld.hitB V M H = false := by
  unfold Ld.hitB
  rw [Ld.ofB, h]
  simp

set_option maxHeartbeats 2000000 in
theorem tell99 (g0 g1 : Nat) (e : Ent) (ep : Int) (aH : Option Addr) (bH oH cH : Nat) (H : List Int) (w : World) (h : e.Ok w) (h0 : w.cell? ⟨g0, 0, none⟩ = some (.int .i64 ep)) (h1 : w.cell? ⟨g1, 0, none⟩ = some (.slice aH H.length cH)) (hH : Hr.Rd w aH bH oH H) (wH : Po.Wide H) :
    Calls Try.prog 99 #[.agg #[.int .i64 e.ep, .int .i64 e.pr, .slice e.aV e.V.length e.cV, .slice e.aM e.M.length e.cM, .slice e.aA e.A.length e.cA, .int .i64 e.h], .pointer (some ⟨g0, 0, none⟩), .pointer (some ⟨g1, 0, none⟩)] w fun x w' => x = .returned (.bool (lkE ep H e.said)) ∧ Below w.heap.size w w' := by
  obtain ⟨W1, hW1⟩ : ∃ W1, W1 = w.alloc (.cells #[.int .i64 e.ep, .int .i64 e.pr, .slice e.aV e.V.length e.cV, .slice e.aM e.M.length e.cM, .slice e.aA e.A.length e.cA, .int .i64 e.h] 41) := ⟨_, rfl⟩
  have B1 : Below w.heap.size w W1 := by subst hW1; exact below_alloc1 _ _
  have ok := h.below B1
  have hc := Ld.hits_any e.V e.M H ok.wV wH e.aV e.aM _ _ e.cV _ _ e.cM aH _ _ cH W1 ok.rV ok.rM (hH.below B1)
  have q0 := (B1.cell (World.block_lt_of_cell? _ _ h0)).trans h0
  have q1 := (B1.cell (World.block_lt_of_cell? _ _ h1)).trans h1
  by_cases he : e.ep = ep
  · have he' : (e.ep == ep) = true := by simp [he]
    have hd : lkE ep H e.said = Ld.hitB e.V e.M H := by
      show (decide (e.ep = ep) && Ld.hitB e.V e.M H) = _
      rw [decide_eq_true he]; rfl
    rw [hd]
    clear he hd
    rw [hW1] at q0 q1
    go_enter Try.func99, Try.ntmps99
    go_wp2_with (go_at_call 17; rw [← hW1]; clear hW1; refine hc.mono ?_; rintro x wa ⟨rfl, hb⟩)
    go_ret
    exact ⟨ret_bool (by simp), Rw.next B1 hb⟩
  · have he' : (e.ep == ep) = false := by simpa using he
    have hd : lkE ep H e.said = false := by
      show (decide (e.ep = ep) && Ld.hitB e.V e.M H) = _
      rw [decide_eq_false he]; rfl
    rw [hd]
    clear hd
    rw [hW1] at q0 q1
    go_enter Try.func99, Try.ntmps99
    go_wp2
    go_ret
    exact ⟨ret_bool (by simp), by rw [← hW1]; exact B1⟩

set_option maxHeartbeats 4000000 in
theorem lookI (q ep : Int) (a : Option Addr) (b off cap : Nat) (Q : List Ent) (aH : Option Addr) (bH oH cH : Nat) (H : List Int) (w : World) (h : Rd w a b off Q) (hH : Hr.Rd w aH bH oH H) (wH : Po.Wide H) (r : Int) (hr : Look q (Q.map Ent.said) ep H r) :
    Calls Try.prog 28 #[.agg #[.int .i64 q, .slice a Q.length cap], .int .i64 ep, .agg #[.slice aH H.length cH]] w fun e w' => e = .returned (.int .i64 r) ∧ Below w.heap.size w w' := by
  obtain ⟨W1, hW1⟩ : ∃ W1, W1 = ((w.alloc (.cells #[.int .i64 q, .slice a Q.length cap] 38)).alloc (.cells #[.int .i64 ep] 3)).alloc (.cells #[.slice aH H.length cH] 27) := ⟨_, rfl⟩
  have B1 : Below w.heap.size w W1 := by subst hW1; exact Rw.next (Rw.next (below_alloc1 _ _) (below_alloc1 _ _)) (below_alloc1 _ _)
  have k0 : W1.heap[w.heap.size]? = some (.cells #[.int .i64 q, .slice a Q.length cap] 38 (0, 0)) := by subst hW1; rw [at_old (by simp <;> omega), at_old (by simp), at_new rfl]
  have k1 : W1.heap[w.heap.size + 1]? = some (.cells #[.int .i64 ep] 3 (0, 0)) := by subst hW1; rw [at_old (by simp), at_new (by simp)]
  have k2 : W1.heap[w.heap.size + 1 + 1]? = some (.cells #[.slice aH H.length cH] 27 (0, 0)) := by subst hW1; exact at_new (by simp)
  replace h := h.below B1
  replace hH := hH.below B1
  obtain ⟨R, hR⟩ := em_bool (TabP q (Q.map Ent.said))
  have ht := fun W hW => tabI q a b off cap Q W hW R hR
  cases R
  · obtain rfl : r = -1 := by
      rcases hr with ⟨h1, _⟩ | ⟨_, h1⟩
      · exact absurd (hR.2 h1) (by decide)
      · exact h1
    go_enter Try.func28, Try.ntmps28
    go_wp2_with (go_at_call 26; rw [← hW1]; clear hW1; refine (ht _ h).mono ?_; rintro x wa ⟨rfl, hb⟩)
    go_ret
    exact ⟨rfl, Rw.next B1 hb⟩
  · have hf : Fst (fun k => lkE ep H (Q.getD k e0).said) Q.length r := by
      rcases hr with ⟨_, h1⟩ | ⟨h1, _⟩
      · simpa only [said_getD, List.length_map] using h1
      · exact absurd (hR.1 rfl) h1
    have HF : Hid (Fst (fun k => lkE ep H (Q.getD k e0).said) Q.length r) := hf
    clear hf hr hR
    go_enter Try.func28, Try.ntmps28
    go_wp2_with (first
      | (go_at_call 26; rw [← hW1]; clear hW1; refine (ht _ h).mono ?_; rintro x wa ⟨rfl, hb⟩; replace k0 := (hb.block _ (blk_lt k0)).trans k0; replace k1 := (hb.block _ (blk_lt k1)).trans k1; replace k2 := (hb.block _ (blk_lt k2)).trans k2; replace h := h.below hb; replace hH := hH.below hb; replace B1 := Rw.next B1 hb; clear hb ht; obtain ⟨p0, p1⟩ := Pm.two k0; have p2 := Hh.one k1; have p3 := Hh.one k2)
      | (go_at_call 98; refine (index99 _ _ _ _ _ _ Q _ _ h (fun k hk W hW => tell99 _ _ _ ep aH bH oH cH H W ((h.ok k hk).of hW (Nat.le_refl _)) ((hW.cell (World.block_lt_of_cell? _ _ p2)).trans p2) ((hW.cell (World.block_lt_of_cell? _ _ p3)).trans p3) (hH.below hW) wH)).mono ?_; rintro x wb ⟨hb, r', rfl, hf'⟩; replace B1 := Rw.next B1 hb))
    go_ret
    exact ⟨by rw [fst_one hf' HF.out]; rfl, B1⟩

set_option maxHeartbeats 8000000 in
theorem lookS (q ep : Int) (a : Option Addr) (b off cap : Nat) (Q : List Ent) (aH : Option Addr) (bH oH cH : Nat) (H : List Int) (w : World) (h : Rd w a b off Q) (hH : Hr.Rd w aH bH oH H) (wH : Po.Wide H) (r : Int) (hr : Look q (Q.map Ent.said) ep H r) :
    Calls Try.prog 30 #[.agg #[.int .i64 q, .slice a Q.length cap], .int .i64 ep, .agg #[.slice aH H.length cH]] w fun e w' => e = .returned (.int .i64 r) ∧ Below w.heap.size w w' := by
  obtain ⟨W1, hW1⟩ : ∃ W1, W1 = (w.alloc (.cells #[.int .i64 q, .slice a Q.length cap] 38)).alloc (.cells #[.slice aH H.length cH] 27) := ⟨_, rfl⟩
  have B1 : Below w.heap.size w W1 := by subst hW1; exact Rw.next (below_alloc1 _ _) (below_alloc1 _ _)
  have k0 : W1.heap[w.heap.size]? = some (.cells #[.int .i64 q, .slice a Q.length cap] 38 (0, 0)) := by subst hW1; rw [at_old (by simp), at_new rfl]
  have k2 : W1.heap[w.heap.size + 1]? = some (.cells #[.slice aH H.length cH] 27 (0, 0)) := by subst hW1; exact at_new (by simp)
  replace h := h.below B1
  replace hH := hH.below B1
  obtain ⟨R, hR⟩ := em_bool (TabP q (Q.map Ent.said))
  have ht := fun W hW => tabS q a b off cap Q W hW R hR
  cases R
  · obtain rfl : r = -1 := by
      rcases hr with ⟨h1, _⟩ | ⟨_, h1⟩
      · exact absurd (hR.2 h1) (by decide)
      · exact h1
    go_enter Try.func30, Try.ntmps30
    go_wp2_with (go_at_call 39; rw [← hW1]; clear hW1; refine (ht _ h).mono ?_; rintro x wa ⟨rfl, hb⟩)
    go_ret
    exact ⟨rfl, Rw.next B1 hb⟩
  have hf : Fst (fun k => lkE ep H (Q.getD k e0).said) Q.length r := by
    rcases hr with ⟨_, h1⟩ | ⟨h1, _⟩
    · simpa only [said_getD, List.length_map] using h1
    · exact absurd (hR.1 rfl) h1
  have HF : Hid (Fst (fun k => lkE ep H (Q.getD k e0).said) Q.length r) := hf
  clear hf hr hR
  have hhd := fun W hW => Hg.specOk_any aH bH oH cH H W hW
  cases hhB : Hg.headB H
  · obtain rfl : r = -1 := by
      rcases HF.out with ⟨h1, _⟩ | ⟨k, _, _, h1, _⟩
      · exact h1
      · simp [lkE, hit_wrong hhB] at h1
    rw [hhB] at hhd
    go_enter Try.func30, Try.ntmps30
    go_wp2_with (first
      | (go_at_call 39; rw [← hW1]; clear hW1; refine (ht _ h).mono ?_; rintro x wa ⟨rfl, hb⟩; replace k2 := (hb.block _ (blk_lt k2)).trans k2; have p3 := Hh.one k2; replace hH := hH.below hb; replace B1 := Rw.next B1 hb; clear hb)
      | (go_at_call 97; refine (hhd _ hH).mono ?_; rintro x wb ⟨rfl, hb⟩; replace B1 := Rw.next B1 hb))
    go_ret
    exact ⟨rfl, B1⟩
  rw [hhB] at hhd
  obtain ⟨n, hn⟩ : ∃ n, n = Q.length := ⟨_, rfl⟩
  rw [← hn] at hW1 k0 ht ⊢
  have HN : Hid (n = Q.length) := hn
  clear hn hhB
  go_enter Try.func30, Try.ntmps30
  go_wp2_with (first
    | (go_at_call 39; rw [← hW1]; clear hW1; refine (ht _ h).mono ?_; rintro x wa ⟨rfl, hb⟩; replace k0 := (hb.block _ (blk_lt k0)).trans k0; replace k2 := (hb.block _ (blk_lt k2)).trans k2; have p3 := Hh.one k2; replace hH := hH.below hb; replace h := h.below hb; replace B1 := Rw.next B1 hb; clear hb ht)
    | (go_at_call 97; refine (hhd _ hH).mono ?_; rintro x wb ⟨rfl, hb⟩; clear p3; replace k0 := (hb.block _ (blk_lt k0)).trans k0; replace k2 := (hb.block _ (blk_lt k2)).trans k2; have p3 := Hh.one k2; obtain ⟨p0, p1⟩ := Pm.two k0; replace hH := hH.below hb; replace h := h.below hb; replace B1 := Rw.next B1 hb; clear hb hhd))
  clear p0 p1 p3
  obtain ⟨hh, hc, ho, hs⟩ := h
  rw [← HN.out] at hh hc ho hs
  have HH : Hid (∀ W, Below wb.heap.size wb W → Hr.Rd W aH bH oH H) := fun W hW => hH.below hW
  clear hH
  go_loopw [19] (fun u wr => ∃ i : Nat, i ≤ n ∧ u = .int .i64 i ∧ Below w.heap.size w wr ∧ Below wb.heap.size wb wr ∧ wr.heap[w.heap.size]? = some (.cells #[.int .i64 q, .slice a n cap] 38 (0, 0)) ∧ wr.heap[w.heap.size + 1]? = some (.cells #[.slice aH H.length cH] 27 (0, 0)) ∧ ∀ j, j < i → lkE ep H (Q.getD j e0).said = false) (fun u _ => n - (intOf u).toNat)
  case atStart => exact ⟨0, Nat.zero_le _, rfl, B1, Below.refl _ _, k0, k2, fun j hj => by omega⟩
  case round =>
    clear k0 k2 B1
    obtain ⟨i, hi, rfl, hbel, hbb, kT, kH, hpre⟩ := hrel
    have HP : Hid (∀ j, j < i → lkE ep H (Q.getD j e0).said = false) := hpre
    clear hpre
    obtain ⟨p0, p1⟩ := Pm.two kT
    have h0 := Hh.one kH
    have bt := blk_lt kT
    have bh := blk_lt kH
    by_cases hlt : i < n
    · obtain rfl := hh (by omega)
      have hnz : (i : Int) < (n : Int) := by omega
      obtain ⟨c0, c1, c2, c3, c4, c5⟩ := ((hc i hlt).of hbb (At6.lt (hc i hlt))).six
      have ok := (ho i hlt).of hbb (Nat.le_refl _)
      have bl : b < wr.heap.size := World.block_lt_of_cell? _ _ c0
      have rH := HH.out wr hbb
      obtain ⟨x, hx⟩ : ∃ x, x = Q.getD i e0 := ⟨_, rfl⟩
      rw [← hx] at c0 c1 c2 c3 c4 c5 ok
      have HX : Hid (Q.getD i e0 = x) := hx.symm
      clear hx hc ho hh
      have stop : lkE ep H x.said = true → (i : Int) = r := fun e1 => by
        refine fst_one (.inr ⟨i, rfl, hlt, by rw [HX.out]; exact e1, HP.out⟩) ?_
        rw [HN.out]; exact HF.out
      have go_on : lkE ep H x.said = false → ∀ j, j < i + 1 → lkE ep H (Q.getD j e0).said = false := fun e1 j hj => by
        by_cases e2 : j = i
        · rw [e2, HX.out]; exact e1
        · exact HP.out j (by omega)
      have HSt : Hid (lkE ep H x.said = true → (i : Int) = r) := stop
      have HGo : Hid (lkE ep H x.said = false → ∀ j, j < i + 1 → lkE ep H (Q.getD j e0).said = false) := go_on
      clear stop go_on
      have ok1 := ok.below ((Below.refl wr.heap.size wr).drew)
      have hcall := Ld.hitsS_any x.V x.M H ok1.wV wH x.aV x.aM _ _ x.cV _ _ x.cM aH _ _ cH wr.drew ok1.rV ok1.rM (rH.below ((Below.refl wr.heap.size wr).drew))
      by_cases he : x.ep = ep
      · have he' : (x.ep == ep) = true := by simp [he]
        have HEp : Hid (x.ep = ep) := he
        clear he
        cases hhit : Ld.hitB x.V x.M H
        · rw [hhit] at hcall
          have HHt : Hid (Ld.hitB x.V x.M H = false) := hhit
          clear hhit
          go_wp2
          refine wp_region_held_drew (S := (fun w' => w'.cell? ⟨w.heap.size, 0, none⟩ = some (.int .i64 q) ∧ w'.cell? ⟨w.heap.size, 1, none⟩ = some (.slice (some ⟨b, off, none⟩) n cap) ∧ w'.cell? ⟨w.heap.size + 1, 0, none⟩ = some (.slice aH H.length cH) ∧ w'.cell? ⟨b, off + i * 6, none⟩ = some (.int .i64 x.ep) ∧ w'.cell? ⟨b, off + i * 6 + 1, none⟩ = some (.int .i64 x.pr) ∧ w'.cell? ⟨b, off + i * 6 + 2, none⟩ = some (.slice x.aV x.V.length x.cV) ∧ w'.cell? ⟨b, off + i * 6 + 3, none⟩ = some (.slice x.aM x.M.length x.cM) ∧ w'.cell? ⟨b, off + i * 6 + 4, none⟩ = some (.slice x.aA x.A.length x.cA) ∧ w'.cell? ⟨b, off + i * 6 + 5, none⟩ = some (.int .i64 x.h))) (by kernel_rfl) ⟨p0, p1, h0, c0, c1, c2, c3, c4, c5⟩ (fun hHeld => ?_)
          refine take (i := 0) (d := some 22) (v := .pointer (some ⟨w.heap.size, 1, none⟩)) rfl (by kernel_rfl) (by kernel_rfl) (by kernel_rfl) (by kernel_rfl) (fun _ _ _ h => h) (Or.inl ⟨by rfl, by intro w hSw; go_simp⟩) hHeld ?_
          simp only [Act.put, List.setIfInBounds_toArray, List.set_cons_zero, List.set_cons_succ]
          refine take (i := 1) (d := some 23) (v := .slice (some ⟨b, off, none⟩) n cap) rfl (by kernel_rfl) (by kernel_rfl) (by kernel_rfl) (by kernel_rfl) (fun _ _ _ h => h) (Or.inl ⟨by rfl, by intro w hSw; obtain ⟨p0, p1, h0, c0, c1, c2, c3, c4, c5⟩ := hSw; go_simp⟩) hHeld ?_
          simp only [Act.put, List.setIfInBounds_toArray, List.set_cons_zero, List.set_cons_succ]
          refine take (i := 2) (d := some 24) (v := .int .i64 i) rfl (by kernel_rfl) (by kernel_rfl) (by kernel_rfl) (by kernel_rfl) (fun _ _ _ h => h) (Or.inl ⟨by rfl, by intro w hSw; go_simp⟩) hHeld ?_
          simp only [Act.put, List.setIfInBounds_toArray, List.set_cons_zero, List.set_cons_succ]
          refine take (i := 3) (d := some 25) (v := .pointer (some ⟨b, off + i * 6, none⟩)) rfl (by kernel_rfl) (by kernel_rfl) (by kernel_rfl) (by kernel_rfl) (fun _ _ _ h => h) (Or.inl ⟨by rfl, by intro w hSw; go_simp⟩) hHeld ?_
          simp only [Act.put, List.setIfInBounds_toArray, List.set_cons_zero, List.set_cons_succ]
          refine take (i := 4) (d := some 26) (v := .pointer (some ⟨b, off + i * 6, none⟩)) rfl (by kernel_rfl) (by kernel_rfl) (by kernel_rfl) (by kernel_rfl) (fun _ _ _ h => h) (Or.inl ⟨by rfl, by intro w hSw; go_simp⟩) hHeld ?_
          simp only [Act.put, List.setIfInBounds_toArray, List.set_cons_zero, List.set_cons_succ]
          refine take (i := 5) (d := some 27) (v := .int .i64 x.ep) rfl (by kernel_rfl) (by kernel_rfl) (by kernel_rfl) (by kernel_rfl) (fun _ _ _ h => h) (Or.inl ⟨by rfl, by intro w hSw; obtain ⟨p0, p1, h0, c0, c1, c2, c3, c4, c5⟩ := hSw; go_simp⟩) hHeld ?_
          simp only [Act.put, List.setIfInBounds_toArray, List.set_cons_zero, List.set_cons_succ]
          refine take (i := 6) (d := some 28) (v := .int .i64 ep) rfl (by kernel_rfl) (by kernel_rfl) (by kernel_rfl) (by kernel_rfl) (fun _ _ _ h => h) (Or.inl ⟨by rfl, by intro w hSw; go_simp⟩) hHeld ?_
          simp only [Act.put, List.setIfInBounds_toArray, List.set_cons_zero, List.set_cons_succ]
          refine take (i := 7) (d := some 29) (v := .bool true) rfl (by kernel_rfl) (by kernel_rfl) (by kernel_rfl) (by kernel_rfl) (fun _ _ _ h => h) (Or.inl ⟨by rfl, by intro w hSw; go_simp⟩) hHeld ?_
          simp only [Act.put, List.setIfInBounds_toArray, List.set_cons_zero, List.set_cons_succ]
          refine take (i := 8) (d := some 30) (v := .bool true) rfl (by kernel_rfl) (by kernel_rfl) (by kernel_rfl) (by kernel_rfl) (fun _ _ _ h => h) (Or.inl ⟨by rfl, by intro w hSw; go_simp⟩) hHeld ?_
          simp only [Act.put, List.setIfInBounds_toArray, List.set_cons_zero, List.set_cons_succ]
          refine take (i := 9) (d := some 31) (v := .pointer (some ⟨w.heap.size, 1, none⟩)) rfl (by kernel_rfl) (by kernel_rfl) (by kernel_rfl) (by kernel_rfl) (fun _ _ _ h => h) (Or.inl ⟨by rfl, by intro w hSw; go_simp⟩) hHeld ?_
          simp only [Act.put, List.setIfInBounds_toArray, List.set_cons_zero, List.set_cons_succ]
          refine take (i := 10) (d := some 32) (v := .slice (some ⟨b, off, none⟩) n cap) rfl (by kernel_rfl) (by kernel_rfl) (by kernel_rfl) (by kernel_rfl) (fun _ _ _ h => h) (Or.inl ⟨by rfl, by intro w hSw; obtain ⟨p0, p1, h0, c0, c1, c2, c3, c4, c5⟩ := hSw; go_simp⟩) hHeld ?_
          simp only [Act.put, List.setIfInBounds_toArray, List.set_cons_zero, List.set_cons_succ]
          refine take (i := 11) (d := some 33) (v := .int .i64 i) rfl (by kernel_rfl) (by kernel_rfl) (by kernel_rfl) (by kernel_rfl) (fun _ _ _ h => h) (Or.inl ⟨by rfl, by intro w hSw; go_simp⟩) hHeld ?_
          simp only [Act.put, List.setIfInBounds_toArray, List.set_cons_zero, List.set_cons_succ]
          refine take (i := 12) (d := some 34) (v := .pointer (some ⟨b, off + i * 6, none⟩)) rfl (by kernel_rfl) (by kernel_rfl) (by kernel_rfl) (by kernel_rfl) (fun _ _ _ h => h) (Or.inl ⟨by rfl, by intro w hSw; go_simp⟩) hHeld ?_
          simp only [Act.put, List.setIfInBounds_toArray, List.set_cons_zero, List.set_cons_succ]
          refine take (i := 13) (d := some 35) (v := .pointer (some ⟨b, off + i * 6 + 2, none⟩)) rfl (by kernel_rfl) (by kernel_rfl) (by kernel_rfl) (by kernel_rfl) (fun _ _ _ h => h) (Or.inl ⟨by rfl, by intro w hSw; go_simp⟩) hHeld ?_
          simp only [Act.put, List.setIfInBounds_toArray, List.set_cons_zero, List.set_cons_succ]
          refine take (i := 14) (d := some 36) (v := .agg #[.slice x.aV x.V.length x.cV, .slice x.aM x.M.length x.cM]) rfl (by kernel_rfl) (by kernel_rfl) (by kernel_rfl) (by kernel_rfl) (fun _ _ _ h => h) (Or.inl ⟨by rfl, by intro w hSw; obtain ⟨p0, p1, h0, c0, c1, c2, c3, c4, c5⟩ := hSw; go_simp⟩) hHeld ?_
          simp only [Act.put, List.setIfInBounds_toArray, List.set_cons_zero, List.set_cons_succ]
          refine take (i := 15) (d := some 37) (v := .agg #[.slice aH H.length cH]) rfl (by kernel_rfl) (by kernel_rfl) (by kernel_rfl) (by kernel_rfl) (fun _ _ _ h => h) (Or.inl ⟨by rfl, by intro w hSw; obtain ⟨p0, p1, h0, c0, c1, c2, c3, c4, c5⟩ := hSw; go_simp⟩) hHeld ?_
          simp only [Act.put, List.setIfInBounds_toArray, List.set_cons_zero, List.set_cons_succ]
          refine wpAnyH_ready (rs := [16]) (by kernel_rfl) (by simp) (Rg.call2 (i := 16) rfl (by rfl) 102 (.tmp 36) (.tmp 37) 25 27 (by kernel_rfl) 38 (by kernel_rfl) _ _ (by kernel_rfl) (by kernel_rfl) (fun _ => rfl) (hcall) ?_ AllReadyH.nil)
          rintro e1 w1 ⟨rfl, hb⟩
          refine ⟨_, rfl, ⟨(hb.cell (by exact bt)).trans p0, (hb.cell (by exact bt)).trans p1, (hb.cell (by exact bh)).trans h0, (hb.cell (by exact bl)).trans c0, (hb.cell (by exact bl)).trans c1, (hb.cell (by exact bl)).trans c2, (hb.cell (by exact bl)).trans c3, (hb.cell (by exact bl)).trans c4, (hb.cell (by exact bl)).trans c5⟩, fun hHeld => ?_⟩
          simp only [Act.put, List.setIfInBounds_toArray, List.set_cons_zero, List.set_cons_succ]
          refine take (i := 17) (d := some 39) (v := .bool false) rfl (by kernel_rfl) (by kernel_rfl) (by kernel_rfl) (by kernel_rfl) (fun _ _ _ h => h) (Or.inl ⟨by rfl, by intro w hSw; go_simp⟩) hHeld ?_
          simp only [Act.put, List.setIfInBounds_toArray, List.set_cons_zero, List.set_cons_succ]
          refine wpAnyH_done (by kernel_rfl) ?_ _
          replace kT := (hb.block _ bt).trans kT
          replace kH := (hb.block _ bh).trans kH
          go_wp2
          go_roundw
          case rel => exact ⟨i + 1, by omega, by go_num, Rw.next (by repeat (first | exact hbel | apply Below.drew)) hb, Rw.next (by repeat (first | exact hbb | apply Below.drew)) hb, kT, kH, HGo.out (show (decide (x.ep = ep) && Ld.hitB x.V x.M H) = false by rw [HHt.out]; simp)⟩
          case measure => simp [intOf]; omega
        · rw [hhit] at hcall
          have HHt : Hid (Ld.hitB x.V x.M H = true) := hhit
          clear hhit
          go_wp2
          refine wp_region_held_drew (S := (fun w' => w'.cell? ⟨w.heap.size, 0, none⟩ = some (.int .i64 q) ∧ w'.cell? ⟨w.heap.size, 1, none⟩ = some (.slice (some ⟨b, off, none⟩) n cap) ∧ w'.cell? ⟨w.heap.size + 1, 0, none⟩ = some (.slice aH H.length cH) ∧ w'.cell? ⟨b, off + i * 6, none⟩ = some (.int .i64 x.ep) ∧ w'.cell? ⟨b, off + i * 6 + 1, none⟩ = some (.int .i64 x.pr) ∧ w'.cell? ⟨b, off + i * 6 + 2, none⟩ = some (.slice x.aV x.V.length x.cV) ∧ w'.cell? ⟨b, off + i * 6 + 3, none⟩ = some (.slice x.aM x.M.length x.cM) ∧ w'.cell? ⟨b, off + i * 6 + 4, none⟩ = some (.slice x.aA x.A.length x.cA) ∧ w'.cell? ⟨b, off + i * 6 + 5, none⟩ = some (.int .i64 x.h))) (by kernel_rfl) ⟨p0, p1, h0, c0, c1, c2, c3, c4, c5⟩ (fun hHeld => ?_)
          refine take (i := 0) (d := some 22) (v := .pointer (some ⟨w.heap.size, 1, none⟩)) rfl (by kernel_rfl) (by kernel_rfl) (by kernel_rfl) (by kernel_rfl) (fun _ _ _ h => h) (Or.inl ⟨by rfl, by intro w hSw; go_simp⟩) hHeld ?_
          simp only [Act.put, List.setIfInBounds_toArray, List.set_cons_zero, List.set_cons_succ]
          refine take (i := 1) (d := some 23) (v := .slice (some ⟨b, off, none⟩) n cap) rfl (by kernel_rfl) (by kernel_rfl) (by kernel_rfl) (by kernel_rfl) (fun _ _ _ h => h) (Or.inl ⟨by rfl, by intro w hSw; obtain ⟨p0, p1, h0, c0, c1, c2, c3, c4, c5⟩ := hSw; go_simp⟩) hHeld ?_
          simp only [Act.put, List.setIfInBounds_toArray, List.set_cons_zero, List.set_cons_succ]
          refine take (i := 2) (d := some 24) (v := .int .i64 i) rfl (by kernel_rfl) (by kernel_rfl) (by kernel_rfl) (by kernel_rfl) (fun _ _ _ h => h) (Or.inl ⟨by rfl, by intro w hSw; go_simp⟩) hHeld ?_
          simp only [Act.put, List.setIfInBounds_toArray, List.set_cons_zero, List.set_cons_succ]
          refine take (i := 3) (d := some 25) (v := .pointer (some ⟨b, off + i * 6, none⟩)) rfl (by kernel_rfl) (by kernel_rfl) (by kernel_rfl) (by kernel_rfl) (fun _ _ _ h => h) (Or.inl ⟨by rfl, by intro w hSw; go_simp⟩) hHeld ?_
          simp only [Act.put, List.setIfInBounds_toArray, List.set_cons_zero, List.set_cons_succ]
          refine take (i := 4) (d := some 26) (v := .pointer (some ⟨b, off + i * 6, none⟩)) rfl (by kernel_rfl) (by kernel_rfl) (by kernel_rfl) (by kernel_rfl) (fun _ _ _ h => h) (Or.inl ⟨by rfl, by intro w hSw; go_simp⟩) hHeld ?_
          simp only [Act.put, List.setIfInBounds_toArray, List.set_cons_zero, List.set_cons_succ]
          refine take (i := 5) (d := some 27) (v := .int .i64 x.ep) rfl (by kernel_rfl) (by kernel_rfl) (by kernel_rfl) (by kernel_rfl) (fun _ _ _ h => h) (Or.inl ⟨by rfl, by intro w hSw; obtain ⟨p0, p1, h0, c0, c1, c2, c3, c4, c5⟩ := hSw; go_simp⟩) hHeld ?_
          simp only [Act.put, List.setIfInBounds_toArray, List.set_cons_zero, List.set_cons_succ]
          refine take (i := 6) (d := some 28) (v := .int .i64 ep) rfl (by kernel_rfl) (by kernel_rfl) (by kernel_rfl) (by kernel_rfl) (fun _ _ _ h => h) (Or.inl ⟨by rfl, by intro w hSw; go_simp⟩) hHeld ?_
          simp only [Act.put, List.setIfInBounds_toArray, List.set_cons_zero, List.set_cons_succ]
          refine take (i := 7) (d := some 29) (v := .bool true) rfl (by kernel_rfl) (by kernel_rfl) (by kernel_rfl) (by kernel_rfl) (fun _ _ _ h => h) (Or.inl ⟨by rfl, by intro w hSw; go_simp⟩) hHeld ?_
          simp only [Act.put, List.setIfInBounds_toArray, List.set_cons_zero, List.set_cons_succ]
          refine take (i := 8) (d := some 30) (v := .bool true) rfl (by kernel_rfl) (by kernel_rfl) (by kernel_rfl) (by kernel_rfl) (fun _ _ _ h => h) (Or.inl ⟨by rfl, by intro w hSw; go_simp⟩) hHeld ?_
          simp only [Act.put, List.setIfInBounds_toArray, List.set_cons_zero, List.set_cons_succ]
          refine take (i := 9) (d := some 31) (v := .pointer (some ⟨w.heap.size, 1, none⟩)) rfl (by kernel_rfl) (by kernel_rfl) (by kernel_rfl) (by kernel_rfl) (fun _ _ _ h => h) (Or.inl ⟨by rfl, by intro w hSw; go_simp⟩) hHeld ?_
          simp only [Act.put, List.setIfInBounds_toArray, List.set_cons_zero, List.set_cons_succ]
          refine take (i := 10) (d := some 32) (v := .slice (some ⟨b, off, none⟩) n cap) rfl (by kernel_rfl) (by kernel_rfl) (by kernel_rfl) (by kernel_rfl) (fun _ _ _ h => h) (Or.inl ⟨by rfl, by intro w hSw; obtain ⟨p0, p1, h0, c0, c1, c2, c3, c4, c5⟩ := hSw; go_simp⟩) hHeld ?_
          simp only [Act.put, List.setIfInBounds_toArray, List.set_cons_zero, List.set_cons_succ]
          refine take (i := 11) (d := some 33) (v := .int .i64 i) rfl (by kernel_rfl) (by kernel_rfl) (by kernel_rfl) (by kernel_rfl) (fun _ _ _ h => h) (Or.inl ⟨by rfl, by intro w hSw; go_simp⟩) hHeld ?_
          simp only [Act.put, List.setIfInBounds_toArray, List.set_cons_zero, List.set_cons_succ]
          refine take (i := 12) (d := some 34) (v := .pointer (some ⟨b, off + i * 6, none⟩)) rfl (by kernel_rfl) (by kernel_rfl) (by kernel_rfl) (by kernel_rfl) (fun _ _ _ h => h) (Or.inl ⟨by rfl, by intro w hSw; go_simp⟩) hHeld ?_
          simp only [Act.put, List.setIfInBounds_toArray, List.set_cons_zero, List.set_cons_succ]
          refine take (i := 13) (d := some 35) (v := .pointer (some ⟨b, off + i * 6 + 2, none⟩)) rfl (by kernel_rfl) (by kernel_rfl) (by kernel_rfl) (by kernel_rfl) (fun _ _ _ h => h) (Or.inl ⟨by rfl, by intro w hSw; go_simp⟩) hHeld ?_
          simp only [Act.put, List.setIfInBounds_toArray, List.set_cons_zero, List.set_cons_succ]
          refine take (i := 14) (d := some 36) (v := .agg #[.slice x.aV x.V.length x.cV, .slice x.aM x.M.length x.cM]) rfl (by kernel_rfl) (by kernel_rfl) (by kernel_rfl) (by kernel_rfl) (fun _ _ _ h => h) (Or.inl ⟨by rfl, by intro w hSw; obtain ⟨p0, p1, h0, c0, c1, c2, c3, c4, c5⟩ := hSw; go_simp⟩) hHeld ?_
          simp only [Act.put, List.setIfInBounds_toArray, List.set_cons_zero, List.set_cons_succ]
          refine take (i := 15) (d := some 37) (v := .agg #[.slice aH H.length cH]) rfl (by kernel_rfl) (by kernel_rfl) (by kernel_rfl) (by kernel_rfl) (fun _ _ _ h => h) (Or.inl ⟨by rfl, by intro w hSw; obtain ⟨p0, p1, h0, c0, c1, c2, c3, c4, c5⟩ := hSw; go_simp⟩) hHeld ?_
          simp only [Act.put, List.setIfInBounds_toArray, List.set_cons_zero, List.set_cons_succ]
          refine wpAnyH_ready (rs := [16]) (by kernel_rfl) (by simp) (Rg.call2 (i := 16) rfl (by rfl) 102 (.tmp 36) (.tmp 37) 25 27 (by kernel_rfl) 38 (by kernel_rfl) _ _ (by kernel_rfl) (by kernel_rfl) (fun _ => rfl) (hcall) ?_ AllReadyH.nil)
          rintro e1 w1 ⟨rfl, hb⟩
          refine ⟨_, rfl, ⟨(hb.cell (by exact bt)).trans p0, (hb.cell (by exact bt)).trans p1, (hb.cell (by exact bh)).trans h0, (hb.cell (by exact bl)).trans c0, (hb.cell (by exact bl)).trans c1, (hb.cell (by exact bl)).trans c2, (hb.cell (by exact bl)).trans c3, (hb.cell (by exact bl)).trans c4, (hb.cell (by exact bl)).trans c5⟩, fun hHeld => ?_⟩
          simp only [Act.put, List.setIfInBounds_toArray, List.set_cons_zero, List.set_cons_succ]
          refine take (i := 17) (d := some 39) (v := .bool true) rfl (by kernel_rfl) (by kernel_rfl) (by kernel_rfl) (by kernel_rfl) (fun _ _ _ h => h) (Or.inl ⟨by rfl, by intro w hSw; go_simp⟩) hHeld ?_
          simp only [Act.put, List.setIfInBounds_toArray, List.set_cons_zero, List.set_cons_succ]
          refine wpAnyH_done (by kernel_rfl) ?_ _
          go_wp2
          go_ret
          exact ⟨by rw [← HSt.out (show (decide (x.ep = ep) && Ld.hitB x.V x.M H) = true by rw [HHt.out, decide_eq_true HEp.out]; rfl)]; rfl, Rw.next (by repeat (first | exact hbel | apply Below.drew)) hb⟩
      · have he' : (x.ep == ep) = false := by simpa using he
        have HEp : Hid (¬ x.ep = ep) := he
        clear he
        go_wp2
        refine wp_region_held_drew (S := (fun w' => w'.cell? ⟨w.heap.size, 0, none⟩ = some (.int .i64 q) ∧ w'.cell? ⟨w.heap.size, 1, none⟩ = some (.slice (some ⟨b, off, none⟩) n cap) ∧ w'.cell? ⟨w.heap.size + 1, 0, none⟩ = some (.slice aH H.length cH) ∧ w'.cell? ⟨b, off + i * 6, none⟩ = some (.int .i64 x.ep) ∧ w'.cell? ⟨b, off + i * 6 + 1, none⟩ = some (.int .i64 x.pr) ∧ w'.cell? ⟨b, off + i * 6 + 2, none⟩ = some (.slice x.aV x.V.length x.cV) ∧ w'.cell? ⟨b, off + i * 6 + 3, none⟩ = some (.slice x.aM x.M.length x.cM) ∧ w'.cell? ⟨b, off + i * 6 + 4, none⟩ = some (.slice x.aA x.A.length x.cA) ∧ w'.cell? ⟨b, off + i * 6 + 5, none⟩ = some (.int .i64 x.h))) (by kernel_rfl) ⟨p0, p1, h0, c0, c1, c2, c3, c4, c5⟩ (fun hHeld => ?_)
        refine take (i := 0) (d := some 22) (v := .pointer (some ⟨w.heap.size, 1, none⟩)) rfl (by kernel_rfl) (by kernel_rfl) (by kernel_rfl) (by kernel_rfl) (fun _ _ _ h => h) (Or.inl ⟨by rfl, by intro w hSw; go_simp⟩) hHeld ?_
        simp only [Act.put, List.setIfInBounds_toArray, List.set_cons_zero, List.set_cons_succ]
        refine take (i := 1) (d := some 23) (v := .slice (some ⟨b, off, none⟩) n cap) rfl (by kernel_rfl) (by kernel_rfl) (by kernel_rfl) (by kernel_rfl) (fun _ _ _ h => h) (Or.inl ⟨by rfl, by intro w hSw; obtain ⟨p0, p1, h0, c0, c1, c2, c3, c4, c5⟩ := hSw; go_simp⟩) hHeld ?_
        simp only [Act.put, List.setIfInBounds_toArray, List.set_cons_zero, List.set_cons_succ]
        refine take (i := 2) (d := some 24) (v := .int .i64 i) rfl (by kernel_rfl) (by kernel_rfl) (by kernel_rfl) (by kernel_rfl) (fun _ _ _ h => h) (Or.inl ⟨by rfl, by intro w hSw; go_simp⟩) hHeld ?_
        simp only [Act.put, List.setIfInBounds_toArray, List.set_cons_zero, List.set_cons_succ]
        refine take (i := 3) (d := some 25) (v := .pointer (some ⟨b, off + i * 6, none⟩)) rfl (by kernel_rfl) (by kernel_rfl) (by kernel_rfl) (by kernel_rfl) (fun _ _ _ h => h) (Or.inl ⟨by rfl, by intro w hSw; go_simp⟩) hHeld ?_
        simp only [Act.put, List.setIfInBounds_toArray, List.set_cons_zero, List.set_cons_succ]
        refine take (i := 4) (d := some 26) (v := .pointer (some ⟨b, off + i * 6, none⟩)) rfl (by kernel_rfl) (by kernel_rfl) (by kernel_rfl) (by kernel_rfl) (fun _ _ _ h => h) (Or.inl ⟨by rfl, by intro w hSw; go_simp⟩) hHeld ?_
        simp only [Act.put, List.setIfInBounds_toArray, List.set_cons_zero, List.set_cons_succ]
        refine take (i := 5) (d := some 27) (v := .int .i64 x.ep) rfl (by kernel_rfl) (by kernel_rfl) (by kernel_rfl) (by kernel_rfl) (fun _ _ _ h => h) (Or.inl ⟨by rfl, by intro w hSw; obtain ⟨p0, p1, h0, c0, c1, c2, c3, c4, c5⟩ := hSw; go_simp⟩) hHeld ?_
        simp only [Act.put, List.setIfInBounds_toArray, List.set_cons_zero, List.set_cons_succ]
        refine take (i := 6) (d := some 28) (v := .int .i64 ep) rfl (by kernel_rfl) (by kernel_rfl) (by kernel_rfl) (by kernel_rfl) (fun _ _ _ h => h) (Or.inl ⟨by rfl, by intro w hSw; go_simp⟩) hHeld ?_
        simp only [Act.put, List.setIfInBounds_toArray, List.set_cons_zero, List.set_cons_succ]
        refine take (i := 7) (d := some 29) (v := .bool false) rfl (by kernel_rfl) (by kernel_rfl) (by kernel_rfl) (by kernel_rfl) (fun _ _ _ h => h) (Or.inl ⟨by rfl, by intro w hSw; go_simp⟩) hHeld ?_
        simp only [Act.put, List.setIfInBounds_toArray, List.set_cons_zero, List.set_cons_succ]
        refine take (i := 8) (d := some 30) (v := .bool false) rfl (by kernel_rfl) (by kernel_rfl) (by kernel_rfl) (by kernel_rfl) (fun _ _ _ h => h) (Or.inl ⟨by rfl, by intro w hSw; go_simp⟩) hHeld ?_
        simp only [Act.put, List.setIfInBounds_toArray, List.set_cons_zero, List.set_cons_succ]
        refine take (i := 9) (d := some 31) (v := undef) rfl (by kernel_rfl) (by kernel_rfl) (by kernel_rfl) (by kernel_rfl) (fun _ _ _ h => h) (Or.inr ⟨by rfl, rfl⟩) hHeld ?_
        simp only [Act.put, List.setIfInBounds_toArray, List.set_cons_zero, List.set_cons_succ]
        refine take (i := 10) (d := some 32) (v := undef) rfl (by kernel_rfl) (by kernel_rfl) (by kernel_rfl) (by kernel_rfl) (fun _ _ _ h => h) (Or.inr ⟨by rfl, rfl⟩) hHeld ?_
        simp only [Act.put, List.setIfInBounds_toArray, List.set_cons_zero, List.set_cons_succ]
        refine take (i := 11) (d := some 33) (v := undef) rfl (by kernel_rfl) (by kernel_rfl) (by kernel_rfl) (by kernel_rfl) (fun _ _ _ h => h) (Or.inr ⟨by rfl, rfl⟩) hHeld ?_
        simp only [Act.put, List.setIfInBounds_toArray, List.set_cons_zero, List.set_cons_succ]
        refine take (i := 12) (d := some 34) (v := undef) rfl (by kernel_rfl) (by kernel_rfl) (by kernel_rfl) (by kernel_rfl) (fun _ _ _ h => h) (Or.inr ⟨by rfl, rfl⟩) hHeld ?_
        simp only [Act.put, List.setIfInBounds_toArray, List.set_cons_zero, List.set_cons_succ]
        refine take (i := 13) (d := some 35) (v := undef) rfl (by kernel_rfl) (by kernel_rfl) (by kernel_rfl) (by kernel_rfl) (fun _ _ _ h => h) (Or.inr ⟨by rfl, rfl⟩) hHeld ?_
        simp only [Act.put, List.setIfInBounds_toArray, List.set_cons_zero, List.set_cons_succ]
        refine take (i := 14) (d := some 36) (v := undef) rfl (by kernel_rfl) (by kernel_rfl) (by kernel_rfl) (by kernel_rfl) (fun _ _ _ h => h) (Or.inr ⟨by rfl, rfl⟩) hHeld ?_
        simp only [Act.put, List.setIfInBounds_toArray, List.set_cons_zero, List.set_cons_succ]
        refine take (i := 15) (d := some 37) (v := undef) rfl (by kernel_rfl) (by kernel_rfl) (by kernel_rfl) (by kernel_rfl) (fun _ _ _ h => h) (Or.inr ⟨by rfl, rfl⟩) hHeld ?_
        simp only [Act.put, List.setIfInBounds_toArray, List.set_cons_zero, List.set_cons_succ]
        refine take (i := 16) (d := some 38) (v := undef) rfl (by kernel_rfl) (by kernel_rfl) (by kernel_rfl) (by kernel_rfl) (fun _ _ _ h => h) (Or.inr ⟨by rfl, rfl⟩) hHeld ?_
        simp only [Act.put, List.setIfInBounds_toArray, List.set_cons_zero, List.set_cons_succ]
        refine take (i := 17) (d := some 39) (v := .bool false) rfl (by kernel_rfl) (by kernel_rfl) (by kernel_rfl) (by kernel_rfl) (fun _ _ _ h => h) (Or.inl ⟨by rfl, by intro w hSw; go_simp⟩) hHeld ?_
        simp only [Act.put, List.setIfInBounds_toArray, List.set_cons_zero, List.set_cons_succ]
        refine wpAnyH_done (by kernel_rfl) ?_ _
        go_wp2
        go_roundw
        case rel => exact ⟨i + 1, by omega, by go_num, by repeat (first | exact hbel | apply Below.drew), by repeat (first | exact hbb | apply Below.drew), kT, kH, HGo.out (show (decide (x.ep = ep) && Ld.hitB x.V x.M H) = false by rw [decide_eq_false HEp.out]; rfl)⟩
        case measure => simp [intOf]; omega
    · obtain rfl : i = n := by omega
      go_wp2
      go_ret
      have e1 := fst_one (r := -1) (.inl ⟨rfl, by rw [← HN.out]; exact HP.out⟩) HF.out
      exact ⟨by rw [← e1]; rfl, hbel⟩

end Go.Proofs.Ytcbgnfjnjfaacaa.Lq
namespace Go.Proofs.Ytcbgnfjnjfaacaa.Hq
set_option maxRecDepth 8000
set_option linter.unusedSimpArgs false
set_option linter.unusedVariables false
open Go Go.RowKit
open Num Pl Ea Ra Pq Ka

/-- A row of integers of the call's own, from block B on; it may be nil. -/
def HasZ (w : World) (B : Nat) (v : Value) (l : List Int) : Prop := w.ownsRow B 3 1 v l.length (l.map (Value.int .i64))
theorem HasZ.keep {w w' : World} {B : Nat} {v : Value} {l : List Int} (h : HasZ w B v l) (hk : ∀ g, g < w.heap.size → B ≤ g → w'.heap[g]? = w.heap[g]?) : HasZ w' B v l := by
  refine ⟨h.1, ?_⟩
  rcases h.2 with ⟨e1, e2⟩ | ⟨g, cap, cur, e1, hb, hg, rest⟩
  · exact .inl ⟨e1, e2⟩
  · exact .inr ⟨g, cap, cur, e1, hb, (hk g (blk_lt hg) hb).trans hg, rest⟩
theorem HasZ.below {w w' : World} {B : Nat} {v : Value} {l : List Int} (h : HasZ w B v l) (hb : Below w.heap.size w w') : HasZ w' B v l := h.keep fun g hg _ => hb.block g hg
theorem HasZ.nil (w : World) (B : Nat) : HasZ w B (.slice none 0 0) [] := World.ownsRow_nil w B 3 1
theorem HasZ.form {w : World} {B : Nat} {v : Value} {l : List Int} (h : HasZ w B v l) (hs : l.length ≤ 4194304) : ∃ a g cap, v = .slice a l.length cap ∧ Hr.Wt w a g l ∧ (l.length = 0 ∨ B ≤ g) := by
  rcases h.2 with ⟨rfl, e⟩ | ⟨g, cap, cur, rfl, hb, hh, hn, _, _, ht⟩
  · have : l = [] := List.eq_nil_of_length_eq_zero e
    subst this
    exact ⟨none, 0, 0, rfl, Hr.Wt.nil _ _ _, .inl rfl⟩
  · refine ⟨some ⟨g, 0, none⟩, g, cap, rfl, ⟨fun _ => rfl, fun i hi => ?_, fun i hi => by simp [World.frozen?, hh], hs⟩, .inr hb⟩
    have e : (cur.toList.take (l.length * 1))[i]? = (l.map (Value.int .i64))[i]? := by rw [ht]
    rw [List.getElem?_take, if_pos (by omega)] at e
    simp only [World.cell?, hh]
    simp [← Array.getElem?_toList, e, List.getD, hi]
theorem wpList_appZ {ops : Array Oper} {rest : List Oper} {o : Oper} {a : Act} {w : World} {Q : Exit → Act → World → Prop} (hgd : o.guard = none) (s x : Operand)
    (ho : o.op = .call { callee := .builtin .append, args := #[s, x], argTypes := #[23, 23] }) (base : Nat) (v : Value) (l m : List Int) (hs : a.eval s = v) (hown : HasZ w base v l)
    (ad : Addr) (b off c : Nat) (hx : a.eval x = .slice (some ad) m.length c) (hr : Hr.Rd w (some ad) b off m) (hb : l.length + m.length ≤ 8388608) (hbase : base ≤ w.heap.size)
    (h : ∀ v' w', HasZ w' base v' (l ++ m) → w.grownBy w' v.ownBlock → wpList Try.prog ops Q rest (a.put o.dst v') w') : wpList Try.prog ops Q (o :: rest) a w := by
  obtain ⟨i0, hi, hz0, hz1, hz2⟩ := info_parts Hr.info3
  refine wpList_append_own _ hgd s x 23 ho base 3 i0 (.int .i64 0) 1 8 Try.underlying23 hi hz0 hz1 hz2 rfl (by decide) v l.length (l.map (Value.int .i64)) hs hown ad m.length c (m.map (Value.int .i64)) hx (by simp) (Ht.news_of hr) (by intro u hu; simp at hu; obtain ⟨q, _, rfl⟩ := hu; rfl) (by unfold maxLen; omega) (by omega) hbase ?_
  intro v' w' h1 h2 h3
  exact h v' w' (by simpa [HasZ] using h1) h2
theorem rd_one (w : World) (x : Int) : Hr.Rd (w.alloc (.cells #[.int .i64 x] 3)) (some ⟨w.heap.size, 0, none⟩) w.heap.size 0 [x] := by
  refine ⟨fun _ => rfl, fun j hj => ?_, by simp⟩
  have e : j = 0 := by simpa using hj
  subst e
  have k : (w.alloc (.cells #[.int .i64 x] 3)).heap[w.heap.size]? = some (.cells #[.int .i64 x] 3 (0, 0)) := at_new rfl
  exact Hh.one k
theorem HasZ.mono {w : World} {B B' : Nat} {v : Value} {l : List Int} (h : HasZ w B v l) (hB : B' ≤ B) : HasZ w B' v l := by
  refine ⟨h.1, ?_⟩
  rcases h.2 with ⟨e1, e2⟩ | ⟨g, cap, cur, e1, hb, rest⟩
  · exact .inl ⟨e1, e2⟩
  · exact .inr ⟨g, cap, cur, e1, Nat.le_trans hB hb, rest⟩
theorem grown_below {w0 w w' : World} {B : Nat} {v : Value} {l : List Int} (h : HasZ w B v l) (hb : Below w0.heap.size w0 w) (hg : w.grownBy w' v.ownBlock) (hB : w0.heap.size ≤ B) : Below w0.heap.size w0 w' :=
  hb.grown hg hb.size (fun k hk => by have := (h.lt k hk).1; omega)
theorem grown_other {w w' : World} {B x : Nat} {v : Value} {l : List Int} (h : HasZ w B v l) (hg : w.grownBy w' v.ownBlock) (hx : x < w.heap.size) (hB : x < B) : w'.heap[x]? = w.heap[x]? :=
  hg.block x hx (fun e => by have := (h.lt x e.symm).1; omega)

def covB (V M V' M' : List Int) : Bool := (Po.matchB V M && Po.matchB V' M') && Pe.sameB (fun k => bits .and .i64 (Po.pv V' M' k) (Po.pm V M k)) (fun k => bits .and .i64 (Po.pm V' M' k) (Po.pm V M k)) (Po.pv V M) (Po.pm V M)
theorem covI {V M V' M' : List Int} (wV : Po.Wide V) (wV' : Po.Wide V') : Rg.CMM 15 V M V' M' (Rg.Bo (covB V M V' M')) :=
  fun a a' b o c b' o' c' p p' q r s q' r' s' w h1 h2 h3 h4 => Mi.covers_l a a' p p' _ _ _ _ c c' s s' _ _ _ _ _ w (Mi.two_any c c' s s' h1 h2 wV h3 h4 wV')
theorem covS {V M V' M' : List Int} (wV : Po.Wide V) (wV' : Po.Wide V') : Rg.CMM 16 V M V' M' (Rg.Bo (covB V M V' M')) := Lc.coversS_any wV wV'
/-- Does the one entry hide the other? -/
def covE (x y : En) : Bool := decide (x.1 = y.1) && covB x.2.2.1 x.2.2.2.1 y.2.2.1 y.2.2.2.1
def hidP (L : List En) (i : Nat) : Bool := anyB (fun k => covE (L.getD k x0) (L.getD i x0)) i
/-- The hidden entries among the first i. -/
def hidL (L : List En) : Nat → List Int
  | 0 => []
  | i + 1 => if hidP L i = true then hidL L i ++ [(i : Int)] else hidL L i
theorem hidL_len (L : List En) (i : Nat) : (hidL L i).length ≤ i := by
  induction i with
  | zero => simp [hidL]
  | succ i ih =>
    simp only [hidL]
    split
    · simp; omega
    · omega
/-- What Hidden answers. -/
def HidR (q : Int) (L : List En) (r : List Int) : Prop := (TabP q L ∧ r = hidL L L.length) ∨ (¬ TabP q L ∧ r = [])
theorem hid_some (q : Int) (L : List En) : ∃ r, HidR q L r := by
  rcases Classical.em (TabP q L) with h | h
  · exact ⟨_, .inl ⟨h, rfl⟩⟩
  · exact ⟨[], .inr ⟨h, rfl⟩⟩
theorem hid_len {q : Int} {L : List En} {r : List Int} (h : HidR q L r) : r.length ≤ 400 := by
  rcases h with ⟨t, rfl⟩ | ⟨_, rfl⟩
  · have := hidL_len L L.length
    have := t.len
    have := t.q1
    omega
  · simp
theorem rd_take {w : World} {a : Option Addr} {b off : Nat} {Q : List Ent} (h : Rd w a b off Q) {i : Nat} (hi : i ≤ Q.length) : Rd w a b off (Q.take i) := by
  have e : ∀ j, j < i → (Q.take i).getD j e0 = Q.getD j e0 := fun j hj => by simp [List.getD, List.getElem?_take, hj]
  have l : (Q.take i).length = i := by simp; omega
  refine ⟨fun h0 => h.head (by omega), fun j hj => ?_, fun j hj => ?_, by have := h.size; omega⟩
  · rw [e j (by omega)]; exact h.cell j (by omega)
  · rw [e j (by omega)]; exact h.ok j (by omega)
theorem anyB_congr {p p' : Nat → Bool} {n : Nat} (h : ∀ k, k < n → p k = p' k) : anyB p n = anyB p' n := by
  induction n with
  | zero => rfl
  | succ n ih => simp only [anyB]; rw [ih (fun k hk => h k (by omega)), h n (by omega)]

/-- What is handed back: a row of integers of the call's own. -/
def ResZ (w : World) (r : List Int) (e : Ending) (w' : World) : Prop := ∃ v, e = .returned v ∧ HasZ w' w.heap.size v r ∧ Below w.heap.size w w'

set_option maxHeartbeats 2000000 in
theorem tell100 (g0 : Nat) (x y : Ent) (w : World) (hx : x.Ok w) (hy : y.Ok w) (h0 : w.heap[g0]? = some (.cells #[.int .i64 y.ep, .int .i64 y.pr, .slice y.aV y.V.length y.cV, .slice y.aM y.M.length y.cM, .slice y.aA y.A.length y.cA, .int .i64 y.h] 41 (0, 0))) :
    Calls Try.prog 100 #[.agg #[.int .i64 x.ep, .int .i64 x.pr, .slice x.aV x.V.length x.cV, .slice x.aM x.M.length x.cM, .slice x.aA x.A.length x.cA, .int .i64 x.h], .pointer (some ⟨g0, 0, none⟩)] w fun e w' => e = .returned (.bool (covE x.said y.said)) ∧ Below w.heap.size w w' := by
  obtain ⟨W1, hW1⟩ : ∃ W1, W1 = w.alloc (.cells #[.int .i64 x.ep, .int .i64 x.pr, .slice x.aV x.V.length x.cV, .slice x.aM x.M.length x.cM, .slice x.aA x.A.length x.cA, .int .i64 x.h] 41) := ⟨_, rfl⟩
  have B1 : Below w.heap.size w W1 := by subst hW1; exact below_alloc1 _ _
  have ox := hx.below B1
  have oy := hy.below B1
  have hc := covI (M := x.M) (M' := y.M) ox.wV oy.wV x.aV x.aM _ _ x.cV _ _ x.cM y.aV y.aM _ _ y.cV _ _ y.cM W1 ox.rV ox.rM oy.rV oy.rM
  have k0 := (B1.block _ (blk_lt h0)).trans h0
  obtain ⟨r0, r1, r2, r3, r4, r5⟩ := six k0
  by_cases he : x.ep = y.ep
  · have he' : (x.ep == y.ep) = true := by simp [he]
    have hd : covE x.said y.said = covB x.V x.M y.V y.M := by
      show (decide (x.ep = y.ep) && covB x.V x.M y.V y.M) = _
      rw [decide_eq_true he]; rfl
    rw [hd]
    clear he hd
    rw [hW1] at r0 r1 r2 r3 r4 r5
    go_enter Try.func100, Try.ntmps100
    go_wp2_with (go_at_call 15; rw [← hW1]; clear hW1; refine hc.mono ?_; rintro x1 wa ⟨rfl, hb⟩)
    go_ret
    exact ⟨ret_bool (by simp), Rw.next B1 hb⟩
  · have he' : (x.ep == y.ep) = false := by simpa using he
    have hd : covE x.said y.said = false := by
      show (decide (x.ep = y.ep) && covB x.V x.M y.V y.M) = _
      rw [decide_eq_false he]; rfl
    rw [hd]
    clear hd
    rw [hW1] at r0 r1 r2 r3 r4 r5
    go_enter Try.func100, Try.ntmps100
    go_wp2
    go_ret
    exact ⟨ret_bool (by simp), by rw [← hW1]; exact B1⟩

set_option maxHeartbeats 8000000 in
theorem hidI (q : Int) (a : Option Addr) (b off cap : Nat) (Q : List Ent) (w : World) (h : Rd w a b off Q) (hcap : Q.length ≤ cap) (hcm : cap ≤ 4611686018427387904) (r : List Int) (hr : HidR q (Q.map Ent.said) r) :
    Calls Try.prog 29 #[.agg #[.int .i64 q, .slice a Q.length cap]] w (ResZ w r) := by
  obtain ⟨W1, hW1⟩ : ∃ W1, W1 = w.alloc (.cells #[.int .i64 q, .slice a Q.length cap] 38) := ⟨_, rfl⟩
  have B1 : Below w.heap.size w W1 := by subst hW1; exact below_alloc1 _ _
  have k0 : W1.heap[w.heap.size]? = some (.cells #[.int .i64 q, .slice a Q.length cap] 38 (0, 0)) := by subst hW1; exact at_new rfl
  replace h := h.below B1
  obtain ⟨R, hR⟩ := em_bool (TabP q (Q.map Ent.said))
  have ht := fun W hW => tabI q a b off cap Q W hW R hR
  cases R
  · obtain rfl : r = [] := by
      rcases hr with ⟨h1, _⟩ | ⟨_, h1⟩
      · exact absurd (hR.2 h1) (by decide)
      · exact h1
    go_enter Try.func29, Try.ntmps29
    go_wp2_with (go_at_call 26; rw [← hW1]; clear hW1; refine (ht _ h).mono ?_; rintro x wa ⟨rfl, hb⟩)
    go_ret
    exact ⟨_, rfl, HasZ.nil _ _, Rw.next B1 hb⟩
  have hrr : r = hidL (Q.map Ent.said) Q.length := by
    rcases hr with ⟨_, h1⟩ | ⟨h1, _⟩
    · simpa using h1
    · exact absurd (hR.1 rfl) h1
  have hn4 : Q.length ≤ 400 := by
    have t := hR.1 rfl
    have t1 := t.len
    have t2 := t.q1
    simp only [List.length_map] at t1
    omega
  have HRr : Hid (r = hidL (Q.map Ent.said) Q.length) := hrr
  clear hr hrr hR
  obtain ⟨n, hn⟩ : ∃ n, n = Q.length := ⟨_, rfl⟩
  rw [← hn] at hW1 k0 ht hcap hn4 ⊢
  have HN : Hid (n = Q.length) := hn
  clear hn
  go_enter Try.func29, Try.ntmps29
  go_wp2_with (go_at_call 26; rw [← hW1]; clear hW1; refine (ht _ h).mono ?_; rintro x wa ⟨rfl, hb⟩; replace k0 := (hb.block _ (blk_lt k0)).trans k0; replace h := h.below hb; replace B1 := Rw.next B1 hb; clear hb ht; obtain ⟨p0, p1⟩ := Pm.two k0)
  clear p0 p1
  have HD : Hid (∀ W, Below wa.heap.size wa W → Rd W a b off Q) := fun W hW => h.below hW
  obtain ⟨hh, hc, ho, hs⟩ := h
  rw [← HN.out] at hh hc ho hs
  have lw := blk_lt k0
  go_loopw [13, 3] (fun u v wr => ∃ i : Nat, i ≤ n ∧ u = .int .i64 i ∧ Below w.heap.size w wr ∧ Below wa.heap.size wa wr ∧ HasZ wr wa.heap.size v (hidL (Q.map Ent.said) i)) (fun u _ _ => n - (intOf u).toNat)
  case atStart => exact ⟨0, Nat.zero_le _, rfl, B1, Below.refl _ _, HasZ.nil _ _⟩
  case round =>
    clear B1
    obtain ⟨i, hi, rfl, hbel, hbb, hown⟩ := hrel
    obtain ⟨p0, p1⟩ := Pm.two ((hbb.block _ lw).trans k0)
    by_cases hlt : i < n
    · obtain rfl := hh (by omega)
      have hnz : (i : Int) < (n : Int) := by omega
      obtain ⟨c0, c1, c2, c3, c4, c5⟩ := ((hc i hlt).of hbb (At6.lt (hc i hlt))).six
      have hrd := rd_take (HD.out wr hbb) (i := i) (by have := HN.out; omega)
      have lt : (Q.take i).length = i := by have := HN.out; simp; omega
      have ok := (ho i hlt).of hbb (Nat.le_refl _)
      obtain ⟨y, hy⟩ : ∃ y, y = Q.getD i e0 := ⟨_, rfl⟩
      rw [← hy] at c0 c1 c2 c3 c4 c5 ok
      have HY : Hid (Q.getD i e0 = y) := hy.symm
      clear hy hc ho hh
      obtain ⟨W2, hW2⟩ : ∃ W2, W2 = wr.alloc (.cells #[.int .i64 y.ep, .int .i64 y.pr, .slice y.aV y.V.length y.cV, .slice y.aM y.M.length y.cM, .slice y.aA y.A.length y.cA, .int .i64 y.h] 41) := ⟨_, rfl⟩
      have b2 : Below wr.heap.size wr W2 := by subst hW2; exact below_alloc1 _ _
      have kY : W2.heap[wr.heap.size]? = some (.cells #[.int .i64 y.ep, .int .i64 y.pr, .slice y.aV y.V.length y.cV, .slice y.aM y.M.length y.cM, .slice y.aA y.A.length y.cA, .int .i64 y.h] 41 (0, 0)) := by subst hW2; exact at_new rfl
      have lW : w.heap.size < wr.heap.size := Nat.lt_of_lt_of_le lw hbb.size
      have hrd2 := hrd.below b2
      have oky := ok.below b2
      have hcon := contains100 (some ⟨b, off, none⟩) b off cap wr.heap.size (Q.take i) (fun k => covE ((Q.take i).getD k e0).said y.said) W2 hrd2 (fun k hk W hW => tell100 _ _ y W ((hrd2.ok k hk).of hW (Nat.le_refl _)) (oky.below hW) ((hW.block _ (blk_lt kY)).trans kY))
      rw [lt] at hcon
      have hpe : anyB (fun k => covE ((Q.take i).getD k e0).said y.said) i = hidP (Q.map Ent.said) i := by
        unfold hidP
        refine anyB_congr fun k hk => ?_
        rw [said_getD, said_getD, HY.out]
        have : (Q.take i).getD k e0 = Q.getD k e0 := by simp [List.getD, List.getElem?_take, hk]
        rw [this]
      rw [hpe] at hcon
      have own2 := hown.below b2
      have bel2 := Rw.next hbel b2
      have bb2 := Rw.next hbb b2
      have hil : i ≤ cap := by omega
      have hll := hidL_len (Q.map Ent.said) i
      clear hrd hrd2 ok oky lt hpe b2
      cases hp : hidP (Q.map Ent.said) i
      · rw [hp] at hcon
        have HP : Hid (hidP (Q.map Ent.said) i = false) := hp
        clear hp
        go_wp2_with (go_at_call 101; rw [← hW2]; clear hW2; refine hcon.mono ?_; rintro x wc ⟨rfl, hb⟩)
        go_roundw
        case rel => exact ⟨i + 1, by omega, by go_num, Rw.next bel2 hb, Rw.next bb2 hb, by simp only [hidL]; rw [HP.out]; exact own2.below hb⟩
        case measure => simp [intOf]; omega
      · rw [hp] at hcon
        have HP : Hid (hidP (Q.map Ent.said) i = true) := hp
        clear hp
        go_wp2_with (first
          | (go_at_call 101; rw [← hW2]; clear hW2; refine hcon.mono ?_; rintro x wc ⟨rfl, hb⟩; replace own2 := own2.below hb; replace bel2 := Rw.next bel2 hb; replace bb2 := Rw.next bb2 hb; clear hb)
          | (at_builtin; refine wpList_appZ rfl _ _ rfl wa.heap.size _ (hidL (Q.map Ent.said) i) [(i : Int)] rfl (own2.below (below_alloc1 _ _)) ⟨wc.heap.size, 0, none⟩ wc.heap.size 0 1 rfl (rd_one _ _) (by simp; omega) (by have := bb2.size; simp; omega) ?_; intro v' wd own3 hg3))
        go_roundw
        case rel => exact ⟨i + 1, by omega, by go_num, grown_below (own2.below (below_alloc1 _ _)) (Rw.next bel2 (below_alloc1 _ _)) hg3 (by have := hbel.size; have := hbb.size; omega), grown_below (own2.below (below_alloc1 _ _)) (Rw.next bb2 (below_alloc1 _ _)) hg3 (Nat.le_refl _), by simp only [hidL]; rw [HP.out]; exact own3⟩
        case measure => simp [intOf]; omega
    · obtain rfl : i = n := by omega
      go_wp2
      go_ret
      exact ⟨_, rfl, by rw [HRr.out, ← HN.out]; exact hown.mono (Nat.le_of_lt lw), hbel⟩

set_option maxHeartbeats 16000000 in
theorem hidS (q : Int) (a : Option Addr) (b off cap : Nat) (Q : List Ent) (w : World) (h : Rd w a b off Q) (r : List Int) (hr : HidR q (Q.map Ent.said) r) :
    Calls Try.prog 32 #[.agg #[.int .i64 q, .slice a Q.length cap]] w (ResZ w r) := by
  have HD : Hid (Rd w a b off Q) := h
  obtain ⟨W1, hW1⟩ : ∃ W1, W1 = (w.alloc (.cells #[.int .i64 q, .slice a Q.length cap] 38)).alloc (.cells #[] 3) := ⟨_, rfl⟩
  have B1 : Below w.heap.size w W1 := by subst hW1; exact Rw.next (below_alloc1 _ _) (below_alloc1 _ _)
  have k0 : W1.heap[w.heap.size]? = some (.cells #[.int .i64 q, .slice a Q.length cap] 38 (0, 0)) := by subst hW1; rw [at_old (by simp), at_new rfl]
  have z0 : HasZ W1 (w.heap.size + 1) (.slice (some ⟨w.heap.size + 1, 0, none⟩) 0 0) [] := by
    subst hW1
    have := (Ht.own_emptyN (w.alloc (.cells #[.int .i64 q, .slice a Q.length cap] 38))).1
    simpa [HasZ] using this
  have kE : W1.heap[w.heap.size + 1]? = some (.cells #[] 3 (0, 0)) := by subst hW1; exact at_new (by simp)
  replace h := h.below B1
  obtain ⟨R, hR⟩ := em_bool (TabP q (Q.map Ent.said))
  have ht := fun W hW => tabS q a b off cap Q W hW R hR
  cases R
  · obtain rfl : r = [] := by
      rcases hr with ⟨h1, _⟩ | ⟨_, h1⟩
      · exact absurd (hR.2 h1) (by decide)
      · exact h1
    go_enter Try.func32, Try.ntmps32
    go_wp2_with (go_at_call 39; rw [← hW1]; clear hW1; refine (ht _ h).mono ?_; rintro x wa ⟨rfl, hb⟩)
    go_ret
    exact ⟨_, rfl, (z0.below hb).mono (by omega), Rw.next B1 hb⟩
  have hrr : r = hidL (Q.map Ent.said) Q.length := by
    rcases hr with ⟨_, h1⟩ | ⟨h1, _⟩
    · simpa using h1
    · exact absurd (hR.1 rfl) h1
  have hn4 : Q.length ≤ 400 := by
    have t := hR.1 rfl
    have t1 := t.len
    have t2 := t.q1
    simp only [List.length_map] at t1
    omega
  have HRr : Hid (r = hidL (Q.map Ent.said) Q.length) := hrr
  clear hr hrr hR
  obtain ⟨n, hn⟩ : ∃ n, n = Q.length := ⟨_, rfl⟩
  rw [← hn] at hW1 k0 ht hn4 ⊢
  have HN : Hid (n = Q.length) := hn
  clear hn
  go_enter Try.func32, Try.ntmps32
  go_wp2_with (go_at_call 39; rw [← hW1]; clear hW1; refine (ht _ h).mono ?_; rintro x wa ⟨rfl, hb⟩; replace k0 := (hb.block _ (blk_lt k0)).trans k0; replace h := h.below hb; replace B1 := Rw.next B1 hb; replace z0 := z0.below hb; clear hb ht; obtain ⟨p0, p1⟩ := Pm.two k0)
  clear p0 p1 h
  obtain ⟨hh, hc, ho, hs⟩ := HD.out
  rw [← HN.out] at hh hc ho hs
  go_loopw [15, 3] (fun u v wr => ∃ i : Nat, i ≤ n ∧ u = .int .i64 i ∧ Below w.heap.size w wr ∧ wr.heap[w.heap.size]? = some (.cells #[.int .i64 q, .slice a n cap] 38 (0, 0)) ∧ HasZ wr (w.heap.size + 1) v (hidL (Q.map Ent.said) i)) (fun u _ _ => n - (intOf u).toNat)
  case atStart => exact ⟨0, Nat.zero_le _, rfl, B1, k0, z0⟩
  case round =>
    clear B1 k0 z0
    obtain ⟨i, hi, rfl, hbel, kT, hown⟩ := hrel
    obtain ⟨p0, p1⟩ := Pm.two kT
    by_cases hlt : i < n
    · obtain rfl := hh (by omega)
      have hnz : (i : Int) < (n : Int) := by omega
      obtain ⟨y, hy⟩ : ∃ y, y = Q.getD i e0 := ⟨_, rfl⟩
      have HY : Hid (Q.getD i e0 = y) := hy.symm
      clear hy p0 p1
      have hll := hidL_len (Q.map Ent.said) i
      go_wp2
      go_loopw [6, 5] (fun u v wr => ∃ k : Nat, k ≤ i ∧ u = .int .i64 k ∧ v = .bool (anyB (fun k => covE (Q.getD k e0).said y.said) k) ∧ Below w.heap.size w wr ∧ wr.heap[w.heap.size]? = some (.cells #[.int .i64 q, .slice (some ⟨b, off, none⟩) n cap] 38 (0, 0)) ∧ HasZ wr (w.heap.size + 1) u3 (hidL (Q.map Ent.said) i)) (fun u _ _ => i - (intOf u).toNat)
      case atStart => exact ⟨0, Nat.zero_le _, rfl, rfl, hbel, kT, hown⟩
      case round =>
        clear hbel kT hown
        obtain ⟨k, hk, rfl, rfl, hbel, kT, hown⟩ := hrel
        obtain ⟨p0, p1⟩ := Pm.two kT
        have bt := blk_lt kT
        by_cases hki : k < i
        · have hkz : (k : Int) < (i : Int) := by omega
          have hkn : (k : Int) < (n : Int) := by omega
          obtain ⟨c0, c1, c2, c3, c4, c5⟩ := ((hc k (by omega)).of hbel (At6.lt (hc k (by omega)))).six
          obtain ⟨d0, d1, d2, d3, d4, d5⟩ := ((hc i hlt).of hbel (At6.lt (hc i hlt))).six
          have okx := ((ho k (by omega)).of hbel (Nat.le_refl _)).below ((Below.refl wr.heap.size wr).drew)
          have oky := ((ho i hlt).of hbel (Nat.le_refl _)).below ((Below.refl wr.heap.size wr).drew)
          have bl : b < wr.heap.size := World.block_lt_of_cell? _ _ c0
          rw [HY.out] at d0 d1 d2 d3 d4 d5 oky
          obtain ⟨x, hx⟩ : ∃ x, x = Q.getD k e0 := ⟨_, rfl⟩
          rw [← hx] at c0 c1 c2 c3 c4 c5 okx
          have HX : Hid (Q.getD k e0 = x) := hx.symm
          clear hx
          have hcall := covS (M := x.M) (M' := y.M) okx.wV oky.wV x.aV x.aM _ _ x.cV _ _ x.cM y.aV y.aM _ _ y.cV _ _ y.cM wr.drew okx.rV okx.rM oky.rV oky.rM
          clear okx oky
          have stp : ∀ c, covE x.said y.said = c → (anyB (fun k => covE (Q.getD k e0).said y.said) k || c) = anyB (fun k => covE (Q.getD k e0).said y.said) (k + 1) := fun c hcc => by
            simp only [anyB]; rw [HX.out, hcc]
          have HSp : Hid (∀ c, covE x.said y.said = c → (anyB (fun k => covE (Q.getD k e0).said y.said) k || c) = anyB (fun k => covE (Q.getD k e0).said y.said) (k + 1)) := stp
          clear stp
          by_cases he : x.ep = y.ep
          · have he' : (x.ep == y.ep) = true := by simp [he]
            have HEp : Hid (x.ep = y.ep) := he
            clear he
            cases hcv : covB x.V x.M y.V y.M
            · rw [hcv] at hcall
              have HCv : Hid (covB x.V x.M y.V y.M = false) := hcv
              clear hcv
              go_wp2
              refine wp_region_held_drew (S := (fun w' => w'.cell? ⟨w.heap.size, 0, none⟩ = some (.int .i64 q) ∧ w'.cell? ⟨w.heap.size, 1, none⟩ = some (.slice (some ⟨b, off, none⟩) n cap) ∧ w'.cell? ⟨b, off + k * 6, none⟩ = some (.int .i64 x.ep) ∧ w'.cell? ⟨b, off + k * 6 + 1, none⟩ = some (.int .i64 x.pr) ∧ w'.cell? ⟨b, off + k * 6 + 2, none⟩ = some (.slice x.aV x.V.length x.cV) ∧ w'.cell? ⟨b, off + k * 6 + 3, none⟩ = some (.slice x.aM x.M.length x.cM) ∧ w'.cell? ⟨b, off + k * 6 + 4, none⟩ = some (.slice x.aA x.A.length x.cA) ∧ w'.cell? ⟨b, off + k * 6 + 5, none⟩ = some (.int .i64 x.h) ∧ w'.cell? ⟨b, off + i * 6, none⟩ = some (.int .i64 y.ep) ∧ w'.cell? ⟨b, off + i * 6 + 1, none⟩ = some (.int .i64 y.pr) ∧ w'.cell? ⟨b, off + i * 6 + 2, none⟩ = some (.slice y.aV y.V.length y.cV) ∧ w'.cell? ⟨b, off + i * 6 + 3, none⟩ = some (.slice y.aM y.M.length y.cM) ∧ w'.cell? ⟨b, off + i * 6 + 4, none⟩ = some (.slice y.aA y.A.length y.cA) ∧ w'.cell? ⟨b, off + i * 6 + 5, none⟩ = some (.int .i64 y.h))) (by kernel_rfl) ⟨p0, p1, c0, c1, c2, c3, c4, c5, d0, d1, d2, d3, d4, d5⟩ (fun hHeld => ?_)
              refine take (i := 0) (d := some 23) (v := .pointer (some ⟨w.heap.size, 1, none⟩)) rfl (by kernel_rfl) (by kernel_rfl) (by kernel_rfl) (by kernel_rfl) (fun _ _ _ h => h) (Or.inl ⟨by rfl, by intro w hSw; go_simp⟩) hHeld ?_
              simp only [Act.put, List.setIfInBounds_toArray, List.set_cons_zero, List.set_cons_succ]
              refine take (i := 1) (d := some 24) (v := .slice (some ⟨b, off, none⟩) n cap) rfl (by kernel_rfl) (by kernel_rfl) (by kernel_rfl) (by kernel_rfl) (fun _ _ _ h => h) (Or.inl ⟨by rfl, by intro w hSw; obtain ⟨p0, p1, c0, c1, c2, c3, c4, c5, d0, d1, d2, d3, d4, d5⟩ := hSw; go_simp⟩) hHeld ?_
              simp only [Act.put, List.setIfInBounds_toArray, List.set_cons_zero, List.set_cons_succ]
              refine take (i := 2) (d := some 25) (v := .int .i64 k) rfl (by kernel_rfl) (by kernel_rfl) (by kernel_rfl) (by kernel_rfl) (fun _ _ _ h => h) (Or.inl ⟨by rfl, by intro w hSw; go_simp⟩) hHeld ?_
              simp only [Act.put, List.setIfInBounds_toArray, List.set_cons_zero, List.set_cons_succ]
              refine take (i := 3) (d := some 26) (v := .pointer (some ⟨b, off + k * 6, none⟩)) rfl (by kernel_rfl) (by kernel_rfl) (by kernel_rfl) (by kernel_rfl) (fun _ _ _ h => h) (Or.inl ⟨by rfl, by intro w hSw; go_simp⟩) hHeld ?_
              simp only [Act.put, List.setIfInBounds_toArray, List.set_cons_zero, List.set_cons_succ]
              refine take (i := 4) (d := some 27) (v := .pointer (some ⟨b, off + k * 6, none⟩)) rfl (by kernel_rfl) (by kernel_rfl) (by kernel_rfl) (by kernel_rfl) (fun _ _ _ h => h) (Or.inl ⟨by rfl, by intro w hSw; go_simp⟩) hHeld ?_
              simp only [Act.put, List.setIfInBounds_toArray, List.set_cons_zero, List.set_cons_succ]
              refine take (i := 5) (d := some 28) (v := .int .i64 x.ep) rfl (by kernel_rfl) (by kernel_rfl) (by kernel_rfl) (by kernel_rfl) (fun _ _ _ h => h) (Or.inl ⟨by rfl, by intro w hSw; obtain ⟨p0, p1, c0, c1, c2, c3, c4, c5, d0, d1, d2, d3, d4, d5⟩ := hSw; go_simp⟩) hHeld ?_
              simp only [Act.put, List.setIfInBounds_toArray, List.set_cons_zero, List.set_cons_succ]
              refine take (i := 6) (d := some 29) (v := .pointer (some ⟨w.heap.size, 1, none⟩)) rfl (by kernel_rfl) (by kernel_rfl) (by kernel_rfl) (by kernel_rfl) (fun _ _ _ h => h) (Or.inl ⟨by rfl, by intro w hSw; go_simp⟩) hHeld ?_
              simp only [Act.put, List.setIfInBounds_toArray, List.set_cons_zero, List.set_cons_succ]
              refine take (i := 7) (d := some 30) (v := .slice (some ⟨b, off, none⟩) n cap) rfl (by kernel_rfl) (by kernel_rfl) (by kernel_rfl) (by kernel_rfl) (fun _ _ _ h => h) (Or.inl ⟨by rfl, by intro w hSw; obtain ⟨p0, p1, c0, c1, c2, c3, c4, c5, d0, d1, d2, d3, d4, d5⟩ := hSw; go_simp⟩) hHeld ?_
              simp only [Act.put, List.setIfInBounds_toArray, List.set_cons_zero, List.set_cons_succ]
              refine take (i := 8) (d := some 31) (v := .int .i64 i) rfl (by kernel_rfl) (by kernel_rfl) (by kernel_rfl) (by kernel_rfl) (fun _ _ _ h => h) (Or.inl ⟨by rfl, by intro w hSw; go_simp⟩) hHeld ?_
              simp only [Act.put, List.setIfInBounds_toArray, List.set_cons_zero, List.set_cons_succ]
              refine take (i := 9) (d := some 32) (v := .pointer (some ⟨b, off + i * 6, none⟩)) rfl (by kernel_rfl) (by kernel_rfl) (by kernel_rfl) (by kernel_rfl) (fun _ _ _ h => h) (Or.inl ⟨by rfl, by intro w hSw; go_simp⟩) hHeld ?_
              simp only [Act.put, List.setIfInBounds_toArray, List.set_cons_zero, List.set_cons_succ]
              refine take (i := 10) (d := some 33) (v := .pointer (some ⟨b, off + i * 6, none⟩)) rfl (by kernel_rfl) (by kernel_rfl) (by kernel_rfl) (by kernel_rfl) (fun _ _ _ h => h) (Or.inl ⟨by rfl, by intro w hSw; go_simp⟩) hHeld ?_
              simp only [Act.put, List.setIfInBounds_toArray, List.set_cons_zero, List.set_cons_succ]
              refine take (i := 11) (d := some 34) (v := .int .i64 y.ep) rfl (by kernel_rfl) (by kernel_rfl) (by kernel_rfl) (by kernel_rfl) (fun _ _ _ h => h) (Or.inl ⟨by rfl, by intro w hSw; obtain ⟨p0, p1, c0, c1, c2, c3, c4, c5, d0, d1, d2, d3, d4, d5⟩ := hSw; go_simp⟩) hHeld ?_
              simp only [Act.put, List.setIfInBounds_toArray, List.set_cons_zero, List.set_cons_succ]
              refine take (i := 12) (d := some 35) (v := .bool true) rfl (by kernel_rfl) (by kernel_rfl) (by kernel_rfl) (by kernel_rfl) (fun _ _ _ h => h) (Or.inl ⟨by rfl, by intro w hSw; go_simp⟩) hHeld ?_
              simp only [Act.put, List.setIfInBounds_toArray, List.set_cons_zero, List.set_cons_succ]
              refine take (i := 13) (d := some 36) (v := .bool true) rfl (by kernel_rfl) (by kernel_rfl) (by kernel_rfl) (by kernel_rfl) (fun _ _ _ h => h) (Or.inl ⟨by rfl, by intro w hSw; go_simp⟩) hHeld ?_
              simp only [Act.put, List.setIfInBounds_toArray, List.set_cons_zero, List.set_cons_succ]
              refine take (i := 14) (d := some 37) (v := .pointer (some ⟨w.heap.size, 1, none⟩)) rfl (by kernel_rfl) (by kernel_rfl) (by kernel_rfl) (by kernel_rfl) (fun _ _ _ h => h) (Or.inl ⟨by rfl, by intro w hSw; go_simp⟩) hHeld ?_
              simp only [Act.put, List.setIfInBounds_toArray, List.set_cons_zero, List.set_cons_succ]
              refine take (i := 15) (d := some 38) (v := .slice (some ⟨b, off, none⟩) n cap) rfl (by kernel_rfl) (by kernel_rfl) (by kernel_rfl) (by kernel_rfl) (fun _ _ _ h => h) (Or.inl ⟨by rfl, by intro w hSw; obtain ⟨p0, p1, c0, c1, c2, c3, c4, c5, d0, d1, d2, d3, d4, d5⟩ := hSw; go_simp⟩) hHeld ?_
              simp only [Act.put, List.setIfInBounds_toArray, List.set_cons_zero, List.set_cons_succ]
              refine take (i := 16) (d := some 39) (v := .int .i64 k) rfl (by kernel_rfl) (by kernel_rfl) (by kernel_rfl) (by kernel_rfl) (fun _ _ _ h => h) (Or.inl ⟨by rfl, by intro w hSw; go_simp⟩) hHeld ?_
              simp only [Act.put, List.setIfInBounds_toArray, List.set_cons_zero, List.set_cons_succ]
              refine take (i := 17) (d := some 40) (v := .pointer (some ⟨b, off + k * 6, none⟩)) rfl (by kernel_rfl) (by kernel_rfl) (by kernel_rfl) (by kernel_rfl) (fun _ _ _ h => h) (Or.inl ⟨by rfl, by intro w hSw; go_simp⟩) hHeld ?_
              simp only [Act.put, List.setIfInBounds_toArray, List.set_cons_zero, List.set_cons_succ]
              refine take (i := 18) (d := some 41) (v := .pointer (some ⟨b, off + k * 6 + 2, none⟩)) rfl (by kernel_rfl) (by kernel_rfl) (by kernel_rfl) (by kernel_rfl) (fun _ _ _ h => h) (Or.inl ⟨by rfl, by intro w hSw; go_simp⟩) hHeld ?_
              simp only [Act.put, List.setIfInBounds_toArray, List.set_cons_zero, List.set_cons_succ]
              refine take (i := 19) (d := some 42) (v := .agg #[.slice x.aV x.V.length x.cV, .slice x.aM x.M.length x.cM]) rfl (by kernel_rfl) (by kernel_rfl) (by kernel_rfl) (by kernel_rfl) (fun _ _ _ h => h) (Or.inl ⟨by rfl, by intro w hSw; obtain ⟨p0, p1, c0, c1, c2, c3, c4, c5, d0, d1, d2, d3, d4, d5⟩ := hSw; go_simp⟩) hHeld ?_
              simp only [Act.put, List.setIfInBounds_toArray, List.set_cons_zero, List.set_cons_succ]
              refine take (i := 20) (d := some 43) (v := .pointer (some ⟨w.heap.size, 1, none⟩)) rfl (by kernel_rfl) (by kernel_rfl) (by kernel_rfl) (by kernel_rfl) (fun _ _ _ h => h) (Or.inl ⟨by rfl, by intro w hSw; go_simp⟩) hHeld ?_
              simp only [Act.put, List.setIfInBounds_toArray, List.set_cons_zero, List.set_cons_succ]
              refine take (i := 21) (d := some 44) (v := .slice (some ⟨b, off, none⟩) n cap) rfl (by kernel_rfl) (by kernel_rfl) (by kernel_rfl) (by kernel_rfl) (fun _ _ _ h => h) (Or.inl ⟨by rfl, by intro w hSw; obtain ⟨p0, p1, c0, c1, c2, c3, c4, c5, d0, d1, d2, d3, d4, d5⟩ := hSw; go_simp⟩) hHeld ?_
              simp only [Act.put, List.setIfInBounds_toArray, List.set_cons_zero, List.set_cons_succ]
              refine take (i := 22) (d := some 45) (v := .int .i64 i) rfl (by kernel_rfl) (by kernel_rfl) (by kernel_rfl) (by kernel_rfl) (fun _ _ _ h => h) (Or.inl ⟨by rfl, by intro w hSw; go_simp⟩) hHeld ?_
              simp only [Act.put, List.setIfInBounds_toArray, List.set_cons_zero, List.set_cons_succ]
              refine take (i := 23) (d := some 46) (v := .pointer (some ⟨b, off + i * 6, none⟩)) rfl (by kernel_rfl) (by kernel_rfl) (by kernel_rfl) (by kernel_rfl) (fun _ _ _ h => h) (Or.inl ⟨by rfl, by intro w hSw; go_simp⟩) hHeld ?_
              simp only [Act.put, List.setIfInBounds_toArray, List.set_cons_zero, List.set_cons_succ]
              refine take (i := 24) (d := some 47) (v := .pointer (some ⟨b, off + i * 6 + 2, none⟩)) rfl (by kernel_rfl) (by kernel_rfl) (by kernel_rfl) (by kernel_rfl) (fun _ _ _ h => h) (Or.inl ⟨by rfl, by intro w hSw; go_simp⟩) hHeld ?_
              simp only [Act.put, List.setIfInBounds_toArray, List.set_cons_zero, List.set_cons_succ]
              refine take (i := 25) (d := some 48) (v := .agg #[.slice y.aV y.V.length y.cV, .slice y.aM y.M.length y.cM]) rfl (by kernel_rfl) (by kernel_rfl) (by kernel_rfl) (by kernel_rfl) (fun _ _ _ h => h) (Or.inl ⟨by rfl, by intro w hSw; obtain ⟨p0, p1, c0, c1, c2, c3, c4, c5, d0, d1, d2, d3, d4, d5⟩ := hSw; go_simp⟩) hHeld ?_
              simp only [Act.put, List.setIfInBounds_toArray, List.set_cons_zero, List.set_cons_succ]
              refine wpAnyH_ready (rs := [26]) (by kernel_rfl) (by simp) (Rg.call2 (i := 26) rfl (by rfl) 16 (.tmp 42) (.tmp 48) 25 25 (by kernel_rfl) 49 (by kernel_rfl) _ _ (by kernel_rfl) (by kernel_rfl) (fun _ => rfl) (hcall) ?_ AllReadyH.nil)
              rintro e1 w1 ⟨rfl, hb⟩
              refine ⟨_, rfl, ⟨(hb.cell (by exact bt)).trans p0, (hb.cell (by exact bt)).trans p1, (hb.cell (by exact bl)).trans c0, (hb.cell (by exact bl)).trans c1, (hb.cell (by exact bl)).trans c2, (hb.cell (by exact bl)).trans c3, (hb.cell (by exact bl)).trans c4, (hb.cell (by exact bl)).trans c5, (hb.cell (by exact bl)).trans d0, (hb.cell (by exact bl)).trans d1, (hb.cell (by exact bl)).trans d2, (hb.cell (by exact bl)).trans d3, (hb.cell (by exact bl)).trans d4, (hb.cell (by exact bl)).trans d5⟩, fun hHeld => ?_⟩
              simp only [Act.put, List.setIfInBounds_toArray, List.set_cons_zero, List.set_cons_succ]
              refine take (i := 27) (d := some 50) (v := .bool false) rfl (by kernel_rfl) (by kernel_rfl) (by kernel_rfl) (by kernel_rfl) (fun _ _ _ h => h) (Or.inl ⟨by rfl, by intro w hSw; go_simp⟩) hHeld ?_
              simp only [Act.put, List.setIfInBounds_toArray, List.set_cons_zero, List.set_cons_succ]
              refine wpAnyH_done (by kernel_rfl) ?_ _
              go_wp2
              go_roundw
              case rel => exact ⟨k + 1, by omega, by go_num, by rw [← HSp.out false (show (decide (x.ep = y.ep) && covB x.V x.M y.V y.M) = false by rw [HCv.out]; simp)]; simp, Rw.next (by repeat (first | exact hbel | apply Below.drew)) hb, (hb.block _ bt).trans kT, (hown.below ((Below.refl _ _).drew)).below hb⟩
              case measure => simp [intOf]; omega
            · rw [hcv] at hcall
              have HCv : Hid (covB x.V x.M y.V y.M = true) := hcv
              clear hcv
              go_wp2
              refine wp_region_held_drew (S := (fun w' => w'.cell? ⟨w.heap.size, 0, none⟩ = some (.int .i64 q) ∧ w'.cell? ⟨w.heap.size, 1, none⟩ = some (.slice (some ⟨b, off, none⟩) n cap) ∧ w'.cell? ⟨b, off + k * 6, none⟩ = some (.int .i64 x.ep) ∧ w'.cell? ⟨b, off + k * 6 + 1, none⟩ = some (.int .i64 x.pr) ∧ w'.cell? ⟨b, off + k * 6 + 2, none⟩ = some (.slice x.aV x.V.length x.cV) ∧ w'.cell? ⟨b, off + k * 6 + 3, none⟩ = some (.slice x.aM x.M.length x.cM) ∧ w'.cell? ⟨b, off + k * 6 + 4, none⟩ = some (.slice x.aA x.A.length x.cA) ∧ w'.cell? ⟨b, off + k * 6 + 5, none⟩ = some (.int .i64 x.h) ∧ w'.cell? ⟨b, off + i * 6, none⟩ = some (.int .i64 y.ep) ∧ w'.cell? ⟨b, off + i * 6 + 1, none⟩ = some (.int .i64 y.pr) ∧ w'.cell? ⟨b, off + i * 6 + 2, none⟩ = some (.slice y.aV y.V.length y.cV) ∧ w'.cell? ⟨b, off + i * 6 + 3, none⟩ = some (.slice y.aM y.M.length y.cM) ∧ w'.cell? ⟨b, off + i * 6 + 4, none⟩ = some (.slice y.aA y.A.length y.cA) ∧ w'.cell? ⟨b, off + i * 6 + 5, none⟩ = some (.int .i64 y.h))) (by kernel_rfl) ⟨p0, p1, c0, c1, c2, c3, c4, c5, d0, d1, d2, d3, d4, d5⟩ (fun hHeld => ?_)
              refine take (i := 0) (d := some 23) (v := .pointer (some ⟨w.heap.size, 1, none⟩)) rfl (by kernel_rfl) (by kernel_rfl) (by kernel_rfl) (by kernel_rfl) (fun _ _ _ h => h) (Or.inl ⟨by rfl, by intro w hSw; go_simp⟩) hHeld ?_
              simp only [Act.put, List.setIfInBounds_toArray, List.set_cons_zero, List.set_cons_succ]
              refine take (i := 1) (d := some 24) (v := .slice (some ⟨b, off, none⟩) n cap) rfl (by kernel_rfl) (by kernel_rfl) (by kernel_rfl) (by kernel_rfl) (fun _ _ _ h => h) (Or.inl ⟨by rfl, by intro w hSw; obtain ⟨p0, p1, c0, c1, c2, c3, c4, c5, d0, d1, d2, d3, d4, d5⟩ := hSw; go_simp⟩) hHeld ?_
              simp only [Act.put, List.setIfInBounds_toArray, List.set_cons_zero, List.set_cons_succ]
              refine take (i := 2) (d := some 25) (v := .int .i64 k) rfl (by kernel_rfl) (by kernel_rfl) (by kernel_rfl) (by kernel_rfl) (fun _ _ _ h => h) (Or.inl ⟨by rfl, by intro w hSw; go_simp⟩) hHeld ?_
              simp only [Act.put, List.setIfInBounds_toArray, List.set_cons_zero, List.set_cons_succ]
              refine take (i := 3) (d := some 26) (v := .pointer (some ⟨b, off + k * 6, none⟩)) rfl (by kernel_rfl) (by kernel_rfl) (by kernel_rfl) (by kernel_rfl) (fun _ _ _ h => h) (Or.inl ⟨by rfl, by intro w hSw; go_simp⟩) hHeld ?_
              simp only [Act.put, List.setIfInBounds_toArray, List.set_cons_zero, List.set_cons_succ]
              refine take (i := 4) (d := some 27) (v := .pointer (some ⟨b, off + k * 6, none⟩)) rfl (by kernel_rfl) (by kernel_rfl) (by kernel_rfl) (by kernel_rfl) (fun _ _ _ h => h) (Or.inl ⟨by rfl, by intro w hSw; go_simp⟩) hHeld ?_
              simp only [Act.put, List.setIfInBounds_toArray, List.set_cons_zero, List.set_cons_succ]
              refine take (i := 5) (d := some 28) (v := .int .i64 x.ep) rfl (by kernel_rfl) (by kernel_rfl) (by kernel_rfl) (by kernel_rfl) (fun _ _ _ h => h) (Or.inl ⟨by rfl, by intro w hSw; obtain ⟨p0, p1, c0, c1, c2, c3, c4, c5, d0, d1, d2, d3, d4, d5⟩ := hSw; go_simp⟩) hHeld ?_
              simp only [Act.put, List.setIfInBounds_toArray, List.set_cons_zero, List.set_cons_succ]
              refine take (i := 6) (d := some 29) (v := .pointer (some ⟨w.heap.size, 1, none⟩)) rfl (by kernel_rfl) (by kernel_rfl) (by kernel_rfl) (by kernel_rfl) (fun _ _ _ h => h) (Or.inl ⟨by rfl, by intro w hSw; go_simp⟩) hHeld ?_
              simp only [Act.put, List.setIfInBounds_toArray, List.set_cons_zero, List.set_cons_succ]
              refine take (i := 7) (d := some 30) (v := .slice (some ⟨b, off, none⟩) n cap) rfl (by kernel_rfl) (by kernel_rfl) (by kernel_rfl) (by kernel_rfl) (fun _ _ _ h => h) (Or.inl ⟨by rfl, by intro w hSw; obtain ⟨p0, p1, c0, c1, c2, c3, c4, c5, d0, d1, d2, d3, d4, d5⟩ := hSw; go_simp⟩) hHeld ?_
              simp only [Act.put, List.setIfInBounds_toArray, List.set_cons_zero, List.set_cons_succ]
              refine take (i := 8) (d := some 31) (v := .int .i64 i) rfl (by kernel_rfl) (by kernel_rfl) (by kernel_rfl) (by kernel_rfl) (fun _ _ _ h => h) (Or.inl ⟨by rfl, by intro w hSw; go_simp⟩) hHeld ?_
              simp only [Act.put, List.setIfInBounds_toArray, List.set_cons_zero, List.set_cons_succ]
              refine take (i := 9) (d := some 32) (v := .pointer (some ⟨b, off + i * 6, none⟩)) rfl (by kernel_rfl) (by kernel_rfl) (by kernel_rfl) (by kernel_rfl) (fun _ _ _ h => h) (Or.inl ⟨by rfl, by intro w hSw; go_simp⟩) hHeld ?_
              simp only [Act.put, List.setIfInBounds_toArray, List.set_cons_zero, List.set_cons_succ]
              refine take (i := 10) (d := some 33) (v := .pointer (some ⟨b, off + i * 6, none⟩)) rfl (by kernel_rfl) (by kernel_rfl) (by kernel_rfl) (by kernel_rfl) (fun _ _ _ h => h) (Or.inl ⟨by rfl, by intro w hSw; go_simp⟩) hHeld ?_
              simp only [Act.put, List.setIfInBounds_toArray, List.set_cons_zero, List.set_cons_succ]
              refine take (i := 11) (d := some 34) (v := .int .i64 y.ep) rfl (by kernel_rfl) (by kernel_rfl) (by kernel_rfl) (by kernel_rfl) (fun _ _ _ h => h) (Or.inl ⟨by rfl, by intro w hSw; obtain ⟨p0, p1, c0, c1, c2, c3, c4, c5, d0, d1, d2, d3, d4, d5⟩ := hSw; go_simp⟩) hHeld ?_
              simp only [Act.put, List.setIfInBounds_toArray, List.set_cons_zero, List.set_cons_succ]
              refine take (i := 12) (d := some 35) (v := .bool true) rfl (by kernel_rfl) (by kernel_rfl) (by kernel_rfl) (by kernel_rfl) (fun _ _ _ h => h) (Or.inl ⟨by rfl, by intro w hSw; go_simp⟩) hHeld ?_
              simp only [Act.put, List.setIfInBounds_toArray, List.set_cons_zero, List.set_cons_succ]
              refine take (i := 13) (d := some 36) (v := .bool true) rfl (by kernel_rfl) (by kernel_rfl) (by kernel_rfl) (by kernel_rfl) (fun _ _ _ h => h) (Or.inl ⟨by rfl, by intro w hSw; go_simp⟩) hHeld ?_
              simp only [Act.put, List.setIfInBounds_toArray, List.set_cons_zero, List.set_cons_succ]
              refine take (i := 14) (d := some 37) (v := .pointer (some ⟨w.heap.size, 1, none⟩)) rfl (by kernel_rfl) (by kernel_rfl) (by kernel_rfl) (by kernel_rfl) (fun _ _ _ h => h) (Or.inl ⟨by rfl, by intro w hSw; go_simp⟩) hHeld ?_
              simp only [Act.put, List.setIfInBounds_toArray, List.set_cons_zero, List.set_cons_succ]
              refine take (i := 15) (d := some 38) (v := .slice (some ⟨b, off, none⟩) n cap) rfl (by kernel_rfl) (by kernel_rfl) (by kernel_rfl) (by kernel_rfl) (fun _ _ _ h => h) (Or.inl ⟨by rfl, by intro w hSw; obtain ⟨p0, p1, c0, c1, c2, c3, c4, c5, d0, d1, d2, d3, d4, d5⟩ := hSw; go_simp⟩) hHeld ?_
              simp only [Act.put, List.setIfInBounds_toArray, List.set_cons_zero, List.set_cons_succ]
              refine take (i := 16) (d := some 39) (v := .int .i64 k) rfl (by kernel_rfl) (by kernel_rfl) (by kernel_rfl) (by kernel_rfl) (fun _ _ _ h => h) (Or.inl ⟨by rfl, by intro w hSw; go_simp⟩) hHeld ?_
              simp only [Act.put, List.setIfInBounds_toArray, List.set_cons_zero, List.set_cons_succ]
              refine take (i := 17) (d := some 40) (v := .pointer (some ⟨b, off + k * 6, none⟩)) rfl (by kernel_rfl) (by kernel_rfl) (by kernel_rfl) (by kernel_rfl) (fun _ _ _ h => h) (Or.inl ⟨by rfl, by intro w hSw; go_simp⟩) hHeld ?_
              simp only [Act.put, List.setIfInBounds_toArray, List.set_cons_zero, List.set_cons_succ]
              refine take (i := 18) (d := some 41) (v := .pointer (some ⟨b, off + k * 6 + 2, none⟩)) rfl (by kernel_rfl) (by kernel_rfl) (by kernel_rfl) (by kernel_rfl) (fun _ _ _ h => h) (Or.inl ⟨by rfl, by intro w hSw; go_simp⟩) hHeld ?_
              simp only [Act.put, List.setIfInBounds_toArray, List.set_cons_zero, List.set_cons_succ]
              refine take (i := 19) (d := some 42) (v := .agg #[.slice x.aV x.V.length x.cV, .slice x.aM x.M.length x.cM]) rfl (by kernel_rfl) (by kernel_rfl) (by kernel_rfl) (by kernel_rfl) (fun _ _ _ h => h) (Or.inl ⟨by rfl, by intro w hSw; obtain ⟨p0, p1, c0, c1, c2, c3, c4, c5, d0, d1, d2, d3, d4, d5⟩ := hSw; go_simp⟩) hHeld ?_
              simp only [Act.put, List.setIfInBounds_toArray, List.set_cons_zero, List.set_cons_succ]
              refine take (i := 20) (d := some 43) (v := .pointer (some ⟨w.heap.size, 1, none⟩)) rfl (by kernel_rfl) (by kernel_rfl) (by kernel_rfl) (by kernel_rfl) (fun _ _ _ h => h) (Or.inl ⟨by rfl, by intro w hSw; go_simp⟩) hHeld ?_
              simp only [Act.put, List.setIfInBounds_toArray, List.set_cons_zero, List.set_cons_succ]
              refine take (i := 21) (d := some 44) (v := .slice (some ⟨b, off, none⟩) n cap) rfl (by kernel_rfl) (by kernel_rfl) (by kernel_rfl) (by kernel_rfl) (fun _ _ _ h => h) (Or.inl ⟨by rfl, by intro w hSw; obtain ⟨p0, p1, c0, c1, c2, c3, c4, c5, d0, d1, d2, d3, d4, d5⟩ := hSw; go_simp⟩) hHeld ?_
              simp only [Act.put, List.setIfInBounds_toArray, List.set_cons_zero, List.set_cons_succ]
              refine take (i := 22) (d := some 45) (v := .int .i64 i) rfl (by kernel_rfl) (by kernel_rfl) (by kernel_rfl) (by kernel_rfl) (fun _ _ _ h => h) (Or.inl ⟨by rfl, by intro w hSw; go_simp⟩) hHeld ?_
              simp only [Act.put, List.setIfInBounds_toArray, List.set_cons_zero, List.set_cons_succ]
              refine take (i := 23) (d := some 46) (v := .pointer (some ⟨b, off + i * 6, none⟩)) rfl (by kernel_rfl) (by kernel_rfl) (by kernel_rfl) (by kernel_rfl) (fun _ _ _ h => h) (Or.inl ⟨by rfl, by intro w hSw; go_simp⟩) hHeld ?_
              simp only [Act.put, List.setIfInBounds_toArray, List.set_cons_zero, List.set_cons_succ]
              refine take (i := 24) (d := some 47) (v := .pointer (some ⟨b, off + i * 6 + 2, none⟩)) rfl (by kernel_rfl) (by kernel_rfl) (by kernel_rfl) (by kernel_rfl) (fun _ _ _ h => h) (Or.inl ⟨by rfl, by intro w hSw; go_simp⟩) hHeld ?_
              simp only [Act.put, List.setIfInBounds_toArray, List.set_cons_zero, List.set_cons_succ]
              refine take (i := 25) (d := some 48) (v := .agg #[.slice y.aV y.V.length y.cV, .slice y.aM y.M.length y.cM]) rfl (by kernel_rfl) (by kernel_rfl) (by kernel_rfl) (by kernel_rfl) (fun _ _ _ h => h) (Or.inl ⟨by rfl, by intro w hSw; obtain ⟨p0, p1, c0, c1, c2, c3, c4, c5, d0, d1, d2, d3, d4, d5⟩ := hSw; go_simp⟩) hHeld ?_
              simp only [Act.put, List.setIfInBounds_toArray, List.set_cons_zero, List.set_cons_succ]
              refine wpAnyH_ready (rs := [26]) (by kernel_rfl) (by simp) (Rg.call2 (i := 26) rfl (by rfl) 16 (.tmp 42) (.tmp 48) 25 25 (by kernel_rfl) 49 (by kernel_rfl) _ _ (by kernel_rfl) (by kernel_rfl) (fun _ => rfl) (hcall) ?_ AllReadyH.nil)
              rintro e1 w1 ⟨rfl, hb⟩
              refine ⟨_, rfl, ⟨(hb.cell (by exact bt)).trans p0, (hb.cell (by exact bt)).trans p1, (hb.cell (by exact bl)).trans c0, (hb.cell (by exact bl)).trans c1, (hb.cell (by exact bl)).trans c2, (hb.cell (by exact bl)).trans c3, (hb.cell (by exact bl)).trans c4, (hb.cell (by exact bl)).trans c5, (hb.cell (by exact bl)).trans d0, (hb.cell (by exact bl)).trans d1, (hb.cell (by exact bl)).trans d2, (hb.cell (by exact bl)).trans d3, (hb.cell (by exact bl)).trans d4, (hb.cell (by exact bl)).trans d5⟩, fun hHeld => ?_⟩
              simp only [Act.put, List.setIfInBounds_toArray, List.set_cons_zero, List.set_cons_succ]
              refine take (i := 27) (d := some 50) (v := .bool true) rfl (by kernel_rfl) (by kernel_rfl) (by kernel_rfl) (by kernel_rfl) (fun _ _ _ h => h) (Or.inl ⟨by rfl, by intro w hSw; go_simp⟩) hHeld ?_
              simp only [Act.put, List.setIfInBounds_toArray, List.set_cons_zero, List.set_cons_succ]
              refine wpAnyH_done (by kernel_rfl) ?_ _
              go_wp2
              go_roundw
              case rel => exact ⟨k + 1, by omega, by go_num, by rw [← HSp.out true (show (decide (x.ep = y.ep) && covB x.V x.M y.V y.M) = true by rw [HCv.out, decide_eq_true HEp.out]; rfl)]; simp, Rw.next (by repeat (first | exact hbel | apply Below.drew)) hb, (hb.block _ bt).trans kT, (hown.below ((Below.refl _ _).drew)).below hb⟩
              case measure => simp [intOf]; omega
          · have he' : (x.ep == y.ep) = false := by simpa using he
            have HEp : Hid (¬ x.ep = y.ep) := he
            clear he
            go_wp2
            refine wp_region_held_drew (S := (fun w' => w'.cell? ⟨w.heap.size, 0, none⟩ = some (.int .i64 q) ∧ w'.cell? ⟨w.heap.size, 1, none⟩ = some (.slice (some ⟨b, off, none⟩) n cap) ∧ w'.cell? ⟨b, off + k * 6, none⟩ = some (.int .i64 x.ep) ∧ w'.cell? ⟨b, off + k * 6 + 1, none⟩ = some (.int .i64 x.pr) ∧ w'.cell? ⟨b, off + k * 6 + 2, none⟩ = some (.slice x.aV x.V.length x.cV) ∧ w'.cell? ⟨b, off + k * 6 + 3, none⟩ = some (.slice x.aM x.M.length x.cM) ∧ w'.cell? ⟨b, off + k * 6 + 4, none⟩ = some (.slice x.aA x.A.length x.cA) ∧ w'.cell? ⟨b, off + k * 6 + 5, none⟩ = some (.int .i64 x.h) ∧ w'.cell? ⟨b, off + i * 6, none⟩ = some (.int .i64 y.ep) ∧ w'.cell? ⟨b, off + i * 6 + 1, none⟩ = some (.int .i64 y.pr) ∧ w'.cell? ⟨b, off + i * 6 + 2, none⟩ = some (.slice y.aV y.V.length y.cV) ∧ w'.cell? ⟨b, off + i * 6 + 3, none⟩ = some (.slice y.aM y.M.length y.cM) ∧ w'.cell? ⟨b, off + i * 6 + 4, none⟩ = some (.slice y.aA y.A.length y.cA) ∧ w'.cell? ⟨b, off + i * 6 + 5, none⟩ = some (.int .i64 y.h))) (by kernel_rfl) ⟨p0, p1, c0, c1, c2, c3, c4, c5, d0, d1, d2, d3, d4, d5⟩ (fun hHeld => ?_)
            refine take (i := 0) (d := some 23) (v := .pointer (some ⟨w.heap.size, 1, none⟩)) rfl (by kernel_rfl) (by kernel_rfl) (by kernel_rfl) (by kernel_rfl) (fun _ _ _ h => h) (Or.inl ⟨by rfl, by intro w hSw; go_simp⟩) hHeld ?_
            simp only [Act.put, List.setIfInBounds_toArray, List.set_cons_zero, List.set_cons_succ]
            refine take (i := 1) (d := some 24) (v := .slice (some ⟨b, off, none⟩) n cap) rfl (by kernel_rfl) (by kernel_rfl) (by kernel_rfl) (by kernel_rfl) (fun _ _ _ h => h) (Or.inl ⟨by rfl, by intro w hSw; obtain ⟨p0, p1, c0, c1, c2, c3, c4, c5, d0, d1, d2, d3, d4, d5⟩ := hSw; go_simp⟩) hHeld ?_
            simp only [Act.put, List.setIfInBounds_toArray, List.set_cons_zero, List.set_cons_succ]
            refine take (i := 2) (d := some 25) (v := .int .i64 k) rfl (by kernel_rfl) (by kernel_rfl) (by kernel_rfl) (by kernel_rfl) (fun _ _ _ h => h) (Or.inl ⟨by rfl, by intro w hSw; go_simp⟩) hHeld ?_
            simp only [Act.put, List.setIfInBounds_toArray, List.set_cons_zero, List.set_cons_succ]
            refine take (i := 3) (d := some 26) (v := .pointer (some ⟨b, off + k * 6, none⟩)) rfl (by kernel_rfl) (by kernel_rfl) (by kernel_rfl) (by kernel_rfl) (fun _ _ _ h => h) (Or.inl ⟨by rfl, by intro w hSw; go_simp⟩) hHeld ?_
            simp only [Act.put, List.setIfInBounds_toArray, List.set_cons_zero, List.set_cons_succ]
            refine take (i := 4) (d := some 27) (v := .pointer (some ⟨b, off + k * 6, none⟩)) rfl (by kernel_rfl) (by kernel_rfl) (by kernel_rfl) (by kernel_rfl) (fun _ _ _ h => h) (Or.inl ⟨by rfl, by intro w hSw; go_simp⟩) hHeld ?_
            simp only [Act.put, List.setIfInBounds_toArray, List.set_cons_zero, List.set_cons_succ]
            refine take (i := 5) (d := some 28) (v := .int .i64 x.ep) rfl (by kernel_rfl) (by kernel_rfl) (by kernel_rfl) (by kernel_rfl) (fun _ _ _ h => h) (Or.inl ⟨by rfl, by intro w hSw; obtain ⟨p0, p1, c0, c1, c2, c3, c4, c5, d0, d1, d2, d3, d4, d5⟩ := hSw; go_simp⟩) hHeld ?_
            simp only [Act.put, List.setIfInBounds_toArray, List.set_cons_zero, List.set_cons_succ]
            refine take (i := 6) (d := some 29) (v := .pointer (some ⟨w.heap.size, 1, none⟩)) rfl (by kernel_rfl) (by kernel_rfl) (by kernel_rfl) (by kernel_rfl) (fun _ _ _ h => h) (Or.inl ⟨by rfl, by intro w hSw; go_simp⟩) hHeld ?_
            simp only [Act.put, List.setIfInBounds_toArray, List.set_cons_zero, List.set_cons_succ]
            refine take (i := 7) (d := some 30) (v := .slice (some ⟨b, off, none⟩) n cap) rfl (by kernel_rfl) (by kernel_rfl) (by kernel_rfl) (by kernel_rfl) (fun _ _ _ h => h) (Or.inl ⟨by rfl, by intro w hSw; obtain ⟨p0, p1, c0, c1, c2, c3, c4, c5, d0, d1, d2, d3, d4, d5⟩ := hSw; go_simp⟩) hHeld ?_
            simp only [Act.put, List.setIfInBounds_toArray, List.set_cons_zero, List.set_cons_succ]
            refine take (i := 8) (d := some 31) (v := .int .i64 i) rfl (by kernel_rfl) (by kernel_rfl) (by kernel_rfl) (by kernel_rfl) (fun _ _ _ h => h) (Or.inl ⟨by rfl, by intro w hSw; go_simp⟩) hHeld ?_
            simp only [Act.put, List.setIfInBounds_toArray, List.set_cons_zero, List.set_cons_succ]
            refine take (i := 9) (d := some 32) (v := .pointer (some ⟨b, off + i * 6, none⟩)) rfl (by kernel_rfl) (by kernel_rfl) (by kernel_rfl) (by kernel_rfl) (fun _ _ _ h => h) (Or.inl ⟨by rfl, by intro w hSw; go_simp⟩) hHeld ?_
            simp only [Act.put, List.setIfInBounds_toArray, List.set_cons_zero, List.set_cons_succ]
            refine take (i := 10) (d := some 33) (v := .pointer (some ⟨b, off + i * 6, none⟩)) rfl (by kernel_rfl) (by kernel_rfl) (by kernel_rfl) (by kernel_rfl) (fun _ _ _ h => h) (Or.inl ⟨by rfl, by intro w hSw; go_simp⟩) hHeld ?_
            simp only [Act.put, List.setIfInBounds_toArray, List.set_cons_zero, List.set_cons_succ]
            refine take (i := 11) (d := some 34) (v := .int .i64 y.ep) rfl (by kernel_rfl) (by kernel_rfl) (by kernel_rfl) (by kernel_rfl) (fun _ _ _ h => h) (Or.inl ⟨by rfl, by intro w hSw; obtain ⟨p0, p1, c0, c1, c2, c3, c4, c5, d0, d1, d2, d3, d4, d5⟩ := hSw; go_simp⟩) hHeld ?_
            simp only [Act.put, List.setIfInBounds_toArray, List.set_cons_zero, List.set_cons_succ]
            refine take (i := 12) (d := some 35) (v := .bool false) rfl (by kernel_rfl) (by kernel_rfl) (by kernel_rfl) (by kernel_rfl) (fun _ _ _ h => h) (Or.inl ⟨by rfl, by intro w hSw; go_simp⟩) hHeld ?_
            simp only [Act.put, List.setIfInBounds_toArray, List.set_cons_zero, List.set_cons_succ]
            refine take (i := 13) (d := some 36) (v := .bool false) rfl (by kernel_rfl) (by kernel_rfl) (by kernel_rfl) (by kernel_rfl) (fun _ _ _ h => h) (Or.inl ⟨by rfl, by intro w hSw; go_simp⟩) hHeld ?_
            simp only [Act.put, List.setIfInBounds_toArray, List.set_cons_zero, List.set_cons_succ]
            refine take (i := 14) (d := some 37) (v := undef) rfl (by kernel_rfl) (by kernel_rfl) (by kernel_rfl) (by kernel_rfl) (fun _ _ _ h => h) (Or.inr ⟨by rfl, rfl⟩) hHeld ?_
            simp only [Act.put, List.setIfInBounds_toArray, List.set_cons_zero, List.set_cons_succ]
            refine take (i := 15) (d := some 38) (v := undef) rfl (by kernel_rfl) (by kernel_rfl) (by kernel_rfl) (by kernel_rfl) (fun _ _ _ h => h) (Or.inr ⟨by rfl, rfl⟩) hHeld ?_
            simp only [Act.put, List.setIfInBounds_toArray, List.set_cons_zero, List.set_cons_succ]
            refine take (i := 16) (d := some 39) (v := undef) rfl (by kernel_rfl) (by kernel_rfl) (by kernel_rfl) (by kernel_rfl) (fun _ _ _ h => h) (Or.inr ⟨by rfl, rfl⟩) hHeld ?_
            simp only [Act.put, List.setIfInBounds_toArray, List.set_cons_zero, List.set_cons_succ]
            refine take (i := 17) (d := some 40) (v := undef) rfl (by kernel_rfl) (by kernel_rfl) (by kernel_rfl) (by kernel_rfl) (fun _ _ _ h => h) (Or.inr ⟨by rfl, rfl⟩) hHeld ?_
            simp only [Act.put, List.setIfInBounds_toArray, List.set_cons_zero, List.set_cons_succ]
            refine take (i := 18) (d := some 41) (v := undef) rfl (by kernel_rfl) (by kernel_rfl) (by kernel_rfl) (by kernel_rfl) (fun _ _ _ h => h) (Or.inr ⟨by rfl, rfl⟩) hHeld ?_
            simp only [Act.put, List.setIfInBounds_toArray, List.set_cons_zero, List.set_cons_succ]
            refine take (i := 19) (d := some 42) (v := undef) rfl (by kernel_rfl) (by kernel_rfl) (by kernel_rfl) (by kernel_rfl) (fun _ _ _ h => h) (Or.inr ⟨by rfl, rfl⟩) hHeld ?_
            simp only [Act.put, List.setIfInBounds_toArray, List.set_cons_zero, List.set_cons_succ]
            refine take (i := 20) (d := some 43) (v := undef) rfl (by kernel_rfl) (by kernel_rfl) (by kernel_rfl) (by kernel_rfl) (fun _ _ _ h => h) (Or.inr ⟨by rfl, rfl⟩) hHeld ?_
            simp only [Act.put, List.setIfInBounds_toArray, List.set_cons_zero, List.set_cons_succ]
            refine take (i := 21) (d := some 44) (v := undef) rfl (by kernel_rfl) (by kernel_rfl) (by kernel_rfl) (by kernel_rfl) (fun _ _ _ h => h) (Or.inr ⟨by rfl, rfl⟩) hHeld ?_
            simp only [Act.put, List.setIfInBounds_toArray, List.set_cons_zero, List.set_cons_succ]
            refine take (i := 22) (d := some 45) (v := undef) rfl (by kernel_rfl) (by kernel_rfl) (by kernel_rfl) (by kernel_rfl) (fun _ _ _ h => h) (Or.inr ⟨by rfl, rfl⟩) hHeld ?_
            simp only [Act.put, List.setIfInBounds_toArray, List.set_cons_zero, List.set_cons_succ]
            refine take (i := 23) (d := some 46) (v := undef) rfl (by kernel_rfl) (by kernel_rfl) (by kernel_rfl) (by kernel_rfl) (fun _ _ _ h => h) (Or.inr ⟨by rfl, rfl⟩) hHeld ?_
            simp only [Act.put, List.setIfInBounds_toArray, List.set_cons_zero, List.set_cons_succ]
            refine take (i := 24) (d := some 47) (v := undef) rfl (by kernel_rfl) (by kernel_rfl) (by kernel_rfl) (by kernel_rfl) (fun _ _ _ h => h) (Or.inr ⟨by rfl, rfl⟩) hHeld ?_
            simp only [Act.put, List.setIfInBounds_toArray, List.set_cons_zero, List.set_cons_succ]
            refine take (i := 25) (d := some 48) (v := undef) rfl (by kernel_rfl) (by kernel_rfl) (by kernel_rfl) (by kernel_rfl) (fun _ _ _ h => h) (Or.inr ⟨by rfl, rfl⟩) hHeld ?_
            simp only [Act.put, List.setIfInBounds_toArray, List.set_cons_zero, List.set_cons_succ]
            refine take (i := 26) (d := some 49) (v := undef) rfl (by kernel_rfl) (by kernel_rfl) (by kernel_rfl) (by kernel_rfl) (fun _ _ _ h => h) (Or.inr ⟨by rfl, rfl⟩) hHeld ?_
            simp only [Act.put, List.setIfInBounds_toArray, List.set_cons_zero, List.set_cons_succ]
            refine take (i := 27) (d := some 50) (v := .bool false) rfl (by kernel_rfl) (by kernel_rfl) (by kernel_rfl) (by kernel_rfl) (fun _ _ _ h => h) (Or.inl ⟨by rfl, by intro w hSw; go_simp⟩) hHeld ?_
            simp only [Act.put, List.setIfInBounds_toArray, List.set_cons_zero, List.set_cons_succ]
            refine wpAnyH_done (by kernel_rfl) ?_ _
            go_wp2
            go_roundw
            case rel => exact ⟨k + 1, by omega, by go_num, by rw [← HSp.out false (show (decide (x.ep = y.ep) && covB x.V x.M y.V y.M) = false by rw [decide_eq_false HEp.out]; rfl)]; simp, by repeat (first | exact hbel | apply Below.drew), kT, hown.below ((Below.refl _ _).drew)⟩
            case measure => simp [intOf]; omega
        · obtain rfl : k = i := by omega
          have hpe : anyB (fun k => covE (Q.getD k e0).said y.said) k = hidP (Q.map Ent.said) k := by
            unfold hidP
            refine anyB_congr fun m hm => ?_
            rw [said_getD, said_getD, HY.out]
          rw [hpe]
          clear hpe
          cases hp : hidP (Q.map Ent.said) k
          · have HP : Hid (hidP (Q.map Ent.said) k = false) := hp
            clear hp
            go_wp2
            go_roundw
            case rel => exact ⟨k + 1, by omega, by go_num, hbel, kT, by simp only [hidL]; rw [HP.out]; exact hown⟩
            case measure => simp [intOf]; omega
          · have HP : Hid (hidP (Q.map Ent.said) k = true) := hp
            clear hp
            go_wp2_with (at_builtin; refine wpList_appZ rfl _ _ rfl (w.heap.size + 1) _ (hidL (Q.map Ent.said) k) [(k : Int)] rfl (hown.below (below_alloc1 _ _)) ⟨wr.heap.size, 0, none⟩ wr.heap.size 0 1 rfl (rd_one _ _) (by simp; omega) (by simp; omega) ?_; intro v' wd own3 hg3)
            go_roundw
            case rel => exact ⟨k + 1, by omega, by go_num, grown_below (hown.below (below_alloc1 _ _)) (Rw.next hbel (below_alloc1 _ _)) hg3 (by omega), (grown_other (hown.below (below_alloc1 _ _)) hg3 (by simp; omega) (by omega)).trans ((at_old bt).trans kT), by simp only [hidL]; rw [HP.out]; exact own3⟩
            case measure => simp [intOf]; omega
    · obtain rfl : i = n := by omega
      go_wp2
      go_ret
      exact ⟨_, rfl, by rw [HRr.out, ← HN.out]; exact hown.mono (by omega), hbel⟩

end Go.Proofs.Ytcbgnfjnjfaacaa.Hq
namespace Go.Proofs.Ytcbgnfjnjfaacaa.Cp
set_option maxRecDepth 8000
set_option linter.unusedSimpArgs false
set_option linter.unusedVariables false
open Go Go.RowKit
open Num Pl Ea Em Ka

def sameM (V M V' M' : List Int) : Bool := Po.matchB V M && Po.matchB V' M' && (decide (V = V') && decide (M = M'))
theorem sameM_comm (V M V' M' : List Int) : sameM V M V' M' = sameM V' M' V M := by
  have e1 : decide (V = V') = decide (V' = V) := by rw [decide_eq_decide]; exact eq_comm
  have e2 : decide (M = M') = decide (M' = M) := by rw [decide_eq_decide]; exact eq_comm
  unfold sameM
  rw [e1, e2, Bool.and_comm (Po.matchB V M)]
theorem sameI {V M V' M' : List Int} (wV : Po.Wide V) (wV' : Po.Wide V') : Rg.CMM 88 V M V' M' (Rg.Bo (sameM V M V' M')) := fun a a' b o c b' o' c' p p' q r s q' r' s' w h1 h2 h3 h4 => by
  have := Mi.same_l a a' p p' _ _ _ _ c c' s s' _ _ _ _ _ w (Mi.two_any c c' s s' h1 h2 wV h3 h4 wV')
  rw [Lb.same_eq] at this
  exact this
theorem sameS {V M V' M' : List Int} (wV : Po.Wide V) (wV' : Po.Wide V') : Rg.CMM 115 V M V' M' (Rg.Bo (sameM V M V' M')) := fun a a' b o c b' o' c' p p' q r s q' r' s' w h1 h2 h3 h4 => Mt.sameS_any a a' b o c b' o' c' p p' q r s q' r' s' V M V' M' w h1 h2 h3 h4 wV wV'
/-- Whether an entry goes. -/
def delB (V M : List Int) (pr : Int) (st : Bool) (x : En) : Bool := if st = true then sameM V M x.2.2.1 x.2.2.2.1 && decide (x.2.1 = pr) else Hq.covB V M x.2.2.1 x.2.2.2.1
/-- What TableDelete answers. -/
def DeleteA (q : Int) (L : List En) (V M : List Int) (pr : Int) (st : Bool) (q' : Int) (L' : List En) (m : Int) : Prop :=
  (TabP q L ∧ Po.matchB V M = true ∧ q' = q ∧ L' = sel (fun k => !delB V M pr st (L.getD k x0)) L L.length ∧ m = (L.length : Int) - (L'.length : Int)) ∨ (¬ (TabP q L ∧ Po.matchB V M = true) ∧ q' = 0 ∧ L' = [] ∧ m = -1)
theorem delete_some (q : Int) (L : List En) (V M : List Int) (pr : Int) (st : Bool) : ∃ q' L' m, DeleteA q L V M pr st q' L' m := by
  rcases Classical.em (TabP q L ∧ Po.matchB V M = true) with h | h
  · exact ⟨_, _, _, .inl ⟨h.1, h.2, rfl, rfl, rfl⟩⟩
  · exact ⟨_, _, _, .inr ⟨h, rfl, rfl, rfl⟩⟩
theorem delete_len {q : Int} {L : List En} {V M : List Int} {pr : Int} {st : Bool} {q' : Int} {L' : List En} {m : Int} (h : DeleteA q L V M pr st q' L' m) : L'.length ≤ 400 := by
  rcases h with ⟨t, _, _, rfl, _⟩ | ⟨_, _, rfl, _⟩
  · have := sel_len (fun k => !delB V M pr st (L.getD k x0)) L L.length
    have := t.len
    have := t.q1
    omega
  · simp
theorem tell89 (g0 : Nat) (x : Ent) (aV aM : Option Addr) (bV oV cV bM oM cM : Nat) (V M : List Int) (w : World) (k1 : w.heap[g0]? = some (.cells #[.slice aV V.length cV, .slice aM M.length cM] 25 (0, 0))) (rV : Hr.Rd w aV bV oV V) (rM : Hr.Rd w aM bM oM M) (wV : Po.Wide V) (ok : x.Ok w) :
    Calls Try.prog 89 #[.agg #[.int .i64 x.ep, .int .i64 x.pr, .slice x.aV x.V.length x.cV, .slice x.aM x.M.length x.cM, .slice x.aA x.A.length x.cA, .int .i64 x.h], .pointer (some ⟨g0, 0, none⟩)] w fun e w' => e = .returned (.bool (!Hq.covB V M x.V x.M)) ∧ Below w.heap.size w w' := by
  obtain ⟨W1, hW1⟩ : ∃ W1, W1 = w.alloc (.cells #[.int .i64 x.ep, .int .i64 x.pr, .slice x.aV x.V.length x.cV, .slice x.aM x.M.length x.cM, .slice x.aA x.A.length x.cA, .int .i64 x.h] 41) := ⟨_, rfl⟩
  have B1 : Below w.heap.size w W1 := by subst hW1; exact below_alloc1 _ _
  have k1' := (B1.block _ (blk_lt k1)).trans k1
  obtain ⟨m0, m1⟩ := Pm.two k1'
  replace rV := rV.below B1
  replace rM := rM.below B1
  replace ok := ok.below B1
  rw [hW1] at m0 m1
  go_enter Try.func89, Try.ntmps89
  go_wp2_with (go_at_call 15; rw [← hW1]; clear hW1 m0 m1; refine (Hq.covI wV ok.wV _ _ _ _ _ _ _ _ _ _ _ _ _ _ _ _ _ rV rM ok.rV ok.rM).mono ?_; rintro e wb ⟨rfl, hb⟩)
  go_ret
  exact ⟨rfl, Rw.next B1 hb⟩
theorem tell87 (g0 g1 : Nat) (x : Ent) (pr : Int) (aV aM : Option Addr) (bV oV cV bM oM cM : Nat) (V M : List Int) (w : World) (h0 : w.cell? ⟨g0, 0, none⟩ = some (.int .i64 pr)) (k1 : w.heap[g1]? = some (.cells #[.slice aV V.length cV, .slice aM M.length cM] 25 (0, 0))) (rV : Hr.Rd w aV bV oV V) (rM : Hr.Rd w aM bM oM M) (wV : Po.Wide V) (ok : x.Ok w) :
    Calls Try.prog 87 #[.agg #[.int .i64 x.ep, .int .i64 x.pr, .slice x.aV x.V.length x.cV, .slice x.aM x.M.length x.cM, .slice x.aA x.A.length x.cA, .int .i64 x.h], .pointer (some ⟨g0, 0, none⟩), .pointer (some ⟨g1, 0, none⟩)] w fun e w' => e = .returned (.bool (!(sameM V M x.V x.M && decide (x.pr = pr)))) ∧ Below w.heap.size w w' := by
  obtain ⟨W1, hW1⟩ : ∃ W1, W1 = w.alloc (.cells #[.int .i64 x.ep, .int .i64 x.pr, .slice x.aV x.V.length x.cV, .slice x.aM x.M.length x.cM, .slice x.aA x.A.length x.cA, .int .i64 x.h] 41) := ⟨_, rfl⟩
  have B1 : Below w.heap.size w W1 := by subst hW1; exact below_alloc1 _ _
  have k1' := (B1.block _ (blk_lt k1)).trans k1
  have q0 := (B1.cell (World.block_lt_of_cell? _ _ h0)).trans h0
  obtain ⟨m0, m1⟩ := Pm.two k1'
  replace rV := rV.below B1
  replace rM := rM.below B1
  replace ok := ok.below B1
  rw [hW1] at m0 m1 q0
  by_cases he : x.pr = pr
  · rw [sameM_comm, decide_eq_true he, Bool.and_true]
    subst he
    go_enter Try.func87, Try.ntmps87
    go_wp2_with (go_at_call 88; rw [← hW1]; clear hW1 m0 m1 q0; refine (sameI ok.wV wV _ _ _ _ _ _ _ _ _ _ _ _ _ _ _ _ _ ok.rV ok.rM rV rM).mono ?_; rintro e wb ⟨rfl, hb⟩)
    go_ret
    exact ⟨rfl, Rw.next B1 hb⟩
  · have he' : (x.pr == pr) = false := by simpa using he
    rw [decide_eq_false he, Bool.and_false]
    go_enter Try.func87, Try.ntmps87
    go_wp2
    go_ret
    rw [← hW1]
    exact ⟨rfl, B1⟩

set_option maxHeartbeats 8000000 in
theorem delI (q pr : Int) (st : Bool) (a : Option Addr) (b off cap : Nat) (Q : List Ent) (aV aM : Option Addr) (bV oV cV bM oM cM : Nat) (V M : List Int) (w : World) (h : Rd w a b off Q) (rV : Hr.Rd w aV bV oV V) (rM : Hr.Rd w aM bM oM M) (wV : Po.Wide V) (q' : Int) (L' : List En) (m : Int) (hr : DeleteA q (Q.map Ent.said) V M pr st q' L' m) :
    Calls Try.prog 24 #[.agg #[.int .i64 q, .slice a Q.length cap], .agg #[.slice aV V.length cV, .slice aM M.length cM], .int .i64 pr, .bool st] w (ResT w q' L' m) := by
  obtain ⟨W1, hW1⟩ : ∃ W1, W1 = (((w.alloc (.cells #[.int .i64 q, .slice a Q.length cap] 38)).alloc (.cells #[.slice aV V.length cV, .slice aM M.length cM] 25)).alloc (.cells #[.int .i64 pr] 3)).alloc (.cells #[.int .i64 0, .slice none 0 0] 38) := ⟨_, rfl⟩
  have B1 : Below w.heap.size w W1 := by subst hW1; exact Rw.next (Rw.next (Rw.next (below_alloc1 _ _) (below_alloc1 _ _)) (below_alloc1 _ _)) (below_alloc1 _ _)
  have kT : W1.heap[w.heap.size]? = some (.cells #[.int .i64 q, .slice a Q.length cap] 38 (0, 0)) := by subst hW1; rw [at_old (by simp <;> omega), at_old (by simp <;> omega), at_old (by simp <;> omega), at_new rfl]
  have kM : W1.heap[w.heap.size + 1]? = some (.cells #[.slice aV V.length cV, .slice aM M.length cM] 25 (0, 0)) := by subst hW1; rw [at_old (by simp <;> omega), at_old (by simp <;> omega), at_new (by simp)]
  have kP : W1.heap[w.heap.size + 1 + 1]? = some (.cells #[.int .i64 pr] 3 (0, 0)) := by subst hW1; rw [at_old (by simp), at_new (by simp)]
  have kR : W1.heap[w.heap.size + 1 + 1 + 1]? = some (.cells #[.int .i64 0, .slice none 0 0] 38 (0, 0)) := by subst hW1; exact at_new (by simp)
  replace h := h.below B1
  replace rV := rV.below B1
  replace rM := rM.below B1
  obtain ⟨R, hR⟩ := em_bool (TabP q (Q.map Ent.said))
  have ht := fun W hW => tabI q a b off cap Q W hW R hR
  cases R
  · obtain ⟨rfl, rfl, rfl⟩ : q' = 0 ∧ L' = [] ∧ m = -1 := by
      rcases hr with ⟨t, _⟩ | ⟨_, h1⟩
      · exact absurd (hR.2 t) (by decide)
      · exact h1
    clear hr hR
    have HQ : Hid (Po.matchB V M = Po.matchB V M) := rfl
    go_enter Try.func24, Try.ntmps24
    go_wp2_with (first
      | (go_at_call 26; rw [← hW1]; clear hW1; refine (ht _ h).mono ?_; rintro x wa ⟨rfl, hb⟩; replace kT := (hb.block _ (blk_lt kT)).trans kT; replace kM := (hb.block _ (blk_lt kM)).trans kM; replace kR := (hb.block _ (blk_lt kR)).trans kR; replace B1 := Rw.next B1 hb; replace rV := rV.below hb; replace rM := rM.below hb; clear hb; obtain ⟨r0, r1⟩ := Pm.two kR; have fR := Bl.free kR; obtain ⟨m0, m1⟩ := Pm.two kM)
      | (go_at_call 85; refine (Mi.ok_any _ _ _ _ _ _ _ _ V M _ rV rM wV).mono ?_; rw [HQ.out]; rintro x wb ⟨rfl, hb⟩; replace kR := (hb.block _ (blk_lt kR)).trans kR; replace B1 := Rw.next B1 hb; clear hb; obtain ⟨r0, r1⟩ := Pm.two kR; have fR := Bl.free kR))
    refine bodyPost_ret (v := .tuple #[.agg #[.int .i64 0, .slice none 0 0], .int .i64 (-1)]) (by simp [results, Try.results24, go_sem, r0, r1]) rfl ⟨_, [], rfl, OT.nil _ _, rfl, ?_⟩
    repeat (first | with_reducible exact B1 | refine Pm.bset ?_ (by omega))
  cases hQ : Po.matchB V M
  · obtain ⟨rfl, rfl, rfl⟩ : q' = 0 ∧ L' = [] ∧ m = -1 := by
      rcases hr with ⟨_, t, _⟩ | ⟨_, h1⟩
      · rw [hQ] at t; exact absurd t (by decide)
      · exact h1
    clear hr hR
    have HQ : Hid (Po.matchB V M = false) := hQ
    clear hQ
    go_enter Try.func24, Try.ntmps24
    go_wp2_with (first
      | (go_at_call 26; rw [← hW1]; clear hW1; refine (ht _ h).mono ?_; rintro x wa ⟨rfl, hb⟩; replace kT := (hb.block _ (blk_lt kT)).trans kT; replace kM := (hb.block _ (blk_lt kM)).trans kM; replace kR := (hb.block _ (blk_lt kR)).trans kR; replace B1 := Rw.next B1 hb; replace rV := rV.below hb; replace rM := rM.below hb; clear hb; obtain ⟨r0, r1⟩ := Pm.two kR; have fR := Bl.free kR; obtain ⟨m0, m1⟩ := Pm.two kM)
      | (go_at_call 85; refine (Mi.ok_any _ _ _ _ _ _ _ _ V M _ rV rM wV).mono ?_; rw [HQ.out]; rintro x wb ⟨rfl, hb⟩; replace kR := (hb.block _ (blk_lt kR)).trans kR; replace B1 := Rw.next B1 hb; clear hb; obtain ⟨r0, r1⟩ := Pm.two kR; have fR := Bl.free kR))
    refine bodyPost_ret (v := .tuple #[.agg #[.int .i64 0, .slice none 0 0], .int .i64 (-1)]) (by simp [results, Try.results24, go_sem, r0, r1]) rfl ⟨_, [], rfl, OT.nil _ _, rfl, ?_⟩
    repeat (first | with_reducible exact B1 | refine Pm.bset ?_ (by omega))
  obtain ⟨ht1, hqq, rfl, hm⟩ : TabP q (Q.map Ent.said) ∧ q' = q ∧ L' = sel (fun k => !delB V M pr st ((Q.map Ent.said).getD k x0)) (Q.map Ent.said) (Q.map Ent.said).length ∧ m = ((Q.map Ent.said).length : Int) - (L'.length : Int) := by
    rcases hr with ⟨t, _, h1⟩ | ⟨h1, _⟩
    · exact ⟨t, h1⟩
    · exact absurd ⟨hR.1 rfl, hQ⟩ h1
  clear hr
  subst hqq
  have HQ : Hid (Po.matchB V M = true) := hQ
  have h4 := tab_len ht1
  simp only [List.length_map] at hm
  simp only [List.length_map]
  clear hR ht1 hQ
  cases st
  · have HMi : Hid (m = (Q.length : Int) - ((sel (fun k => !delB V M pr false ((Q.map Ent.said).getD k x0)) (Q.map Ent.said) Q.length).length : Int)) := hm
    clear hm
    go_enter Try.func24, Try.ntmps24
    go_wp2_with (first
      | (go_at_call 26; rw [← hW1]; clear hW1; refine (ht _ h).mono ?_; rintro x wa ⟨rfl, hb⟩; replace kT := (hb.block _ (blk_lt kT)).trans kT; replace kM := (hb.block _ (blk_lt kM)).trans kM; replace kP := (hb.block _ (blk_lt kP)).trans kP; replace kR := (hb.block _ (blk_lt kR)).trans kR; replace B1 := Rw.next B1 hb; replace h := h.below hb; replace rV := rV.below hb; replace rM := rM.below hb; clear hb ht; obtain ⟨m0, m1⟩ := Pm.two kM)
      | (go_at_call 85; refine (Mi.ok_any _ _ _ _ _ _ _ _ V M _ rV rM wV).mono ?_; rw [HQ.out]; rintro x wb ⟨rfl, hb⟩; clear m0 m1; replace kT := (hb.block _ (blk_lt kT)).trans kT; replace kM := (hb.block _ (blk_lt kM)).trans kM; replace kP := (hb.block _ (blk_lt kP)).trans kP; replace kR := (hb.block _ (blk_lt kR)).trans kR; replace B1 := Rw.next B1 hb; replace h := h.below hb; replace rV := rV.below hb; replace rM := rM.below hb; clear hb; obtain ⟨p0, p1⟩ := Pm.two kT)
      | (go_at_call 86; refine (sieve89 q' _ _ _ _ _ Q (fun k => !delB V M pr false ((Q.map Ent.said).getD k x0)) _ h h4 (fun k hk W hW => by have := tell89 (w.heap.size + 1) (Q.getD k e0) _ _ _ _ _ _ _ _ V M W ((hW.block _ (blk_lt kM)).trans kM) (rV.below hW) (rM.below hW) wV ((h.ok k hk).below hW); simp only [said_getD, delB]; exact this) m HMi.out).mono ?_; rintro x wc ⟨v, F, rfl, hot, hF, hb⟩; have lo := blk_lt kR; replace kR := (hb.block _ (blk_lt kR)).trans kR; obtain ⟨va, vn, vc, rfl⟩ := hot.slice; obtain ⟨r0, r1⟩ := Pm.two kR; have fR := Bl.free kR))
    refine bodyPost_ret (v := .tuple #[.agg #[.int .i64 q', .slice va vn vc], .int .i64 m]) (by simp [results, Try.results24, go_sem, r0, r1]) rfl ⟨_, F, rfl, (hot.keep (fun x _ hx => ?_)).mono (by omega), hF, ?_⟩
    · exact blk_other (blk_other rfl (by omega)) (by omega)
    · exact Pm.bset (Pm.bset (Rw.next B1 hb) (by omega)) (by omega)
  · have HMi : Hid (m = (Q.length : Int) - ((sel (fun k => !delB V M pr true ((Q.map Ent.said).getD k x0)) (Q.map Ent.said) Q.length).length : Int)) := hm
    clear hm
    go_enter Try.func24, Try.ntmps24
    go_wp2_with (first
      | (go_at_call 26; rw [← hW1]; clear hW1; refine (ht _ h).mono ?_; rintro x wa ⟨rfl, hb⟩; replace kT := (hb.block _ (blk_lt kT)).trans kT; replace kM := (hb.block _ (blk_lt kM)).trans kM; replace kP := (hb.block _ (blk_lt kP)).trans kP; replace kR := (hb.block _ (blk_lt kR)).trans kR; replace B1 := Rw.next B1 hb; replace h := h.below hb; replace rV := rV.below hb; replace rM := rM.below hb; clear hb ht; obtain ⟨m0, m1⟩ := Pm.two kM)
      | (go_at_call 85; refine (Mi.ok_any _ _ _ _ _ _ _ _ V M _ rV rM wV).mono ?_; rw [HQ.out]; rintro x wb ⟨rfl, hb⟩; clear m0 m1; replace kT := (hb.block _ (blk_lt kT)).trans kT; replace kM := (hb.block _ (blk_lt kM)).trans kM; replace kP := (hb.block _ (blk_lt kP)).trans kP; replace kR := (hb.block _ (blk_lt kR)).trans kR; replace B1 := Rw.next B1 hb; replace h := h.below hb; replace rV := rV.below hb; replace rM := rM.below hb; clear hb; obtain ⟨p0, p1⟩ := Pm.two kT)
      | (go_at_call 86; refine (sieve87 q' _ _ _ _ _ _ Q (fun k => !delB V M pr true ((Q.map Ent.said).getD k x0)) _ h h4 (fun k hk W hW => by have := tell87 (w.heap.size + 1 + 1) (w.heap.size + 1) (Q.getD k e0) pr _ _ _ _ _ _ _ _ V M W ((hW.cell (World.block_lt_of_cell? _ _ (Hh.one kP))).trans (Hh.one kP)) ((hW.block _ (blk_lt kM)).trans kM) (rV.below hW) (rM.below hW) wV ((h.ok k hk).below hW); simp only [said_getD, delB]; exact this) m HMi.out).mono ?_; rintro x wc ⟨v, F, rfl, hot, hF, hb⟩; have lo := blk_lt kR; replace kR := (hb.block _ (blk_lt kR)).trans kR; obtain ⟨va, vn, vc, rfl⟩ := hot.slice; obtain ⟨r0, r1⟩ := Pm.two kR; have fR := Bl.free kR))
    refine bodyPost_ret (v := .tuple #[.agg #[.int .i64 q', .slice va vn vc], .int .i64 m]) (by simp [results, Try.results24, go_sem, r0, r1]) rfl ⟨_, F, rfl, (hot.keep (fun x _ hx => ?_)).mono (by omega), hF, ?_⟩
    · exact blk_other (blk_other rfl (by omega)) (by omega)
    · exact Pm.bset (Pm.bset (Rw.next B1 hb) (by omega)) (by omega)

end Go.Proofs.Ytcbgnfjnjfaacaa.Cp
