/-
  Contracts of the program's MeetOf and Meets, by the pairs of two matches.
-/
import Derived.Test.YtkakdldhinimoaaMi
namespace Go.Proofs.Ytkakdldhinimoaa.Mj
set_option maxRecDepth 8000
open Go Go.RowKit
open Num Pl Hr Hh Hf Hg Pa Pm Po Pq Pe Mi
set_option linter.unusedSimpArgs false

theorem resMB_none {w w' : World} (h : Below w.heap.size w w') : ResMB w false [] [] (.returned (.tuple #[.agg #[.slice none 0 0, .slice none 0 0], .bool false])) w' :=
  ⟨none, w.heap.size, 0, none, w.heap.size + 1, 0, rfl, Wt.nil _ _ _, Wt.nil _ _ _, Nat.le_refl _, Nat.le_succ _, by omega, h⟩

set_option maxHeartbeats 2000000 in
theorem meet_wrong (a1 a2 a3 a4 : Option Addr) (n1 n2 n3 n4 c1 c2 c3 c4 : Nat) (x y x' y' : Nat → Int) (w : World) (h : Two a1 a2 a3 a4 n1 n2 n3 n4 c1 c2 c3 c4 x y x' y' false w) :
    Calls Try.prog 45 #[.agg #[.slice a1 n1 c1, .slice a2 n2 c2], .agg #[.slice a3 n3 c3, .slice a4 n4 c4]] w (ResMB w false [] []) := by
  have HT : Hid (Two a1 a2 a3 a4 n1 n2 n3 n4 c1 c2 c3 c4 x y x' y' false w) := h
  obtain ⟨W0, hW0⟩ : ∃ W0, W0 = (((w.alloc (.cells #[.slice a1 n1 c1, .slice a2 n2 c2] 63)).alloc (.cells #[.slice a3 n3 c3, .slice a4 n4 c4] 63)).alloc (.cells #[.slice none 0 0, .slice none 0 0] 63)) := ⟨_, rfl⟩
  have B : Below w.heap.size w W0 := by subst hW0; exact Rw.next (below2 _ _ _) (below_alloc1 _ _)
  have kR : W0.heap[w.heap.size + 1 + 1]? = some (.cells #[.slice none 0 0, .slice none 0 0] 63 (0, 0)) := by subst hW0; exact at_new (by simp)
  have zR : w.heap.size + 1 + 1 < W0.heap.size := (Array.getElem?_eq_some_iff.1 kR).1
  clear h
  have tok1 : True := trivial
  go_enter Try.func45, Try.ntmps45
  go_wp2_with (first
    | (go_at_call 82; rw [← hW0]; clear hW0; refine (HT.out _ B).mono ?_; rintro e wa ⟨rfl, hb⟩; have ZB := Nat.le_trans B.size hb.size; replace kR := (hb.block _ zR).trans kR; replace zR := Nat.lt_of_lt_of_le zR hb.size; replace B := Rw.next B hb; clear hb HT)
    | (clear tok1; refine store66 rfl _ _ rfl rfl rfl (has_old (has_zero rfl)) (fun w1 hX hS => ?_); have hZ := hS.has (has_zero (g := wa.heap.size + 1) (by simp)) (by simp); replace B := hS.below (Rw.next B (below2 _ _ _)) B.size; replace kR := (hS.block _ (Nat.ne_of_lt zR)).trans (((below2 _ _ _).block _ zR).trans kR); have tok2 : True := trivial; clear hS)
    | (clear tok2; refine store66 rfl _ _ rfl rfl rfl hZ (fun w2 hY hS => ?_); replace hX := hS.has hX (by simp); replace B := hS.below B (Nat.le_succ_of_le ZB); replace kR := (hS.block _ (Nat.ne_of_lt (Nat.lt_succ_of_lt zR))).trans kR; have zW : w.heap.size + 1 + 1 < w2.heap.size := (Array.getElem?_eq_some_iff.1 kR).1; clear hS hZ))
  refine wp_region_held_drew (S := (fun w' => Has w' wa.heap.size x y ∧ Has w' (wa.heap.size + 1) x' y')) (by kernel_rfl) ⟨hX.drew, hY.drew⟩ (fun hHeld => ?_)
  refine take (i := 0) (d := some 16) (v := .bool false) rfl (by kernel_rfl) (by kernel_rfl) (by kernel_rfl) (by kernel_rfl) (fun _ _ _ h => h) (Or.inl ⟨by rfl, by intro w hSw; go_simp⟩) hHeld ?_
  simp only [Act.put, List.setIfInBounds_toArray, List.set_cons_zero, List.set_cons_succ]
  refine take (i := 1) (d := some 17) (v := .bool true) rfl (by kernel_rfl) (by kernel_rfl) (by kernel_rfl) (by kernel_rfl) (fun _ _ _ h => h) (Or.inl ⟨by rfl, by intro w hSw; go_simp⟩) hHeld ?_
  simp only [Act.put, List.setIfInBounds_toArray, List.set_cons_zero, List.set_cons_succ]
  refine take (i := 2) (d := some 18) (v := .bool true) rfl (by kernel_rfl) (by kernel_rfl) (by kernel_rfl) (by kernel_rfl) (fun _ _ _ h => h) (Or.inl ⟨by rfl, by intro w hSw; go_simp⟩) hHeld ?_
  simp only [Act.put, List.setIfInBounds_toArray, List.set_cons_zero, List.set_cons_succ]
  refine take (i := 3) (d := some 19) (v := undef) rfl (by kernel_rfl) (by kernel_rfl) (by kernel_rfl) (by kernel_rfl) (fun _ _ _ h => h) (Or.inr ⟨by rfl, rfl⟩) hHeld ?_
  simp only [Act.put, List.setIfInBounds_toArray, List.set_cons_zero, List.set_cons_succ]
  refine take (i := 4) (d := some 20) (v := undef) rfl (by kernel_rfl) (by kernel_rfl) (by kernel_rfl) (by kernel_rfl) (fun _ _ _ h => h) (Or.inr ⟨by rfl, rfl⟩) hHeld ?_
  simp only [Act.put, List.setIfInBounds_toArray, List.set_cons_zero, List.set_cons_succ]
  refine take (i := 5) (d := some 21) (v := undef) rfl (by kernel_rfl) (by kernel_rfl) (by kernel_rfl) (by kernel_rfl) (fun _ _ _ h => h) (Or.inr ⟨by rfl, rfl⟩) hHeld ?_
  simp only [Act.put, List.setIfInBounds_toArray, List.set_cons_zero, List.set_cons_succ]
  refine take (i := 6) (d := some 22) (v := undef) rfl (by kernel_rfl) (by kernel_rfl) (by kernel_rfl) (by kernel_rfl) (fun _ _ _ h => h) (Or.inr ⟨by rfl, rfl⟩) hHeld ?_
  simp only [Act.put, List.setIfInBounds_toArray, List.set_cons_zero, List.set_cons_succ]
  refine take (i := 7) (d := some 23) (v := undef) rfl (by kernel_rfl) (by kernel_rfl) (by kernel_rfl) (by kernel_rfl) (fun _ _ _ h => h) (Or.inr ⟨by rfl, rfl⟩) hHeld ?_
  simp only [Act.put, List.setIfInBounds_toArray, List.set_cons_zero, List.set_cons_succ]
  refine take (i := 8) (d := some 24) (v := undef) rfl (by kernel_rfl) (by kernel_rfl) (by kernel_rfl) (by kernel_rfl) (fun _ _ _ h => h) (Or.inr ⟨by rfl, rfl⟩) hHeld ?_
  simp only [Act.put, List.setIfInBounds_toArray, List.set_cons_zero, List.set_cons_succ]
  refine take (i := 9) (d := some 25) (v := undef) rfl (by kernel_rfl) (by kernel_rfl) (by kernel_rfl) (by kernel_rfl) (fun _ _ _ h => h) (Or.inr ⟨by rfl, rfl⟩) hHeld ?_
  simp only [Act.put, List.setIfInBounds_toArray, List.set_cons_zero, List.set_cons_succ]
  refine take (i := 10) (d := some 26) (v := .bool true) rfl (by kernel_rfl) (by kernel_rfl) (by kernel_rfl) (by kernel_rfl) (fun _ _ _ h => h) (Or.inl ⟨by rfl, by intro w hSw; go_simp⟩) hHeld ?_
  simp only [Act.put, List.setIfInBounds_toArray, List.set_cons_zero, List.set_cons_succ]
  refine wpAnyH_done (by kernel_rfl) ?_ _
  obtain ⟨r0, r1⟩ := two kR
  have fr := Bl.free kR
  go_wp2
  refine bodyPost_ret (v := .tuple #[.agg #[.slice none 0 0, .slice none 0 0], .bool false]) (by simp [results, Try.results45, go_sem, r0, r1]) rfl (resMB_none ?_)
  exact (bset (bset B (by omega)) (by omega)).drew

set_option maxHeartbeats 4000000 in
theorem meet_no (a1 a2 a3 a4 : Option Addr) (n1 n2 n3 n4 c1 c2 c3 c4 : Nat) (x y x' y' : Nat → Int) (w : World) (h : Two a1 a2 a3 a4 n1 n2 n3 n4 c1 c2 c3 c4 x y x' y' true w) (hR : sameB (fun k => bits .and .i64 (x k) (y' k)) (fun k => bits .and .i64 (y k) (y' k)) (fun k => bits .and .i64 (x' k) (y k)) (fun k => bits .and .i64 (y' k) (y k)) = false) :
    Calls Try.prog 45 #[.agg #[.slice a1 n1 c1, .slice a2 n2 c2], .agg #[.slice a3 n3 c3, .slice a4 n4 c4]] w (ResMB w false [] []) := by
  have heq := fun w => neq_any (fun k => bits .and .i64 (x k) (y' k)) (fun k => bits .and .i64 (y k) (y' k)) (fun k => bits .and .i64 (x' k) (y k)) (fun k => bits .and .i64 (y' k) (y k)) w
  rw [hR] at heq
  have hgd := guard66
  clear hR
  have HT : Hid (Two a1 a2 a3 a4 n1 n2 n3 n4 c1 c2 c3 c4 x y x' y' true w) := h
  obtain ⟨W0, hW0⟩ : ∃ W0, W0 = (((w.alloc (.cells #[.slice a1 n1 c1, .slice a2 n2 c2] 63)).alloc (.cells #[.slice a3 n3 c3, .slice a4 n4 c4] 63)).alloc (.cells #[.slice none 0 0, .slice none 0 0] 63)) := ⟨_, rfl⟩
  have B : Below w.heap.size w W0 := by subst hW0; exact Rw.next (below2 _ _ _) (below_alloc1 _ _)
  have kR : W0.heap[w.heap.size + 1 + 1]? = some (.cells #[.slice none 0 0, .slice none 0 0] 63 (0, 0)) := by subst hW0; exact at_new (by simp)
  have zR : w.heap.size + 1 + 1 < W0.heap.size := (Array.getElem?_eq_some_iff.1 kR).1
  clear h
  have tok1 : True := trivial
  go_enter Try.func45, Try.ntmps45
  go_wp2_with (first
    | (go_at_call 82; rw [← hW0]; clear hW0; refine (HT.out _ B).mono ?_; rintro e wa ⟨rfl, hb⟩; have ZB := Nat.le_trans B.size hb.size; replace kR := (hb.block _ zR).trans kR; replace zR := Nat.lt_of_lt_of_le zR hb.size; replace B := Rw.next B hb; clear hb HT)
    | (clear tok1; refine store66 rfl _ _ rfl rfl rfl (has_old (has_zero rfl)) (fun w1 hX hS => ?_); have hZ := hS.has (has_zero (g := wa.heap.size + 1) (by simp)) (by simp); replace B := hS.below (Rw.next B (below2 _ _ _)) B.size; replace kR := (hS.block _ (Nat.ne_of_lt zR)).trans (((below2 _ _ _).block _ zR).trans kR); have tok2 : True := trivial; clear hS)
    | (clear tok2; refine store66 rfl _ _ rfl rfl rfl hZ (fun w2 hY hS => ?_); replace hX := hS.has hX (by simp); replace B := hS.below B (Nat.le_succ_of_le ZB); replace kR := (hS.block _ (Nat.ne_of_lt (Nat.lt_succ_of_lt zR))).trans kR; have zW : w.heap.size + 1 + 1 < w2.heap.size := (Array.getElem?_eq_some_iff.1 kR).1; clear hS hZ))
  refine wp_region_held_drew (S := (fun w' => Has w' wa.heap.size x y ∧ Has w' (wa.heap.size + 1) x' y')) (by kernel_rfl) ⟨hX.drew, hY.drew⟩ (fun hHeld => ?_)
  refine take (i := 0) (d := some 16) (v := .bool true) rfl (by kernel_rfl) (by kernel_rfl) (by kernel_rfl) (by kernel_rfl) (fun _ _ _ h => h) (Or.inl ⟨by rfl, by intro w hSw; go_simp⟩) hHeld ?_
  simp only [Act.put, List.setIfInBounds_toArray, List.set_cons_zero, List.set_cons_succ]
  refine take (i := 1) (d := some 17) (v := .bool false) rfl (by kernel_rfl) (by kernel_rfl) (by kernel_rfl) (by kernel_rfl) (fun _ _ _ h => h) (Or.inl ⟨by rfl, by intro w hSw; go_simp⟩) hHeld ?_
  simp only [Act.put, List.setIfInBounds_toArray, List.set_cons_zero, List.set_cons_succ]
  refine take (i := 2) (d := some 18) (v := .bool false) rfl (by kernel_rfl) (by kernel_rfl) (by kernel_rfl) (by kernel_rfl) (fun _ _ _ h => h) (Or.inl ⟨by rfl, by intro w hSw; go_simp⟩) hHeld ?_
  simp only [Act.put, List.setIfInBounds_toArray, List.set_cons_zero, List.set_cons_succ]
  refine take (i := 3) (d := some 19) (v := _) rfl (by kernel_rfl) (by kernel_rfl) (by kernel_rfl) (by kernel_rfl) (fun _ _ _ h => h) (yields66 (by rfl) _ rfl rfl (fun w h => h.1)) hHeld ?_
  simp only [Act.put, List.setIfInBounds_toArray, List.set_cons_zero, List.set_cons_succ]
  refine take (i := 4) (d := some 20) (v := _) rfl (by kernel_rfl) (by kernel_rfl) (by kernel_rfl) (by kernel_rfl) (fun _ _ _ h => h) (yields66 (by rfl) _ rfl rfl (fun w h => h.2)) hHeld ?_
  simp only [Act.put, List.setIfInBounds_toArray, List.set_cons_zero, List.set_cons_succ]
  refine take (i := 6) (d := some 22) (v := _) rfl (by kernel_rfl) (by kernel_rfl) (by kernel_rfl) (by kernel_rfl) (fun _ _ _ h => h) (yields66 (by rfl) _ rfl rfl (fun w h => h.2)) hHeld ?_
  simp only [Act.put, List.setIfInBounds_toArray, List.set_cons_zero, List.set_cons_succ]
  refine take (i := 7) (d := some 23) (v := _) rfl (by kernel_rfl) (by kernel_rfl) (by kernel_rfl) (by kernel_rfl) (fun _ _ _ h => h) (yields66 (by rfl) _ rfl rfl (fun w h => h.1)) hHeld ?_
  simp only [Act.put, List.setIfInBounds_toArray, List.set_cons_zero, List.set_cons_succ]
  refine wpAnyH_ready (rs := [5]) (by kernel_rfl) (by simp) (readyCall2 rfl (by kernel_rfl) 83 (.tmp 19) (.tmp 20) 106 106 (by kernel_rfl) 21 (by kernel_rfl) _ _ (by kernel_rfl) (by kernel_rfl) (fun _ => rfl) (under_any x y x' y' _) (fun w3 hb => ⟨hX.drew.below hb, hY.drew.below hb⟩) (fun w3 hb hHeld => ?_) AllReadyH.nil)
  simp only [Act.put, List.setIfInBounds_toArray, List.set_cons_zero, List.set_cons_succ]
  replace hX := hX.drew.below hb
  replace hY := hY.drew.below hb
  replace kR := (hb.block _ zW).trans kR
  replace zW := Nat.lt_of_lt_of_le zW hb.size
  replace B := Rw.next B.drew hb
  clear hb
  refine wpAnyH_ready (rs := [8]) (by kernel_rfl) (by simp) (readyCall2 rfl (by kernel_rfl) 83 (.tmp 22) (.tmp 23) 106 106 (by kernel_rfl) 24 (by kernel_rfl) _ _ (by kernel_rfl) (by kernel_rfl) (fun _ => rfl) (under_any x' y' x y _) (fun w4 hb => ⟨hX.below hb, hY.below hb⟩) (fun w4 hb hHeld => ?_) AllReadyH.nil)
  simp only [Act.put, List.setIfInBounds_toArray, List.set_cons_zero, List.set_cons_succ]
  replace hX := hX.below hb
  replace hY := hY.below hb
  replace kR := (hb.block _ zW).trans kR
  replace zW := Nat.lt_of_lt_of_le zW hb.size
  replace B := Rw.next B hb
  clear hb
  refine take (i := 9) (d := some 25) (v := .bool true) rfl (by kernel_rfl) (by kernel_rfl) (by kernel_rfl) (by kernel_rfl) (fun _ _ _ h => h) (Or.inl ⟨by rfl, by intro w hSw; go_simp⟩) hHeld ?_
  simp only [Act.put, List.setIfInBounds_toArray, List.set_cons_zero, List.set_cons_succ]
  refine take (i := 10) (d := some 26) (v := .bool true) rfl (by kernel_rfl) (by kernel_rfl) (by kernel_rfl) (by kernel_rfl) (fun _ _ _ h => h) (Or.inl ⟨by rfl, by intro w hSw; go_simp⟩) hHeld ?_
  simp only [Act.put, List.setIfInBounds_toArray, List.set_cons_zero, List.set_cons_succ]
  refine wpAnyH_done (by kernel_rfl) ?_ _
  obtain ⟨r0, r1⟩ := two kR
  have fr := Bl.free kR
  go_wp2
  refine bodyPost_ret (v := .tuple #[.agg #[.slice none 0 0, .slice none 0 0], .bool false]) (by simp [results, Try.results45, go_sem, r0, r1]) rfl (resMB_none ?_)
  exact bset (bset B (by omega)) (by omega)

theorem wt_set2 {w : World} {a : Option Addr} {g b k : Nat} {l : List Int} {u : Value} (h : Wt w a g l) (hne : b ≠ g) : Wt (w.setCell ⟨b, k, none⟩ u) a g l := by
  have e : (w.setCell ⟨b, k, none⟩ u).heap[g]? = w.heap[g]? := Below.heap_setCell w _ u g (fun e => hne e.symm)
  refine ⟨h.head, fun i hi => ?_, fun i hi => ?_, h.size⟩
  · have := h.cell i hi
    simp only [World.cell?, e] at this ⊢
    exact this
  · have := h.free i hi
    simp only [World.frozen?, e] at this ⊢
    exact this

set_option maxHeartbeats 4000000 in
theorem meet_yes (a1 a2 a3 a4 : Option Addr) (n1 n2 n3 n4 c1 c2 c3 c4 : Nat) (x y x' y' : Nat → Int) (w : World) (h : Two a1 a2 a3 a4 n1 n2 n3 n4 c1 c2 c3 c4 x y x' y' true w) (hR : sameB (fun k => bits .and .i64 (x k) (y' k)) (fun k => bits .and .i64 (y k) (y' k)) (fun k => bits .and .i64 (x' k) (y k)) (fun k => bits .and .i64 (y' k) (y k)) = true) :
    Calls Try.prog 45 #[.agg #[.slice a1 n1 c1, .slice a2 n2 c2], .agg #[.slice a3 n3 c3, .slice a4 n4 c4]] w (ResMB w true (lst fun k => bits .or .i64 (x k) (x' k)) (lst fun k => bits .or .i64 (y k) (y' k))) := by
  have heq := fun w => neq_any (fun k => bits .and .i64 (x k) (y' k)) (fun k => bits .and .i64 (y k) (y' k)) (fun k => bits .and .i64 (x' k) (y k)) (fun k => bits .and .i64 (y' k) (y k)) w
  rw [hR] at heq
  have hgd := guard66
  clear hR
  have HT : Hid (Two a1 a2 a3 a4 n1 n2 n3 n4 c1 c2 c3 c4 x y x' y' true w) := h
  obtain ⟨W0, hW0⟩ : ∃ W0, W0 = (((w.alloc (.cells #[.slice a1 n1 c1, .slice a2 n2 c2] 63)).alloc (.cells #[.slice a3 n3 c3, .slice a4 n4 c4] 63)).alloc (.cells #[.slice none 0 0, .slice none 0 0] 63)) := ⟨_, rfl⟩
  have B : Below w.heap.size w W0 := by subst hW0; exact Rw.next (below2 _ _ _) (below_alloc1 _ _)
  have kR : W0.heap[w.heap.size + 1 + 1]? = some (.cells #[.slice none 0 0, .slice none 0 0] 63 (0, 0)) := by subst hW0; exact at_new (by simp)
  have zR : w.heap.size + 1 + 1 < W0.heap.size := (Array.getElem?_eq_some_iff.1 kR).1
  clear h
  have tok1 : True := trivial
  go_enter Try.func45, Try.ntmps45
  go_wp2_with (first
    | (go_at_call 82; rw [← hW0]; clear hW0; refine (HT.out _ B).mono ?_; rintro e wa ⟨rfl, hb⟩; have ZB := Nat.le_trans B.size hb.size; replace kR := (hb.block _ zR).trans kR; replace zR := Nat.lt_of_lt_of_le zR hb.size; replace B := Rw.next B hb; clear hb HT)
    | (clear tok1; refine store66 rfl _ _ rfl rfl rfl (has_old (has_zero rfl)) (fun w1 hX hS => ?_); have hZ := hS.has (has_zero (g := wa.heap.size + 1) (by simp)) (by simp); replace B := hS.below (Rw.next B (below2 _ _ _)) B.size; replace kR := (hS.block _ (Nat.ne_of_lt zR)).trans (((below2 _ _ _).block _ zR).trans kR); have tok2 : True := trivial; clear hS)
    | (clear tok2; refine store66 rfl _ _ rfl rfl rfl hZ (fun w2 hY hS => ?_); replace hX := hS.has hX (by simp); replace B := hS.below B (Nat.le_succ_of_le ZB); replace kR := (hS.block _ (Nat.ne_of_lt (Nat.lt_succ_of_lt zR))).trans kR; have zW : w.heap.size + 1 + 1 < w2.heap.size := (Array.getElem?_eq_some_iff.1 kR).1; clear hS hZ))
  refine wp_region_held_drew (S := (fun w' => Has w' wa.heap.size x y ∧ Has w' (wa.heap.size + 1) x' y')) (by kernel_rfl) ⟨hX.drew, hY.drew⟩ (fun hHeld => ?_)
  refine take (i := 0) (d := some 16) (v := .bool true) rfl (by kernel_rfl) (by kernel_rfl) (by kernel_rfl) (by kernel_rfl) (fun _ _ _ h => h) (Or.inl ⟨by rfl, by intro w hSw; go_simp⟩) hHeld ?_
  simp only [Act.put, List.setIfInBounds_toArray, List.set_cons_zero, List.set_cons_succ]
  refine take (i := 1) (d := some 17) (v := .bool false) rfl (by kernel_rfl) (by kernel_rfl) (by kernel_rfl) (by kernel_rfl) (fun _ _ _ h => h) (Or.inl ⟨by rfl, by intro w hSw; go_simp⟩) hHeld ?_
  simp only [Act.put, List.setIfInBounds_toArray, List.set_cons_zero, List.set_cons_succ]
  refine take (i := 2) (d := some 18) (v := .bool false) rfl (by kernel_rfl) (by kernel_rfl) (by kernel_rfl) (by kernel_rfl) (fun _ _ _ h => h) (Or.inl ⟨by rfl, by intro w hSw; go_simp⟩) hHeld ?_
  simp only [Act.put, List.setIfInBounds_toArray, List.set_cons_zero, List.set_cons_succ]
  refine take (i := 3) (d := some 19) (v := _) rfl (by kernel_rfl) (by kernel_rfl) (by kernel_rfl) (by kernel_rfl) (fun _ _ _ h => h) (yields66 (by rfl) _ rfl rfl (fun w h => h.1)) hHeld ?_
  simp only [Act.put, List.setIfInBounds_toArray, List.set_cons_zero, List.set_cons_succ]
  refine take (i := 4) (d := some 20) (v := _) rfl (by kernel_rfl) (by kernel_rfl) (by kernel_rfl) (by kernel_rfl) (fun _ _ _ h => h) (yields66 (by rfl) _ rfl rfl (fun w h => h.2)) hHeld ?_
  simp only [Act.put, List.setIfInBounds_toArray, List.set_cons_zero, List.set_cons_succ]
  refine take (i := 6) (d := some 22) (v := _) rfl (by kernel_rfl) (by kernel_rfl) (by kernel_rfl) (by kernel_rfl) (fun _ _ _ h => h) (yields66 (by rfl) _ rfl rfl (fun w h => h.2)) hHeld ?_
  simp only [Act.put, List.setIfInBounds_toArray, List.set_cons_zero, List.set_cons_succ]
  refine take (i := 7) (d := some 23) (v := _) rfl (by kernel_rfl) (by kernel_rfl) (by kernel_rfl) (by kernel_rfl) (fun _ _ _ h => h) (yields66 (by rfl) _ rfl rfl (fun w h => h.1)) hHeld ?_
  simp only [Act.put, List.setIfInBounds_toArray, List.set_cons_zero, List.set_cons_succ]
  refine wpAnyH_ready (rs := [5]) (by kernel_rfl) (by simp) (readyCall2 rfl (by kernel_rfl) 83 (.tmp 19) (.tmp 20) 106 106 (by kernel_rfl) 21 (by kernel_rfl) _ _ (by kernel_rfl) (by kernel_rfl) (fun _ => rfl) (under_any x y x' y' _) (fun w3 hb => ⟨hX.drew.below hb, hY.drew.below hb⟩) (fun w3 hb hHeld => ?_) AllReadyH.nil)
  simp only [Act.put, List.setIfInBounds_toArray, List.set_cons_zero, List.set_cons_succ]
  replace hX := hX.drew.below hb
  replace hY := hY.drew.below hb
  replace kR := (hb.block _ zW).trans kR
  replace zW := Nat.lt_of_lt_of_le zW hb.size
  replace B := Rw.next B.drew hb
  clear hb
  refine wpAnyH_ready (rs := [8]) (by kernel_rfl) (by simp) (readyCall2 rfl (by kernel_rfl) 83 (.tmp 22) (.tmp 23) 106 106 (by kernel_rfl) 24 (by kernel_rfl) _ _ (by kernel_rfl) (by kernel_rfl) (fun _ => rfl) (under_any x' y' x y _) (fun w4 hb => ⟨hX.below hb, hY.below hb⟩) (fun w4 hb hHeld => ?_) AllReadyH.nil)
  simp only [Act.put, List.setIfInBounds_toArray, List.set_cons_zero, List.set_cons_succ]
  replace hX := hX.below hb
  replace hY := hY.below hb
  replace kR := (hb.block _ zW).trans kR
  replace zW := Nat.lt_of_lt_of_le zW hb.size
  replace B := Rw.next B hb
  clear hb
  refine take (i := 9) (d := some 25) (v := .bool false) rfl (by kernel_rfl) (by kernel_rfl) (by kernel_rfl) (by kernel_rfl) (fun _ _ _ h => h) (Or.inl ⟨by rfl, by intro w hSw; go_simp⟩) hHeld ?_
  simp only [Act.put, List.setIfInBounds_toArray, List.set_cons_zero, List.set_cons_succ]
  refine take (i := 10) (d := some 26) (v := .bool false) rfl (by kernel_rfl) (by kernel_rfl) (by kernel_rfl) (by kernel_rfl) (fun _ _ _ h => h) (Or.inl ⟨by rfl, by intro w hSw; go_simp⟩) hHeld ?_
  simp only [Act.put, List.setIfInBounds_toArray, List.set_cons_zero, List.set_cons_succ]
  refine wpAnyH_done (by kernel_rfl) ?_ _
  obtain ⟨r0, r1⟩ := two kR
  have fr := Bl.free kR
  have sW := B.size
  go_wp2_with (first
    | (refine load66 rfl _ rfl rfl hX ?_)
    | (refine load66 rfl _ rfl rfl hY ?_)
    | (go_at_call 84; refine (with_any x y x' y' _).mono ?_; rintro e w5 ⟨rfl, hb⟩; replace kR := (hb.block _ zW).trans kR; replace zW := Nat.lt_of_lt_of_le zW hb.size; replace B := Rw.next B hb; clear r0 r1 fr hb hX hY)
    | (go_at_call 85; refine (match_any _ _ _).mono ?_; rintro e w6 ⟨aV, gV, cV, aM, gM, cM, rfl, hV, hM, l1, l2, l3, hb⟩; replace kR := (hb.block _ zW).trans kR; have zg := zW; replace B := Rw.next B hb; obtain ⟨r0, r1⟩ := two kR; have fr := Bl.free kR; clear hb))
  refine bodyPost_ret (v := .tuple #[.agg #[.slice aV (lst _).length cV, .slice aM (lst _).length cM], .bool true]) (by simp [results, Try.results45, go_sem, r0, r1]) rfl ⟨aV, gV, cV, aM, gM, cM, rfl, ?_, ?_, by omega, by omega, l3, ?_⟩
  · exact wt_set2 (wt_set2 hV (by omega)) (by omega)
  · exact wt_set2 (wt_set2 hM (by omega)) (by omega)
  · exact bset (bset B (by omega)) (by omega)

end Go.Proofs.Ytkakdldhinimoaa.Mj
