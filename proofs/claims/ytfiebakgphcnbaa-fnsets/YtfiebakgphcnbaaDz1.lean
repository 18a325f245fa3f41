/-
  Draws of rows, right or not.
-/
import Derived.Test.YtfiebakgphcnbaaDy
import Derived.Deep.Cut
import Derived.Deep.CutRange
namespace Go.Proofs.Ytfiebakgphcnbaa.Dr
set_option maxRecDepth 8000
set_option linter.unusedSimpArgs false
set_option linter.unusedVariables false
open Go Go.RowKit
open Num Rw Pl
open Rl (flatV Rm)
open Vl (V2 z2)


set_option maxHeartbeats 8000000 in
theorem anyrow_any (g : Nat) (a : Option Addr) (b off cap : Nat) (c : List Int) (w : World) (h : Cur w g a b off cap c) :
    Calls Try.prog 99 #[.pointer (some ⟨g, 0, none⟩)] w (ResV w 1001 g a b off cap c) := by
  obtain ⟨hg, hbl⟩ := cur_in h
  obtain ⟨W1, hW1⟩ : ∃ W1, W1 = w.alloc (.cells #[.slice none 0 0] 56) := ⟨_, rfl⟩
  have kR : W1.heap[w.heap.size]? = some (.cells #[.slice none 0 0] 56 (0, 0)) := by subst hW1; exact at_new rfl
  have hC : Cur W1 g a b off cap c := by subst hW1; exact cur_alloc h _
  have hO : Only g w W1 := by subst hW1; exact only_alloc (Only.refl _ _) _
  clear h
  have t1 : True := trivial
  go_enter Try.func99, Try.ntmps99
  go_wp2_with (first
    | (go_at_call 81; clear t1; rw [← hW1]; clear hW1; refine (below_any _ _ _ _ _ _ 4 _ hC (by omega) (by omega)).mono ?_; rintro e w1 ⟨x, rfl, x0, x1, hC1, hO1⟩; replace hO := only_trans hO hO1; replace kR := only_at hO1 kR (by omega); replace hC := hC1; clear hC1; clear hO1)
    | (go_at_call 101; refine (drow_any x x0 (by omega) _ _ _ _ _ _ _ hC).mono ?_; rintro e w2 ⟨ua, un, uc, l, rfl, ov, hl, hC1, hO1⟩; have s12 := hO1.size; have l1 := blk_lt kR; replace hO := only_trans hO hO1; replace kR := only_at hO1 kR (by omega); replace hC := hC1; clear hC1; clear hO1 x0 x1))
  obtain ⟨ob, hob⟩ : ∃ ob, ob = w2.heap.size := ⟨_, rfl⟩
  obtain ⟨W3, hW3⟩ : ∃ W3, W3 = w2.alloc (.cells #[.slice ua un uc] 56) := ⟨_, rfl⟩
  have kO : W3.heap[ob]? = some (.cells #[.slice ua un uc] 56 (0, 0)) := by subst hW3; exact at_new hob
  have hb : Below w2.heap.size w2 W3 := by subst hW3; exact below_alloc1 _ _
  have obl : ∀ k, (Value.slice ua un uc).ownBlock = some k → w1.heap.size ≤ k ∧ k < ob := fun k hk => by have := ov.lt hk; omega
  have hobw : w.heap.size < ob ∧ w1.heap.size ≤ ob := by have := blk_lt kR; omega
  have hgw : g < w1.heap.size ∧ w.heap.size < w1.heap.size := by omega
  replace kR := (hb.block _ (blk_lt kR)).trans kR
  replace ov := ov.below hb
  replace hC : Cur W3 g a b off cap c := by subst hW3; exact cur_alloc hC _
  replace hO : Only g w W3 := by subst hW3; exact only_alloc hO _
  have zB : w1.heap.size ≤ W3.heap.size := by have := blk_lt kO; omega
  clear hb s12 l1
  rw [← hW3, ← hob]
  clear hW3 hob
  generalize w1.heap.size = B at *
  go_upto_if 12 with (go_at_call 81; refine (below_any _ _ _ _ _ _ 10 _ hC (by omega) (by omega)).mono ?_; rintro e wr ⟨q, rfl, q0, q1, hC1, hO1⟩; replace kO := only_at hO1 kO (by omega); replace ov := ov.only hO1 (by omega); replace zB := Nat.le_trans zB hO1.size; replace hO := only_trans hO hO1; replace kR := only_at hO1 kR (by omega); replace hC := hC1; clear hC1; clear hO1)
  have hq : q = 0 ∨ q = 1 ∨ (¬ q = 0 ∧ ¬ q = 1) := by omega
  rcases hq with rfl | rfl | ⟨e0, e1⟩
  · obtain ⟨v, hv⟩ : ∃ v, v = Value.slice ua un uc := ⟨_, rfl⟩
    rw [← hv] at kO ov obl
    clear hv
    have hgB : g < B := by omega
    have hbB : c.length = 0 ∨ b < B := hbl.imp id fun q => by omega
    have hbW := hbl
    have hBs := zB
    have hll : l.length ≤ 100000 := by omega
    go_wp2
    refine wp_region_held_drew (S := fun _ => True) (by kernel_rfl) trivial (fun hHeld => ?_)
    refine Hn.take (i := 0) (d := some 13) (v := .pointer (some ⟨ob, 0, none⟩)) rfl (by kernel_rfl) (by kernel_rfl) (by kernel_rfl) (by kernel_rfl) (fun _ _ _ h => h) (Or.inl ⟨by rfl, by intro w hSw; go_simp⟩) hHeld ?_
    simp only [Act.put, List.setIfInBounds_toArray, List.set_cons_zero, List.set_cons_succ]
    refine Hn.take (i := 2) (d := some 15) (v := .pointer (some ⟨g, 0, none⟩)) rfl (by kernel_rfl) (by kernel_rfl) (by kernel_rfl) (by kernel_rfl) (fun _ _ _ h => h) (Or.inl ⟨by rfl, by intro w hSw; go_simp⟩) hHeld ?_
    simp only [Act.put, List.setIfInBounds_toArray, List.set_cons_zero, List.set_cons_succ]
    have ov0 : OV wr.drew B v l := ov.below ((Below.refl _ _).drew)
    have kO0 : wr.drew.heap[ob]? = some (.cells #[v] 56 (0, 0)) := kO
    have kR0 : wr.drew.heap[w.heap.size]? = some (.cells #[.slice none 0 0] 56 (0, 0)) := kR
    have hC0 : Cur wr.drew g a b off cap c := ⟨hC.blk, hC.rd.below ((Below.refl _ _).drew), hC.ne⟩
    have hO0 : Only g w wr.drew := only_trans hO ⟨rfl, rfl, rfl, Nat.le_refl _, fun _ _ _ => rfl⟩
    have sW : wr.drew.heap.size = wr.heap.size := rfl
    generalize wr.drew = W at *
    refine wpAnyH_ready (rs := [1, 3]) (by kernel_rfl) (by simp) (Hn.readyRun (i := 1) rfl (by kernel_rfl) (some 14) (by kernel_rfl) (v := v) (w' := W) (by have o0 := one kO0; go_simp) trivial (fun hHeld => ?_) (Hn.call1 (i := 3) rfl (by rfl) 112 (.tmp 15) 70 (by kernel_rfl) 16 (by kernel_rfl) (.pointer (some ⟨g, 0, none⟩)) (by kernel_rfl) (fun _ => rfl) (any_any g a b off cap c W hC0) ?_ AllReadyH.nil))
    · simp only [Act.put, List.setIfInBounds_toArray, List.set_cons_zero, List.set_cons_succ]
      refine wpAnyH_ready (rs := [3]) (by kernel_rfl) (by simp) (Hn.call1 (i := 3) rfl (by rfl) 112 (.tmp 15) 70 (by kernel_rfl) 16 (by kernel_rfl) (.pointer (some ⟨g, 0, none⟩)) (by kernel_rfl) (fun _ => rfl) (any_any g a b off cap c W hC0) ?_ AllReadyH.nil)
      rintro e1 Wc ⟨n, s, rfl, hz, hC1, hO1⟩
      replace kO0 := only_at hO1 kO0 (by omega)
      replace ov0 := ov0.only hO1 (by omega)
      replace kR0 := only_at hO1 kR0 (by omega)
      replace hO0 := only_trans hO0 hO1
      have sC := hO1.size
      replace hC0 := hC1
      clear hC1 hO1
      refine ⟨_, rfl, trivial, fun hHeld => ?_⟩
      simp only [Act.put, List.setIfInBounds_toArray, List.set_cons_zero, List.set_cons_succ]
      refine wpAnyH_ready (rs := [4]) (by kernel_rfl) (by simp) (Hn.readyRun (i := 4) rfl (by kernel_rfl) (some 17) (by kernel_rfl) (v := .slice (some ⟨Wc.heap.size, 0, none⟩) 1 1) (w' := Wc.alloc (.cells #[.int .i64 n, .string s] 35)) (exec_oneV rfl (by kernel_rfl)) trivial (fun hHeld => ?_) AllReadyH.nil)
      simp only [Act.put, List.setIfInBounds_toArray, List.set_cons_zero, List.set_cons_succ]
      obtain ⟨Wd, hWd⟩ : ∃ Wd, Wd = Wc.alloc (.cells #[.int .i64 n, .string s] 35) := ⟨_, rfl⟩
      rw [← hWd]
      have hT : Wd.heap[Wc.heap.size]? = some (.cells #[.int .i64 n, .string s] 35 (0, 0)) := by subst hWd; exact at_new rfl
      have hb : Below Wc.heap.size Wc Wd := by subst hWd; exact below_alloc1 _ _
      replace kO0 := (hb.block _ (blk_lt kO0)).trans kO0
      replace ov0 := ov0.below hb
      replace kR0 := (hb.block _ (blk_lt kR0)).trans kR0
      replace hC0 : Cur Wd g a b off cap c := by subst hWd; exact cur_alloc hC0 _
      replace hO0 : Only g w Wd := by subst hWd; exact only_alloc hO0 _
      have sD := hb.size
      clear hb hWd
      obtain ⟨va, vn, vc, Z, hrun, ovZ, hgr⟩ := ov0.app 32 (c := 1) (by omega) hT hz hll
      refine wpAnyH_ready (rs := [5]) (by kernel_rfl) (by simp) (Hn.readyRun (i := 5) rfl (by kernel_rfl) (some 18) (by kernel_rfl) (Hn.exec_app (.tmp 14) (.tmp 17) rfl (by kernel_rfl) (by kernel_rfl) hrun) trivial (fun hHeld => ?_) AllReadyH.nil)
      simp only [Act.put, List.setIfInBounds_toArray, List.set_cons_zero, List.set_cons_succ]
      have kOZ := (hgr.block _ (blk_lt kO0) (fun e => ov_ne ov0 kO0 e.symm)).trans kO0
      have kRZ := (hgr.block _ (blk_lt kR0) (fun e => ov_ne ov0 kR0 e.symm)).trans kR0
      replace hC0 := cur_grown (B := B) hC0 hgr (fun k hk => (ov0.lt hk).1) hgB hbB (by omega)
      replace hO0 := only_grown (B := B) hO0 hgr (fun k hk => (ov0.lt hk).1) (by omega)
      have sZ := hgr.size
      have o0 := one kOZ
      have fO := Vl.free kOZ
      refine Hn.take (i := 6) (d := some 19) (v := .pointer (some ⟨ob, 0, none⟩)) rfl (by kernel_rfl) (by kernel_rfl) (by kernel_rfl) (by kernel_rfl) (fun _ _ _ h => h) (Or.inl ⟨by rfl, by intro w hSw; go_simp⟩) hHeld ?_
      simp only [Act.put, List.setIfInBounds_toArray, List.set_cons_zero, List.set_cons_succ]
      refine wpAnyH_ready (rs := [7]) (by kernel_rfl) (by simp) (Hn.readySkip (i := 7) rfl (by kernel_rfl) none (by kernel_rfl) (w' := Z.setCell ⟨ob, 0, none⟩ (.slice va vn vc)) (by go_simp) trivial (fun hHeld => ?_) AllReadyH.nil)
      simp only [Act.put, List.setIfInBounds_toArray, List.set_cons_zero, List.set_cons_succ]
      refine wpAnyH_done (by kernel_rfl) ?_ _
      have kO' : (Z.setCell ⟨ob, 0, none⟩ (.slice va vn vc)).heap[ob]? = some (.cells #[.slice va vn vc] 56 (0, 0)) := one_set kOZ
      have ov' : OV (Z.setCell ⟨ob, 0, none⟩ (.slice va vn vc)) B (.slice va vn vc) (l ++ [(n, s)]) := ovZ.keep fun x hx hx2 => Below.heap_setCell _ _ _ _ (fun e => ov_ne ovZ kOZ (by rw [hx2, e]))
      have hC' := cur_set (x := ⟨ob, 0, none⟩) (u := .slice va vn vc) hC0 (by simp only; omega) (hbW.imp id fun q => by simp only; omega)
      have hO' := only_set (x := ⟨ob, 0, none⟩) (u := .slice va vn vc) hO0 (by simp only; omega)
      have kRZ2 := (Below.heap_setCell Z ⟨ob, 0, none⟩ (.slice va vn vc) (w.heap.size) (by simp only; omega)).trans kRZ
      have r0 := one kRZ2
      have fR := Vl.free kRZ2
      have o0' := one kO'
      go_wp2
      refine bodyPost_ret (v := .agg #[.slice va vn vc]) (by simp [results, Try.results99, go_sem, r0]) rfl ⟨va, vn, vc, l ++ [(n, s)], rfl, ?_, ?_, ?_, ?_⟩
      · refine OV.mono (B := B) ?_ (by omega)
        exact ov'.keep fun x hx hx2 => by repeat (first | rfl | refine (Below.heap_setCell _ _ _ _ (by first | exact (fun e => ov_ne ov' kRZ2 (hx2.trans (congrArg some e))) | exact (fun e => ov_ne ov' kO' (hx2.trans (congrArg some e))))).trans ?_)
      · simp only [List.length_append, List.length_singleton]; omega
      · repeat (first | with_reducible exact hC' | refine cur_set ?_ (by simp only; omega) (hbl.imp id fun q => by simp only; omega))
      · repeat (first | with_reducible exact hO' | refine only_set ?_ (by simp only; omega))
    · rintro e1 Wc ⟨n, s, rfl, hz, hC1, hO1⟩
      replace kO0 := only_at hO1 kO0 (by omega)
      replace ov0 := ov0.only hO1 (by omega)
      replace kR0 := only_at hO1 kR0 (by omega)
      replace hO0 := only_trans hO0 hO1
      have sC := hO1.size
      replace hC0 := hC1
      clear hC1 hO1
      refine ⟨_, rfl, trivial, fun hHeld => ?_⟩
      simp only [Act.put, List.setIfInBounds_toArray, List.set_cons_zero, List.set_cons_succ]
      refine wpAnyH_ready (rs := [1, 4]) (by kernel_rfl) (by simp) (Hn.readyRun (i := 1) rfl (by kernel_rfl) (some 14) (by kernel_rfl) (v := v) (w' := Wc) (by have o0 := one kO0; go_simp) trivial (fun hHeld => ?_) (Hn.readyRun (i := 4) rfl (by kernel_rfl) (some 17) (by kernel_rfl) (v := .slice (some ⟨Wc.heap.size, 0, none⟩) 1 1) (w' := Wc.alloc (.cells #[.int .i64 n, .string s] 35)) (exec_oneV rfl (by kernel_rfl)) trivial (fun hHeld => ?_) AllReadyH.nil))
      · simp only [Act.put, List.setIfInBounds_toArray, List.set_cons_zero, List.set_cons_succ]
        refine wpAnyH_ready (rs := [4]) (by kernel_rfl) (by simp) (Hn.readyRun (i := 4) rfl (by kernel_rfl) (some 17) (by kernel_rfl) (v := .slice (some ⟨Wc.heap.size, 0, none⟩) 1 1) (w' := Wc.alloc (.cells #[.int .i64 n, .string s] 35)) (exec_oneV rfl (by kernel_rfl)) trivial (fun hHeld => ?_) AllReadyH.nil)
        simp only [Act.put, List.setIfInBounds_toArray, List.set_cons_zero, List.set_cons_succ]
        obtain ⟨Wd, hWd⟩ : ∃ Wd, Wd = Wc.alloc (.cells #[.int .i64 n, .string s] 35) := ⟨_, rfl⟩
        rw [← hWd]
        have hT : Wd.heap[Wc.heap.size]? = some (.cells #[.int .i64 n, .string s] 35 (0, 0)) := by subst hWd; exact at_new rfl
        have hb : Below Wc.heap.size Wc Wd := by subst hWd; exact below_alloc1 _ _
        replace kO0 := (hb.block _ (blk_lt kO0)).trans kO0
        replace ov0 := ov0.below hb
        replace kR0 := (hb.block _ (blk_lt kR0)).trans kR0
        replace hC0 : Cur Wd g a b off cap c := by subst hWd; exact cur_alloc hC0 _
        replace hO0 : Only g w Wd := by subst hWd; exact only_alloc hO0 _
        have sD := hb.size
        clear hb hWd
        obtain ⟨va, vn, vc, Z, hrun, ovZ, hgr⟩ := ov0.app 32 (c := 1) (by omega) hT hz hll
        refine wpAnyH_ready (rs := [5]) (by kernel_rfl) (by simp) (Hn.readyRun (i := 5) rfl (by kernel_rfl) (some 18) (by kernel_rfl) (Hn.exec_app (.tmp 14) (.tmp 17) rfl (by kernel_rfl) (by kernel_rfl) hrun) trivial (fun hHeld => ?_) AllReadyH.nil)
        simp only [Act.put, List.setIfInBounds_toArray, List.set_cons_zero, List.set_cons_succ]
        have kOZ := (hgr.block _ (blk_lt kO0) (fun e => ov_ne ov0 kO0 e.symm)).trans kO0
        have kRZ := (hgr.block _ (blk_lt kR0) (fun e => ov_ne ov0 kR0 e.symm)).trans kR0
        replace hC0 := cur_grown (B := B) hC0 hgr (fun k hk => (ov0.lt hk).1) hgB hbB (by omega)
        replace hO0 := only_grown (B := B) hO0 hgr (fun k hk => (ov0.lt hk).1) (by omega)
        have sZ := hgr.size
        have o0 := one kOZ
        have fO := Vl.free kOZ
        refine Hn.take (i := 6) (d := some 19) (v := .pointer (some ⟨ob, 0, none⟩)) rfl (by kernel_rfl) (by kernel_rfl) (by kernel_rfl) (by kernel_rfl) (fun _ _ _ h => h) (Or.inl ⟨by rfl, by intro w hSw; go_simp⟩) hHeld ?_
        simp only [Act.put, List.setIfInBounds_toArray, List.set_cons_zero, List.set_cons_succ]
        refine wpAnyH_ready (rs := [7]) (by kernel_rfl) (by simp) (Hn.readySkip (i := 7) rfl (by kernel_rfl) none (by kernel_rfl) (w' := Z.setCell ⟨ob, 0, none⟩ (.slice va vn vc)) (by go_simp) trivial (fun hHeld => ?_) AllReadyH.nil)
        simp only [Act.put, List.setIfInBounds_toArray, List.set_cons_zero, List.set_cons_succ]
        refine wpAnyH_done (by kernel_rfl) ?_ _
        have kO' : (Z.setCell ⟨ob, 0, none⟩ (.slice va vn vc)).heap[ob]? = some (.cells #[.slice va vn vc] 56 (0, 0)) := one_set kOZ
        have ov' : OV (Z.setCell ⟨ob, 0, none⟩ (.slice va vn vc)) B (.slice va vn vc) (l ++ [(n, s)]) := ovZ.keep fun x hx hx2 => Below.heap_setCell _ _ _ _ (fun e => ov_ne ovZ kOZ (by rw [hx2, e]))
        have hC' := cur_set (x := ⟨ob, 0, none⟩) (u := .slice va vn vc) hC0 (by simp only; omega) (hbW.imp id fun q => by simp only; omega)
        have hO' := only_set (x := ⟨ob, 0, none⟩) (u := .slice va vn vc) hO0 (by simp only; omega)
        have kRZ2 := (Below.heap_setCell Z ⟨ob, 0, none⟩ (.slice va vn vc) (w.heap.size) (by simp only; omega)).trans kRZ
        have r0 := one kRZ2
        have fR := Vl.free kRZ2
        have o0' := one kO'
        go_wp2
        refine bodyPost_ret (v := .agg #[.slice va vn vc]) (by simp [results, Try.results99, go_sem, r0]) rfl ⟨va, vn, vc, l ++ [(n, s)], rfl, ?_, ?_, ?_, ?_⟩
        · refine OV.mono (B := B) ?_ (by omega)
          exact ov'.keep fun x hx hx2 => by repeat (first | rfl | refine (Below.heap_setCell _ _ _ _ (by first | exact (fun e => ov_ne ov' kRZ2 (hx2.trans (congrArg some e))) | exact (fun e => ov_ne ov' kO' (hx2.trans (congrArg some e))))).trans ?_)
        · simp only [List.length_append, List.length_singleton]; omega
        · repeat (first | with_reducible exact hC' | refine cur_set ?_ (by simp only; omega) (hbl.imp id fun q => by simp only; omega))
        · repeat (first | with_reducible exact hO' | refine only_set ?_ (by simp only; omega))
      · simp only [Act.put, List.setIfInBounds_toArray, List.set_cons_zero, List.set_cons_succ]
        obtain ⟨Wd, hWd⟩ : ∃ Wd, Wd = Wc.alloc (.cells #[.int .i64 n, .string s] 35) := ⟨_, rfl⟩
        rw [← hWd]
        have hT : Wd.heap[Wc.heap.size]? = some (.cells #[.int .i64 n, .string s] 35 (0, 0)) := by subst hWd; exact at_new rfl
        have hb : Below Wc.heap.size Wc Wd := by subst hWd; exact below_alloc1 _ _
        replace kO0 := (hb.block _ (blk_lt kO0)).trans kO0
        replace ov0 := ov0.below hb
        replace kR0 := (hb.block _ (blk_lt kR0)).trans kR0
        replace hC0 : Cur Wd g a b off cap c := by subst hWd; exact cur_alloc hC0 _
        replace hO0 : Only g w Wd := by subst hWd; exact only_alloc hO0 _
        have sD := hb.size
        clear hb hWd
        refine wpAnyH_ready (rs := [1]) (by kernel_rfl) (by simp) (Hn.readyRun (i := 1) rfl (by kernel_rfl) (some 14) (by kernel_rfl) (v := v) (w' := Wd) (by have o0 := one kO0; go_simp) trivial (fun hHeld => ?_) AllReadyH.nil)
        simp only [Act.put, List.setIfInBounds_toArray, List.set_cons_zero, List.set_cons_succ]
        obtain ⟨va, vn, vc, Z, hrun, ovZ, hgr⟩ := ov0.app 32 (c := 1) (by omega) hT hz hll
        refine wpAnyH_ready (rs := [5]) (by kernel_rfl) (by simp) (Hn.readyRun (i := 5) rfl (by kernel_rfl) (some 18) (by kernel_rfl) (Hn.exec_app (.tmp 14) (.tmp 17) rfl (by kernel_rfl) (by kernel_rfl) hrun) trivial (fun hHeld => ?_) AllReadyH.nil)
        simp only [Act.put, List.setIfInBounds_toArray, List.set_cons_zero, List.set_cons_succ]
        have kOZ := (hgr.block _ (blk_lt kO0) (fun e => ov_ne ov0 kO0 e.symm)).trans kO0
        have kRZ := (hgr.block _ (blk_lt kR0) (fun e => ov_ne ov0 kR0 e.symm)).trans kR0
        replace hC0 := cur_grown (B := B) hC0 hgr (fun k hk => (ov0.lt hk).1) hgB hbB (by omega)
        replace hO0 := only_grown (B := B) hO0 hgr (fun k hk => (ov0.lt hk).1) (by omega)
        have sZ := hgr.size
        have o0 := one kOZ
        have fO := Vl.free kOZ
        refine Hn.take (i := 6) (d := some 19) (v := .pointer (some ⟨ob, 0, none⟩)) rfl (by kernel_rfl) (by kernel_rfl) (by kernel_rfl) (by kernel_rfl) (fun _ _ _ h => h) (Or.inl ⟨by rfl, by intro w hSw; go_simp⟩) hHeld ?_
        simp only [Act.put, List.setIfInBounds_toArray, List.set_cons_zero, List.set_cons_succ]
        refine wpAnyH_ready (rs := [7]) (by kernel_rfl) (by simp) (Hn.readySkip (i := 7) rfl (by kernel_rfl) none (by kernel_rfl) (w' := Z.setCell ⟨ob, 0, none⟩ (.slice va vn vc)) (by go_simp) trivial (fun hHeld => ?_) AllReadyH.nil)
        simp only [Act.put, List.setIfInBounds_toArray, List.set_cons_zero, List.set_cons_succ]
        refine wpAnyH_done (by kernel_rfl) ?_ _
        have kO' : (Z.setCell ⟨ob, 0, none⟩ (.slice va vn vc)).heap[ob]? = some (.cells #[.slice va vn vc] 56 (0, 0)) := one_set kOZ
        have ov' : OV (Z.setCell ⟨ob, 0, none⟩ (.slice va vn vc)) B (.slice va vn vc) (l ++ [(n, s)]) := ovZ.keep fun x hx hx2 => Below.heap_setCell _ _ _ _ (fun e => ov_ne ovZ kOZ (by rw [hx2, e]))
        have hC' := cur_set (x := ⟨ob, 0, none⟩) (u := .slice va vn vc) hC0 (by simp only; omega) (hbW.imp id fun q => by simp only; omega)
        have hO' := only_set (x := ⟨ob, 0, none⟩) (u := .slice va vn vc) hO0 (by simp only; omega)
        have kRZ2 := (Below.heap_setCell Z ⟨ob, 0, none⟩ (.slice va vn vc) (w.heap.size) (by simp only; omega)).trans kRZ
        have r0 := one kRZ2
        have fR := Vl.free kRZ2
        have o0' := one kO'
        go_wp2
        refine bodyPost_ret (v := .agg #[.slice va vn vc]) (by simp [results, Try.results99, go_sem, r0]) rfl ⟨va, vn, vc, l ++ [(n, s)], rfl, ?_, ?_, ?_, ?_⟩
        · refine OV.mono (B := B) ?_ (by omega)
          exact ov'.keep fun x hx hx2 => by repeat (first | rfl | refine (Below.heap_setCell _ _ _ _ (by first | exact (fun e => ov_ne ov' kRZ2 (hx2.trans (congrArg some e))) | exact (fun e => ov_ne ov' kO' (hx2.trans (congrArg some e))))).trans ?_)
        · simp only [List.length_append, List.length_singleton]; omega
        · repeat (first | with_reducible exact hC' | refine cur_set ?_ (by simp only; omega) (hbl.imp id fun q => by simp only; omega))
        · repeat (first | with_reducible exact hO' | refine only_set ?_ (by simp only; omega))
  · have o0 := one kO
    have fO := Vl.free kO
    have r0 := one kR
    have fR := Vl.free kR
    have t2 : True := trivial
    go_wp2_with (first
      | (go_at_call 81; clear t2; refine (below_any _ _ _ _ _ _ 2 _ hC (by omega) (by omega)).mono ?_; rintro e w4 ⟨x, rfl, x0, x1, hC1, hO1⟩; clear o0 fO r0 fR; replace kO := only_at hO1 kO (by omega); replace zB := Nat.le_trans zB hO1.size; replace hO := only_trans hO hO1; replace kR := only_at hO1 kR (by omega); replace hC := hC1; clear hC1; clear hO1)
      | (go_at_call 101; have wx : IntKind.i64.wrap (6 + x) = 6 + x := (by rw [IntKind.wrap_i64]; omega); refine (drow_any _ (by omega) (by omega) _ _ _ _ _ _ _ hC).mono ?_; rintro e w5 ⟨va, vn, vc, l2, rfl, ov2, hl2, hC1, hO1⟩; have kO4 := blk_lt kO; have kR4 := blk_lt kR; replace kO := only_at hO1 kO (by omega); replace hO := only_trans hO hO1; replace kR := only_at hO1 kR (by omega); replace hC := hC1; clear hC1; clear hO1; have o0 := one kO; have fO := Vl.free kO; have r0 := one kR; have fR := Vl.free kR))
    refine bodyPost_ret (v := .agg #[.slice va vn vc]) (by simp [results, Try.results99, go_sem, r0]) rfl ⟨va, vn, vc, l2, rfl, ?_, ?_, ?_, ?_⟩
    · refine OV.mono (B := w4.heap.size) ?_ (by omega)
      exact ov2.keep fun x hx hx2 => by repeat (first | rfl | refine (Below.heap_setCell _ _ _ _ (by first | exact (fun e => ov_ne ov2 kR (hx2.trans (congrArg some e))) | exact (fun e => ov_ne ov2 kO (hx2.trans (congrArg some e))))).trans ?_)
    · omega
    · repeat (first | with_reducible exact hC | refine cur_set ?_ (by simp only; omega) (hbl.imp id fun q => by simp only; omega))
    · repeat (first | with_reducible exact hO | refine only_set ?_ (by simp only; omega))
  · have o0 := one kO
    have r0 := one kR
    have fR := Vl.free kR
    obtain ⟨va, hva⟩ : ∃ va, va = ua := ⟨_, rfl⟩
    obtain ⟨vn, hvn⟩ : ∃ vn, vn = un := ⟨_, rfl⟩
    obtain ⟨vc, hvc⟩ : ∃ vc, vc = uc := ⟨_, rfl⟩
    rw [← hva, ← hvn, ← hvc] at kO ov o0 obl
    clear hva hvn hvc
    go_wp2
    refine bodyPost_ret (v := .agg #[.slice va vn vc]) (by simp [results, Try.results99, go_sem, r0]) rfl ⟨va, vn, vc, l, rfl, ?_, ?_, ?_, ?_⟩
    · refine OV.mono (B := B) ?_ (by omega)
      exact ov.keep fun x hx hx2 => by repeat (first | rfl | refine (Below.heap_setCell _ _ _ _ (by first | exact (fun e => ov_ne ov kR (hx2.trans (congrArg some e))) | exact (fun e => ov_ne ov kO (hx2.trans (congrArg some e))))).trans ?_)
    · omega
    · repeat (first | with_reducible exact hC | refine cur_set ?_ (by simp only; omega) (hbl.imp id fun q => by simp only; omega))
    · repeat (first | with_reducible exact hO | refine only_set ?_ (by simp only; omega))

end Go.Proofs.Ytfiebakgphcnbaa.Dr
