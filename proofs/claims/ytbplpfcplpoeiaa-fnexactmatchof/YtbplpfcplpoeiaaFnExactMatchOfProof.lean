/- At every head the program and the specification answer the same match, in memory of its own; the argument reads as before; no condition. -/
import Derived.Test.YtbplpfcplpoeiaaRows
import Derived.Test.YtbplpfcplpoeiaaLm
import Derived.Test.YtbplpfcplpoeiaaLk
import Derived.Test.YtbplpfcplpoeiaaLh
import Derived.WalkKit
import Derived.ProofKit
import Derived.OpenShut
import Derived.ShutString
import Derived.ChangeOld
import Derived.Below
import Derived.Deep.RegionWith
import Derived.Deep.RegionHeld3
namespace Go.Proofs.Ytbplpfcplpoeiaa.fnExactMatchOf
open Go.ChangeShapes Go.WideShapes Go.ChangeAt Go.RowKit
set_option linter.unusedVariables false
set_option linter.unusedSimpArgs false

theorem own : ownKnob Try.prog.godebug = none := by kernel_rfl
theorem laidOut : laidOutB Try.prog = true := by kernel_rfl

set_option maxHeartbeats 8000000 in
theorem walk (a0v : Option Addr) (n0v c0v : Nat) (z0v : List Int) (w : World) (w0v : Rw.IsRow .i64 w a0v n0v c0v z0v) :
    Calls Try.prog 7 #[.agg #[.slice a0v n0v c0v]] w fun e w' => e = .returned (.bool true) ∧ Below w.heap.size w w' := by
  have mx0v := Hr.isRow_max w0v
  by_cases hb0 : 1048576 < n0v
  · clear w0v
    go_enter Try.func7, Try.ntmps7
    go_wp2_with (go_at_call 35; refine (Lm.szH_big _ _ _ 1048576 _ hb0 (Nat.le_refl _) mx0v).mono ?_; rintro e wa ⟨rfl, hb⟩)
    go_ret
    exact ⟨rfl, Rw.next (Pl.below_alloc1 _ _) hb⟩
  obtain ⟨L1, hL1⟩ : ∃ L1, n0v + L1 = 1048576 := ⟨1048576 - (n0v), by omega⟩
  have hp1 : ¬ ((L1 : Int) < 0) := by omega
  obtain ⟨b0v, o0v, V0, hV0, r0v, wdV0⟩ := Lm.rd_wide w0v (by omega)
  subst hV0
  clear w0v mx0v
  have smV0 : V0.length ≤ 1048576 := by omega
  have ltV0 := Hr.rd_lt r0v
  obtain ⟨LV, LM, hI, hS⟩ := Lh.ofR V0 wdV0
  have HI : Hid (Rg.CH 38 V0 (fun w => Pm.ResM w LV LM)) := hI
  have HS : Hid (Rg.CH 36 V0 (fun w => Pm.ResM w LV LM)) := hS
  clear hI hS wdV0
  obtain ⟨W0, hW0⟩ : ∃ W0, W0 = (w.alloc (.cells #[.slice a0v V0.length c0v] 47)) := ⟨_, rfl⟩
  have B : Below w.heap.size w W0 := by subst hW0; exact Pl.below_alloc1 _ _
  have k0 : W0.heap[w.heap.size]? = some (.cells #[.slice a0v V0.length c0v] 47 (0, 0)) := by subst hW0; exact Pl.at_new rfl
  have zk0 : w.heap.size < W0.heap.size := by subst hW0; simp <;> omega
  have syk0 := zk0
  replace r0v := r0v.below B
  go_enter Try.func7, Try.ntmps7
  have tk1 : True := trivial
  go_wp2_with (go_at_call 35; clear tk1; rw [← hW0]; refine (Rg.szH_at _ _ _ 1048576 L1 _ hL1 (Nat.le_refl _)).mono ?_; rintro e w1 ⟨rfl, hb⟩; have sz1 := hb.size; replace B := Rw.next B hb; replace k0 := (hb.block _ zk0).trans k0; replace zk0 := Nat.lt_of_lt_of_le zk0 hb.size; replace r0v := r0v.below hb; clear hb; have c0v := Hh.one k0)
  have tk2 : True := trivial
  go_wp2_with (go_at_call 37; clear tk2; refine (Hh.toHead_any _ _ _ _ _ _ r0v).mono ?_; rintro e w2 ⟨gav, rfl, hb, galv, ha0v⟩; have sz2 := hb.size; clear c0v; replace B := Rw.next B hb; replace k0 := (hb.block _ zk0).trans k0; replace zk0 := Nat.lt_of_lt_of_le zk0 hb.size; replace r0v := r0v.below hb; clear hb; have ltha0v := ha0v.row.lt; have c0v := Hh.one k0)
  have tk3 : True := trivial
  go_wp2_with (go_at_call 36; clear tk3; refine (HS.out _ _ _ _ _ ha0v.rd).mono ?_; rintro e w3 ⟨sa, sv, sc, sb, sm, sd, rfl, hsv, hsm, slv, slm, sne, hb⟩; have sz3 := hb.size; clear c0v; replace B := Rw.next B hb; replace k0 := (hb.block _ zk0).trans k0; replace zk0 := Nat.lt_of_lt_of_le zk0 hb.size; replace r0v := r0v.below hb; replace ha0v := ha0v.below hb; clear hb; have ltsv := Hr.wt_lt hsv; have ltsm := Hr.wt_lt hsm; have BX := Pl.below_alloc1 w3 (.cells #[.slice sa LV.length sc, .slice sb LM.length sd] 25); replace B := Rw.next B BX; replace k0 := (BX.block _ zk0).trans k0; replace zk0 := Nat.lt_of_lt_of_le zk0 BX.size; replace r0v := r0v.below BX; replace ha0v := ha0v.below BX; replace hsv := hsv.below BX; replace hsm := hsm.below BX; have ks : (w3.alloc (.cells #[.slice sa LV.length sc, .slice sb LM.length sd] 25)).heap[w3.heap.size]? = some (.cells #[.slice sa LV.length sc, .slice sb LM.length sd] 25 (0, 0)) := Pl.at_new rfl; have zks : w3.heap.size < (w3.alloc (.cells #[.slice sa LV.length sc, .slice sb LM.length sd] 25)).heap.size := (by simp); have syks := zks; clear BX; have c0v := Hh.one k0; obtain ⟨csv, csm⟩ := Pm.two ks)
  clear ha0v ltha0v
  have tk4 : True := trivial
  go_wp2_with (go_at_call 37; clear tk4; refine (Hh.toHead_any _ _ _ _ _ _ r0v).mono ?_; rintro e w4 ⟨gx0v, rfl, hb, gx0lv, hx0v⟩; have sz4 := hb.size; clear c0v csv csm; replace B := Rw.next B hb; replace k0 := (hb.block _ zk0).trans k0; replace zk0 := Nat.lt_of_lt_of_le zk0 hb.size; replace r0v := r0v.below hb; replace hsv := hsv.below hb; replace hsm := hsm.below hb; replace ks := (hb.block _ zks).trans ks; replace zks := Nat.lt_of_lt_of_le zks hb.size; clear hb; have ltx0v := hx0v.row.lt; have BX := Pl.below_alloc1 w4 (.cells #[.slice (some ⟨gx0v, 0, none⟩) V0.length V0.length] 27); replace B := Rw.next B BX; replace k0 := (BX.block _ zk0).trans k0; replace zk0 := Nat.lt_of_lt_of_le zk0 BX.size; replace r0v := r0v.below BX; replace hsv := hsv.below BX; replace hsm := hsm.below BX; replace ks := (BX.block _ zks).trans ks; replace zks := Nat.lt_of_lt_of_le zks BX.size; replace hx0v := hx0v.below BX; have kx0 : (w4.alloc (.cells #[.slice (some ⟨gx0v, 0, none⟩) V0.length V0.length] 27)).heap[w4.heap.size]? = some (.cells #[.slice (some ⟨gx0v, 0, none⟩) V0.length V0.length] 27 (0, 0)) := Pl.at_new rfl; have zkx0 : w4.heap.size < (w4.alloc (.cells #[.slice (some ⟨gx0v, 0, none⟩) V0.length V0.length] 27)).heap.size := (by simp); have sykx0 := zkx0; clear BX; have c0v := Hh.one k0; obtain ⟨csv, csm⟩ := Pm.two ks; have x0v := Hh.one kx0)
  have tk5 : True := trivial
  go_wp2_with (go_at_call 38; clear tk5; refine (HI.out _ _ _ _ _ hx0v.rd).mono ?_; rintro e w5 ⟨ga, gv, gc, gb, gm, gd, rfl, hgv, hgm, glv, glm, gne, hb⟩; have sz5 := hb.size; clear c0v csv csm x0v; replace B := Rw.next B hb; replace k0 := (hb.block _ zk0).trans k0; replace zk0 := Nat.lt_of_lt_of_le zk0 hb.size; replace r0v := r0v.below hb; replace hsv := hsv.below hb; replace hsm := hsm.below hb; replace ks := (hb.block _ zks).trans ks; replace zks := Nat.lt_of_lt_of_le zks hb.size; replace hx0v := hx0v.below hb; replace kx0 := (hb.block _ zkx0).trans kx0; replace zkx0 := Nat.lt_of_lt_of_le zkx0 hb.size; clear hb; have ltgv := Hr.wt_lt hgv; have ltgm := Hr.wt_lt hgm; have BX := Pl.below_alloc1 w5 (.cells #[.slice ga LV.length gc, .slice gb LM.length gd] 25); replace B := Rw.next B BX; replace k0 := (BX.block _ zk0).trans k0; replace zk0 := Nat.lt_of_lt_of_le zk0 BX.size; replace r0v := r0v.below BX; replace hsv := hsv.below BX; replace hsm := hsm.below BX; replace ks := (BX.block _ zks).trans ks; replace zks := Nat.lt_of_lt_of_le zks BX.size; replace hx0v := hx0v.below BX; replace kx0 := (BX.block _ zkx0).trans kx0; replace zkx0 := Nat.lt_of_lt_of_le zkx0 BX.size; replace hgv := hgv.below BX; replace hgm := hgm.below BX; have kg : (w5.alloc (.cells #[.slice ga LV.length gc, .slice gb LM.length gd] 25)).heap[w5.heap.size]? = some (.cells #[.slice ga LV.length gc, .slice gb LM.length gd] 25 (0, 0)) := Pl.at_new rfl; have zkg : w5.heap.size < (w5.alloc (.cells #[.slice ga LV.length gc, .slice gb LM.length gd] 25)).heap.size := (by simp); have sykg := zkg; clear BX; have c0v := Hh.one k0; obtain ⟨csv, csm⟩ := Pm.two ks; have x0v := Hh.one kx0; obtain ⟨cgv, cgm⟩ := Pm.two kg)
  have tk6 : True := trivial
  go_wp2_with (go_at_call 31; clear tk6; refine (Lm.eqMatch_same _ _ _ _ _ _ _ _ _ _ _ _ _ _ _ _ LV LM _ hgv.rd hgm.rd hsv.rd hsm.rd).mono ?_; rintro e w6 ⟨rfl, hb⟩; have sz6 := hb.size; clear c0v csv csm x0v cgv cgm; replace B := Rw.next B hb; replace k0 := (hb.block _ zk0).trans k0; replace zk0 := Nat.lt_of_lt_of_le zk0 hb.size; replace r0v := r0v.below hb; replace hsv := hsv.below hb; replace hsm := hsm.below hb; replace ks := (hb.block _ zks).trans ks; replace zks := Nat.lt_of_lt_of_le zks hb.size; replace hx0v := hx0v.below hb; replace kx0 := (hb.block _ zkx0).trans kx0; replace zkx0 := Nat.lt_of_lt_of_le zkx0 hb.size; replace hgv := hgv.below hb; replace hgm := hgm.below hb; replace kg := (hb.block _ zkg).trans kg; replace zkg := Nat.lt_of_lt_of_le zkg hb.size; clear hb; have c0v := Hh.one k0; obtain ⟨csv, csm⟩ := Pm.two ks; have x0v := Hh.one kx0; obtain ⟨cgv, cgm⟩ := Pm.two kg)
  go_wp2_with fail
  clear c0v csv csm x0v cgv cgm
  refine wp_region_held_drew (S := (fun w' => w'.heap[w4.heap.size]? = some (.cells #[.slice (some ⟨gx0v, 0, none⟩) V0.length V0.length] 27 (0, 0)) ∧ w'.heap[w.heap.size]? = some (.cells #[.slice a0v V0.length c0v] 47 (0, 0)))) (by kernel_rfl) ⟨kx0, k0⟩ (fun hHeld => ?_)
  have BD : Below w6.heap.size w6 w6.drew := (Below.refl _ _).drew
  have syd6 : w6.heap.size ≤ w6.drew.heap.size := Nat.le_refl _
  replace B := Rw.next B BD
  replace k0 := (BD.block _ zk0).trans k0
  replace zk0 := Nat.lt_of_lt_of_le zk0 BD.size
  replace r0v := r0v.below BD
  replace hsv := hsv.below BD
  replace hsm := hsm.below BD
  replace ks := (BD.block _ zks).trans ks
  replace zks := Nat.lt_of_lt_of_le zks BD.size
  replace hx0v := hx0v.below BD
  replace kx0 := (BD.block _ zkx0).trans kx0
  replace zkx0 := Nat.lt_of_lt_of_le zkx0 BD.size
  replace hgv := hgv.below BD
  replace hgm := hgm.below BD
  replace kg := (BD.block _ zkg).trans kg
  replace zkg := Nat.lt_of_lt_of_le zkg BD.size
  clear BD
  refine Pq.take (i := 0) (d := some 27) (v := .agg #[.slice (some ⟨gx0v, 0, none⟩) V0.length V0.length]) rfl (by kernel_rfl) (by kernel_rfl) (by kernel_rfl) (by kernel_rfl) (fun _ _ _ h => h) (Or.inl ⟨by rfl, by intro w hSw; obtain ⟨q0, q1⟩ := hSw; have t0 := Hh.one q0; go_simp⟩) hHeld ?_
  simp only [Act.put, List.setIfInBounds_toArray, List.set_cons_zero, List.set_cons_succ]
  refine Pq.take (i := 1) (d := some 28) (v := .agg #[.slice a0v V0.length c0v]) rfl (by kernel_rfl) (by kernel_rfl) (by kernel_rfl) (by kernel_rfl) (fun _ _ _ h => h) (Or.inl ⟨by rfl, by intro w hSw; obtain ⟨q0, q1⟩ := hSw; have t0 := Hh.one q1; go_simp⟩) hHeld ?_
  simp only [Act.put, List.setIfInBounds_toArray, List.set_cons_zero, List.set_cons_succ]
  refine wpAnyH_ready (rs := [2]) (by kernel_rfl) (by simp) (Rg.call1 rfl (by kernel_rfl) 37 (.tmp 28) 47 (by kernel_rfl) 29 (by kernel_rfl) (.agg #[.slice a0v V0.length c0v]) (by kernel_rfl) (fun _ => rfl) (Hh.toHead_any _ _ _ _ _ _ r0v) ?_ AllReadyH.nil)
  rintro e w7 ⟨gyv, rfl, hb, gylv, hyv⟩
  refine ⟨_, rfl, ⟨(hb.block _ zkx0).trans kx0, (hb.block _ zk0).trans k0⟩, fun hHeld => ?_⟩
  simp only [Act.put, List.setIfInBounds_toArray, List.set_cons_zero, List.set_cons_succ]
  have sz7 := hb.size
  replace B := Rw.next B hb
  replace k0 := (hb.block _ zk0).trans k0
  replace zk0 := Nat.lt_of_lt_of_le zk0 hb.size
  replace r0v := r0v.below hb
  replace hsv := hsv.below hb
  replace hsm := hsm.below hb
  replace ks := (hb.block _ zks).trans ks
  replace zks := Nat.lt_of_lt_of_le zks hb.size
  replace hx0v := hx0v.below hb
  replace kx0 := (hb.block _ zkx0).trans kx0
  replace zkx0 := Nat.lt_of_lt_of_le zkx0 hb.size
  replace hgv := hgv.below hb
  replace hgm := hgm.below hb
  replace kg := (hb.block _ zkg).trans kg
  replace zkg := Nat.lt_of_lt_of_le zkg hb.size
  clear hb
  refine wpAnyH_ready (rs := [3]) (by kernel_rfl) (by simp) (Rg.call2 rfl (by kernel_rfl) 39 (.tmp 27) (.tmp 29) 27 27 (by kernel_rfl) 30 (by kernel_rfl) (.agg #[.slice (some ⟨gx0v, 0, none⟩) V0.length V0.length]) (.agg #[.slice (some ⟨gyv, 0, none⟩) V0.length V0.length]) (by kernel_rfl) (by kernel_rfl) (fun _ => rfl) (Hh.eqHead_same _ _ _ _ _ _ _ _ V0 _ hx0v.rd hyv.rd) ?_ AllReadyH.nil)
  rintro e w8 ⟨rfl, hb⟩
  refine ⟨_, rfl, ⟨(hb.block _ zkx0).trans kx0, (hb.block _ zk0).trans k0⟩, fun hHeld => ?_⟩
  simp only [Act.put, List.setIfInBounds_toArray, List.set_cons_zero, List.set_cons_succ]
  have sz8 := hb.size
  replace B := Rw.next B hb
  replace k0 := (hb.block _ zk0).trans k0
  replace zk0 := Nat.lt_of_lt_of_le zk0 hb.size
  replace r0v := r0v.below hb
  replace hsv := hsv.below hb
  replace hsm := hsm.below hb
  replace ks := (hb.block _ zks).trans ks
  replace zks := Nat.lt_of_lt_of_le zks hb.size
  replace hx0v := hx0v.below hb
  replace kx0 := (hb.block _ zkx0).trans kx0
  replace zkx0 := Nat.lt_of_lt_of_le zkx0 hb.size
  replace hgv := hgv.below hb
  replace hgm := hgm.below hb
  replace kg := (hb.block _ zkg).trans kg
  replace zkg := Nat.lt_of_lt_of_le zkg hb.size
  replace hyv := hyv.below hb
  clear hb
  clear hyv
  refine Pq.take (i := 4) (d := some 31) (v := .bool false) rfl (by kernel_rfl) (by kernel_rfl) (by kernel_rfl) (by kernel_rfl) (fun _ _ _ h => h) (Or.inl ⟨by rfl, by intro w hSw; go_simp⟩) hHeld ?_
  simp only [Act.put, List.setIfInBounds_toArray, List.set_cons_zero, List.set_cons_succ]
  refine wpAnyH_done (by kernel_rfl) ?_ _
  have c0v := Hh.one k0
  obtain ⟨csv, csm⟩ := Pm.two ks
  have x0v := Hh.one kx0
  obtain ⟨cgv, cgm⟩ := Pm.two kg
  have hk0 : ¬ (1 + (V0.length : Int) < 0) := by omega
  have tk7 : True := trivial
  go_wp2_with (go_at_call 40; clear tk7; refine (Hh.markHead_any _ _ _ _ _ (Hr.mine_wt hx0v)).mono ?_; rintro e w9 ⟨rfl, ho, h00, hxm⟩; have hk := Mf.kept_of ho h00; have sz9 := hk.size; clear c0v csv csm x0v cgv cgm; replace B := Lk.below_kept B B.size hk (by omega); replace k0 := (hk.block _ zk0 (by omega)).trans k0; replace zk0 := Nat.lt_of_lt_of_le zk0 hk.size; replace r0v := Lk.rd_kept hk r0v (by omega); replace hsv := Lk.wt_kept hk hsv (by omega); replace hsm := Lk.wt_kept hk hsm (by omega); replace ks := (hk.block _ zks (by omega)).trans ks; replace zks := Nat.lt_of_lt_of_le zks hk.size; replace kx0 := (hk.block _ zkx0 (by omega)).trans kx0; replace zkx0 := Nat.lt_of_lt_of_le zkx0 hk.size; replace hgv := Lk.wt_kept hk hgv (by omega); replace hgm := Lk.wt_kept hk hgm (by omega); replace kg := (hk.block _ zkg (by omega)).trans kg; replace zkg := Nat.lt_of_lt_of_le zkg hk.size; clear hk ho h00 hxm hx0v; have c0v := Hh.one k0; obtain ⟨csv, csm⟩ := Pm.two ks; have x0v := Hh.one kx0; obtain ⟨cgv, cgm⟩ := Pm.two kg)
  have tk8 : True := trivial
  go_wp2_with (go_at_call 31; clear tk8; refine (Lm.eqMatch_same _ _ _ _ _ _ _ _ _ _ _ _ _ _ _ _ LV LM _ hgv.rd hgm.rd hsv.rd hsm.rd).mono ?_; rintro e w10 ⟨rfl, hb⟩; have sz10 := hb.size; clear c0v csv csm x0v cgv cgm; replace B := Rw.next B hb; replace k0 := (hb.block _ zk0).trans k0; replace zk0 := Nat.lt_of_lt_of_le zk0 hb.size; replace r0v := r0v.below hb; replace hsv := hsv.below hb; replace hsm := hsm.below hb; replace ks := (hb.block _ zks).trans ks; replace zks := Nat.lt_of_lt_of_le zks hb.size; replace kx0 := (hb.block _ zkx0).trans kx0; replace zkx0 := Nat.lt_of_lt_of_le zkx0 hb.size; replace hgv := hgv.below hb; replace hgm := hgm.below hb; replace kg := (hb.block _ zkg).trans kg; replace zkg := Nat.lt_of_lt_of_le zkg hb.size; clear hb; have c0v := Hh.one k0; obtain ⟨csv, csm⟩ := Pm.two ks; have x0v := Hh.one kx0; obtain ⟨cgv, cgm⟩ := Pm.two kg)
  have tk9 : True := trivial
  go_wp2_with (go_at_call 33; clear tk9; refine (Lm.markM_any 1 (by omega) (by omega) _ _ _ _ _ _ _ _ _ hgv hgm gne).mono ?_; rintro e w11 ⟨rfl, hk, hNv, hNm⟩; have sz11 := hk.size; clear c0v csv csm x0v cgv cgm; replace B := Mf.Kept2.below B B.size hk (by omega) (by omega); replace k0 := (hk.block _ zk0 (by omega) (by omega)).trans k0; replace zk0 := Nat.lt_of_lt_of_le zk0 hk.size; replace r0v := hk.rd r0v (by omega); replace hsv := hk.wt hsv (by omega); replace hsm := hk.wt hsm (by omega); replace ks := (hk.block _ zks (by omega) (by omega)).trans ks; replace zks := Nat.lt_of_lt_of_le zks hk.size; replace kx0 := (hk.block _ zkx0 (by omega) (by omega)).trans kx0; replace zkx0 := Nat.lt_of_lt_of_le zkx0 hk.size; replace kg := (hk.block _ zkg (by omega) (by omega)).trans kg; replace zkg := Nat.lt_of_lt_of_le zkg hk.size; clear hk hgv hgm; have c0v := Hh.one k0; obtain ⟨csv, csm⟩ := Pm.two ks; have x0v := Hh.one kx0; obtain ⟨cgv, cgm⟩ := Pm.two kg)
  have hq0 : ¬ (1 + (LV.length : Int) + (LM.length : Int) < 0) := by omega
  have tk10 : True := trivial
  go_wp2_with (go_at_call 34; clear tk10; refine (Lm.heldM_any 1 (by omega) (by omega) _ _ _ _ _ _ _ _ _ hNv hNm).mono ?_; rintro e w12 ⟨rfl, hb⟩; have sz12 := hb.size; clear c0v csv csm x0v cgv cgm; replace B := Rw.next B hb; replace k0 := (hb.block _ zk0).trans k0; replace zk0 := Nat.lt_of_lt_of_le zk0 hb.size; replace r0v := r0v.below hb; replace hsv := hsv.below hb; replace hsm := hsm.below hb; replace ks := (hb.block _ zks).trans ks; replace zks := Nat.lt_of_lt_of_le zks hb.size; replace kx0 := (hb.block _ zkx0).trans kx0; replace zkx0 := Nat.lt_of_lt_of_le zkx0 hb.size; replace kg := (hb.block _ zkg).trans kg; replace zkg := Nat.lt_of_lt_of_le zkg hb.size; replace hNv := hNv.below hb; replace hNm := hNm.below hb; clear hb; have c0v := Hh.one k0; obtain ⟨csv, csm⟩ := Pm.two ks; have x0v := Hh.one kx0; obtain ⟨cgv, cgm⟩ := Pm.two kg)
  have tk11 : True := trivial
  go_wp2_with (go_at_call 37; clear tk11; refine (Hh.toHead_any _ _ _ _ _ _ r0v).mono ?_; rintro e w13 ⟨ghv, rfl, hb, ghlv, hh0v⟩; have sz13 := hb.size; clear c0v csv csm x0v cgv cgm; replace B := Rw.next B hb; replace k0 := (hb.block _ zk0).trans k0; replace zk0 := Nat.lt_of_lt_of_le zk0 hb.size; replace r0v := r0v.below hb; replace hsv := hsv.below hb; replace hsm := hsm.below hb; replace ks := (hb.block _ zks).trans ks; replace zks := Nat.lt_of_lt_of_le zks hb.size; replace kx0 := (hb.block _ zkx0).trans kx0; replace zkx0 := Nat.lt_of_lt_of_le zkx0 hb.size; replace kg := (hb.block _ zkg).trans kg; replace zkg := Nat.lt_of_lt_of_le zkg hb.size; replace hNv := hNv.below hb; replace hNm := hNm.below hb; clear hb; have lthh0v := hh0v.row.lt; have c0v := Hh.one k0; obtain ⟨csv, csm⟩ := Pm.two ks; have x0v := Hh.one kx0; obtain ⟨cgv, cgm⟩ := Pm.two kg)
  have tk12 : True := trivial
  go_wp2_with (go_at_call 38; clear tk12; refine (HI.out _ _ _ _ _ hh0v.rd).mono ?_; rintro e w14 ⟨ta, tv, tc, tb, tm, td, rfl, htv, htm, tlv, tlm, tne, hb⟩; have sz14 := hb.size; clear c0v csv csm x0v cgv cgm; replace B := Rw.next B hb; replace k0 := (hb.block _ zk0).trans k0; replace zk0 := Nat.lt_of_lt_of_le zk0 hb.size; replace r0v := r0v.below hb; replace hsv := hsv.below hb; replace hsm := hsm.below hb; replace ks := (hb.block _ zks).trans ks; replace zks := Nat.lt_of_lt_of_le zks hb.size; replace kx0 := (hb.block _ zkx0).trans kx0; replace zkx0 := Nat.lt_of_lt_of_le zkx0 hb.size; replace kg := (hb.block _ zkg).trans kg; replace zkg := Nat.lt_of_lt_of_le zkg hb.size; replace hNv := hNv.below hb; replace hNm := hNm.below hb; replace hh0v := hh0v.below hb; clear hb; have lttv := Hr.wt_lt htv; have lttm := Hr.wt_lt htm; have BX := Pl.below_alloc1 w14 (.cells #[.slice ta LV.length tc, .slice tb LM.length td] 25); replace B := Rw.next B BX; replace k0 := (BX.block _ zk0).trans k0; replace zk0 := Nat.lt_of_lt_of_le zk0 BX.size; replace r0v := r0v.below BX; replace hsv := hsv.below BX; replace hsm := hsm.below BX; replace ks := (BX.block _ zks).trans ks; replace zks := Nat.lt_of_lt_of_le zks BX.size; replace kx0 := (BX.block _ zkx0).trans kx0; replace zkx0 := Nat.lt_of_lt_of_le zkx0 BX.size; replace kg := (BX.block _ zkg).trans kg; replace zkg := Nat.lt_of_lt_of_le zkg BX.size; replace hNv := hNv.below BX; replace hNm := hNm.below BX; replace hh0v := hh0v.below BX; replace htv := htv.below BX; replace htm := htm.below BX; have kt : (w14.alloc (.cells #[.slice ta LV.length tc, .slice tb LM.length td] 25)).heap[w14.heap.size]? = some (.cells #[.slice ta LV.length tc, .slice tb LM.length td] 25 (0, 0)) := Pl.at_new rfl; have zkt : w14.heap.size < (w14.alloc (.cells #[.slice ta LV.length tc, .slice tb LM.length td] 25)).heap.size := (by simp); have sykt := zkt; clear BX; have c0v := Hh.one k0; obtain ⟨csv, csm⟩ := Pm.two ks; have x0v := Hh.one kx0; obtain ⟨cgv, cgm⟩ := Pm.two kg; obtain ⟨ctv, ctm⟩ := Pm.two kt)
  have tk13 : True := trivial
  go_wp2_with (go_at_call 31; clear tk13; refine (Lm.eqMatch_same _ _ _ _ _ _ _ _ _ _ _ _ _ _ _ _ LV LM _ htv.rd htm.rd hsv.rd hsm.rd).mono ?_; rintro e w15 ⟨rfl, hb⟩; have sz15 := hb.size; clear c0v csv csm x0v cgv cgm ctv ctm; replace B := Rw.next B hb; replace k0 := (hb.block _ zk0).trans k0; replace zk0 := Nat.lt_of_lt_of_le zk0 hb.size; replace r0v := r0v.below hb; replace hsv := hsv.below hb; replace hsm := hsm.below hb; replace ks := (hb.block _ zks).trans ks; replace zks := Nat.lt_of_lt_of_le zks hb.size; replace kx0 := (hb.block _ zkx0).trans kx0; replace zkx0 := Nat.lt_of_lt_of_le zkx0 hb.size; replace kg := (hb.block _ zkg).trans kg; replace zkg := Nat.lt_of_lt_of_le zkg hb.size; replace hNv := hNv.below hb; replace hNm := hNm.below hb; replace hh0v := hh0v.below hb; replace htv := htv.below hb; replace htm := htm.below hb; replace kt := (hb.block _ zkt).trans kt; replace zkt := Nat.lt_of_lt_of_le zkt hb.size; clear hb; have c0v := Hh.one k0; obtain ⟨csv, csm⟩ := Pm.two ks; have x0v := Hh.one kx0; obtain ⟨cgv, cgm⟩ := Pm.two kg; obtain ⟨ctv, ctm⟩ := Pm.two kt)
  have tk14 : True := trivial
  go_wp2_with (go_at_call 34; clear tk14; refine (Lm.heldM_any 1 (by omega) (by omega) _ _ _ _ _ _ _ _ _ hNv hNm).mono ?_; rintro e w16 ⟨rfl, hb⟩; have sz16 := hb.size; clear c0v csv csm x0v cgv cgm ctv ctm; replace B := Rw.next B hb; replace k0 := (hb.block _ zk0).trans k0; replace zk0 := Nat.lt_of_lt_of_le zk0 hb.size; replace r0v := r0v.below hb; replace hsv := hsv.below hb; replace hsm := hsm.below hb; replace ks := (hb.block _ zks).trans ks; replace zks := Nat.lt_of_lt_of_le zks hb.size; replace kx0 := (hb.block _ zkx0).trans kx0; replace zkx0 := Nat.lt_of_lt_of_le zkx0 hb.size; replace kg := (hb.block _ zkg).trans kg; replace zkg := Nat.lt_of_lt_of_le zkg hb.size; replace hNv := hNv.below hb; replace hNm := hNm.below hb; replace hh0v := hh0v.below hb; replace htv := htv.below hb; replace htm := htm.below hb; replace kt := (hb.block _ zkt).trans kt; replace zkt := Nat.lt_of_lt_of_le zkt hb.size; clear hb; have c0v := Hh.one k0; obtain ⟨csv, csm⟩ := Pm.two ks; have x0v := Hh.one kx0; obtain ⟨cgv, cgm⟩ := Pm.two kg; obtain ⟨ctv, ctm⟩ := Pm.two kt)
  go_ret
  exact ⟨rfl, B⟩

set_option maxRecDepth 100000 in
theorem lifted (os : Os) (started : os.Started) (H : Type) (enc : TypeId × Value → H) :
    ReturnsInHanded {} Try.checked os 7 .any (Rows.fnExactMatchOfSpec.pre6 enc Try.prog Try.f7 Rows.fnExactMatchOfRow.domain false) (Rows.fnExactMatchOfSpec.post enc Try.prog Try.f7 false true false false) := by
  refine returnsInHanded_of_change (C := Try.checked) own started (by kernel_rfl) Try.func7
    (ChangeSpec.witness6 (enc := enc) (C := Try.checked) false ⟨#[], #[.agg #[.slice none 0 0]], []⟩ 8 (by kernel_rfl) (by kernel_rfl) (by kernel_rfl) (by kernel_rfl)) ?_
  intro W base args ds gs before hval0 hW hcnd _
  have hval : ∀ (j : Nat) t v, Try.f7.params[j]? = some t → args[j]? = some v → Value.okWide Try.prog W .any base t v := hval0
  have hW' := hW
  obtain ⟨p, q, hA0, hV, rfl, hfz, hnd⟩ := hW
  have hA : DataW.TrodAll enc Try.prog W 0 (fun _ => true) true Try.f7.params.toList args.toList ds p := hA0
  rw [Try.params7] at hA hval
  obtain ⟨v0, vs0, d0, ds0, p0, q0, hargs, rfl, rfl, h0, r0⟩ := trodAll_cons hA
  obtain ⟨rfl, rfl, rfl⟩ := trodAll_nil r0
  obtain rfl : args = #[v0] := by cases args; simp_all
  obtain ⟨rfl, rfl⟩ := trodVars_none hV
  have k0 := h0
  have lt0 : ∀ x ∈ p0, x.block < W.heap.size := by obtain ⟨m, hm⟩ := k0; exact DataW.trod_lt m _ _ _ hm
  obtain ⟨a0v, n0v, c0v, z0v, rfl, w0v⟩ := Hh.open_head (hval 0 47 v0 rfl rfl) h0
  clear hA0 hval0
  refine (walk a0v n0v c0v z0v W w0v).mono fun e W' ⟨he, bel⟩ => ?_
  subst he
  exact ⟨_, rfl, _, _, _, [], _, [], hW', trodAll_mk1 (shut_bool Try.underlying4 _), (trodAll_cons_mk (Below.trod laidOut (by kernel_rfl) (of_decide_eq_true (by kernel_rfl)) k0 bel lt0) trodAll_mk0), rfl, bel.frame _, fun h => by cases h⟩

theorem over : Rows.fnExactMatchOfRow.holds Try.pinned (OpenSpec.ofChange Rows.fnExactMatchOfSpec) :=
  OpenClaim.holds_of_wide 7 Try.f7 rfl rfl rfl rfl rfl rfl rfl ⟨rfl, rfl, rfl, rfl, rfl⟩ rfl rfl rfl rfl rfl (by kernel_rfl) Try.func7 (by kernel_rfl)
    (of_decide_eq_true (by kernel_rfl)) (by unfold Func.isWrapper; first | (rw [if_pos (by decide +kernel)]; kernel_rfl) | (rw [if_neg (by decide +kernel)]; exact ⟨rfl, rfl⟩))
    (fun os started H enc _ => lifted os started H enc)

theorem proved : Rows.FnExactMatchOfSaid := over
end Go.Proofs.Ytbplpfcplpoeiaa.fnExactMatchOf

namespace Go.Proofs.Ytbplpfcplpoeiaa
theorem FnExactMatchOf_holds : Rows.FnExactMatchOfSaid := fnExactMatchOf.proved
end Go.Proofs.Ytbplpfcplpoeiaa
