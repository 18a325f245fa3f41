/- At every two matches the program and the specification answer the same, the arguments read as before; no condition. -/
import Derived.Test.YtbplpfcplpoeiaaRows
import Derived.Test.YtbplpfcplpoeiaaLm
import Derived.Test.YtbplpfcplpoeiaaLe
import Derived.WalkKit
import Derived.ProofKit
import Derived.OpenShut
import Derived.ShutString
import Derived.ChangeOld
import Derived.Below
import Derived.Deep.RegionWith
import Derived.Deep.RegionHeld3
namespace Go.Proofs.Ytbplpfcplpoeiaa.fnExactMeets
open Go.ChangeShapes Go.WideShapes Go.ChangeAt Go.RowKit
set_option linter.unusedVariables false
set_option linter.unusedSimpArgs false

theorem own : ownKnob Try.prog.godebug = none := by kernel_rfl
theorem laidOut : laidOutB Try.prog = true := by kernel_rfl

set_option maxHeartbeats 8000000 in
theorem walk (a0v : Option Addr) (n0v c0v : Nat) (z0v : List Int) (a0m : Option Addr) (n0m c0m : Nat) (z0m : List Int) (a1v : Option Addr) (n1v c1v : Nat) (z1v : List Int) (a1m : Option Addr) (n1m c1m : Nat) (z1m : List Int) (w : World) (w0v : Rw.IsRow .i64 w a0v n0v c0v z0v) (w0m : Rw.IsRow .i64 w a0m n0m c0m z0m) (w1v : Rw.IsRow .i64 w a1v n1v c1v z1v) (w1m : Rw.IsRow .i64 w a1m n1m c1m z1m) :
    Calls Try.prog 11 #[.agg #[.slice a0v n0v c0v, .slice a0m n0m c0m], .agg #[.slice a1v n1v c1v, .slice a1m n1m c1m]] w fun e w' => e = .returned (.bool true) ∧ Below w.heap.size w w' := by
  have mx0v := Hr.isRow_max w0v
  have mx0m := Hr.isRow_max w0m
  have mx1v := Hr.isRow_max w1v
  have mx1m := Hr.isRow_max w1m
  by_cases hb0 : 1048576 < n0v + n0m
  · clear w0v w0m w1v w1m
    go_enter Try.func11, Try.ntmps11
    go_wp2_with (go_at_call 27; refine (Lm.szM_big _ _ _ _ _ _ 1048576 _ hb0 (Nat.le_refl _) mx0v mx0m).mono ?_; rintro e wa ⟨rfl, hb⟩)
    go_ret
    exact ⟨rfl, Rw.next (Rw.next (Pl.below_alloc1 _ _) (Pl.below_alloc1 _ _)) hb⟩
  obtain ⟨L1, hL1⟩ : ∃ L1, n0v + n0m + L1 = 1048576 := ⟨1048576 - (n0v + n0m), by omega⟩
  have hp1 : ¬ ((L1 : Int) < 0) := by omega
  by_cases hb1 : L1 < n1v + n1m
  · obtain ⟨W0, hW0⟩ : ∃ W0, W0 = ((w.alloc (.cells #[.slice a0v n0v c0v, .slice a0m n0m c0m] 40)).alloc (.cells #[.slice a1v n1v c1v, .slice a1m n1m c1m] 40)) := ⟨_, rfl⟩
    have B : Below w.heap.size w W0 := by subst hW0; exact Rw.next (Pl.below_alloc1 _ _) (Pl.below_alloc1 _ _)
    have k1 : W0.heap[w.heap.size + 1]? = some (.cells #[.slice a1v n1v c1v, .slice a1m n1m c1m] 40 (0, 0)) := by subst hW0; exact Pl.at_new (by simp)
    clear w0v w0m w1v w1m
    go_enter Try.func11, Try.ntmps11
    go_wp2_with (go_at_call 27; rw [← hW0]; refine (Rg.szM_at _ _ _ _ _ _ 1048576 L1 _ hL1 (Nat.le_refl _)).mono ?_; rintro e wa ⟨rfl, hb⟩; replace k1 := (hb.block _ (Array.getElem?_eq_some_iff.1 k1).1).trans k1; replace B := Rw.next B hb; clear hb; obtain ⟨p0, p1⟩ := Pm.two k1)
    go_wp2_with (go_at_call 27; refine (Lm.szM_big _ _ _ _ _ _ L1 _ hb1 (by omega) mx1v mx1m).mono ?_; rintro e wb ⟨rfl, hb⟩)
    go_ret
    exact ⟨rfl, Rw.next B hb⟩
  obtain ⟨L2, hL2⟩ : ∃ L2, n1v + n1m + L2 = L1 := ⟨L1 - (n1v + n1m), by omega⟩
  have hp2 : ¬ ((L2 : Int) < 0) := by omega
  obtain ⟨b0v, o0v, V0, hV0, r0v, wdV0⟩ := Lm.rd_wide w0v (by omega)
  subst hV0
  obtain ⟨b0m, o0m, M0, hM0, r0m, wdM0⟩ := Lm.rd_wide w0m (by omega)
  subst hM0
  obtain ⟨b1v, o1v, V1, hV1, r1v, wdV1⟩ := Lm.rd_wide w1v (by omega)
  subst hV1
  obtain ⟨b1m, o1m, M1, hM1, r1m, wdM1⟩ := Lm.rd_wide w1m (by omega)
  subst hM1
  clear w0v mx0v w0m mx0m w1v mx1v w1m mx1m
  have smV0 : V0.length ≤ 1048576 := by omega
  have ltV0 := Hr.rd_lt r0v
  have smM0 : M0.length ≤ 1048576 := by omega
  have ltM0 := Hr.rd_lt r0m
  have smV1 : V1.length ≤ 1048576 := by omega
  have ltV1 := Hr.rd_lt r1v
  have smM1 : M1.length ≤ 1048576 := by omega
  have ltM1 := Hr.rd_lt r1m
  obtain ⟨R, hI, hS⟩ := Le.meetsR V0 M0 V1 M1 wdV0 wdM0 wdV1 wdM1
  have HI : Hid (Rg.CMM 42 V0 M0 V1 M1 (Rg.Bo R)) := hI
  have HS : Hid (Rg.CMM 20 V0 M0 V1 M1 (Rg.Bo R)) := hS
  clear hI hS wdV0 wdM0 wdV1 wdM1
  obtain ⟨W0, hW0⟩ : ∃ W0, W0 = ((w.alloc (.cells #[.slice a0v V0.length c0v, .slice a0m M0.length c0m] 40)).alloc (.cells #[.slice a1v V1.length c1v, .slice a1m M1.length c1m] 40)) := ⟨_, rfl⟩
  have B : Below w.heap.size w W0 := by subst hW0; exact Rw.next (Pl.below_alloc1 _ _) (Pl.below_alloc1 _ _)
  have k0 : W0.heap[w.heap.size]? = some (.cells #[.slice a0v V0.length c0v, .slice a0m M0.length c0m] 40 (0, 0)) := by subst hW0; exact (Pl.at_old (by simp)).trans (Pl.at_new rfl)
  have zk0 : w.heap.size < W0.heap.size := by subst hW0; simp <;> omega
  replace r0v := r0v.below B
  replace r0m := r0m.below B
  have k1 : W0.heap[w.heap.size + 1]? = some (.cells #[.slice a1v V1.length c1v, .slice a1m M1.length c1m] 40 (0, 0)) := by subst hW0; exact Pl.at_new (by simp)
  have zk1 : w.heap.size + 1 < W0.heap.size := by subst hW0; simp <;> omega
  replace r1v := r1v.below B
  replace r1m := r1m.below B
  go_enter Try.func11, Try.ntmps11
  have tk1 : True := trivial
  go_wp2_with (go_at_call 27; clear tk1; rw [← hW0]; refine (Rg.szM_at _ _ _ _ _ _ 1048576 L1 _ hL1 (Nat.le_refl _)).mono ?_; rintro e w1 ⟨rfl, hb⟩; have sz1 := hb.size; replace B := Rw.next B hb; replace k0 := (hb.block _ zk0).trans k0; replace zk0 := Nat.lt_of_lt_of_le zk0 hb.size; replace k1 := (hb.block _ zk1).trans k1; replace zk1 := Nat.lt_of_lt_of_le zk1 hb.size; replace r0v := r0v.below hb; replace r0m := r0m.below hb; replace r1v := r1v.below hb; replace r1m := r1m.below hb; clear hb; obtain ⟨c0v, c0m⟩ := Pm.two k0; obtain ⟨c1v, c1m⟩ := Pm.two k1)
  have tk2 : True := trivial
  go_wp2_with (go_at_call 27; clear tk2; refine (Rg.szM_at _ _ _ _ _ _ L1 L2 _ hL2 (by omega)).mono ?_; rintro e w2 ⟨rfl, hb⟩; have sz2 := hb.size; clear c0v c0m c1v c1m; replace B := Rw.next B hb; replace k0 := (hb.block _ zk0).trans k0; replace zk0 := Nat.lt_of_lt_of_le zk0 hb.size; replace k1 := (hb.block _ zk1).trans k1; replace zk1 := Nat.lt_of_lt_of_le zk1 hb.size; replace r0v := r0v.below hb; replace r0m := r0m.below hb; replace r1v := r1v.below hb; replace r1m := r1m.below hb; clear hb; obtain ⟨c0v, c0m⟩ := Pm.two k0; obtain ⟨c1v, c1m⟩ := Pm.two k1)
  go_wp2_with fail
  clear c0v c0m c1v c1m
  refine wp_region_held_drew (S := (fun w' => w'.heap[w.heap.size]? = some (.cells #[.slice a0v V0.length c0v, .slice a0m M0.length c0m] 40 (0, 0)) ∧ w'.heap[w.heap.size + 1]? = some (.cells #[.slice a1v V1.length c1v, .slice a1m M1.length c1m] 40 (0, 0)))) (by kernel_rfl) ⟨k0, k1⟩ (fun hHeld => ?_)
  have BD : Below w2.heap.size w2 w2.drew := (Below.refl _ _).drew
  replace B := Rw.next B BD
  replace k0 := (BD.block _ zk0).trans k0
  replace zk0 := Nat.lt_of_lt_of_le zk0 BD.size
  replace k1 := (BD.block _ zk1).trans k1
  replace zk1 := Nat.lt_of_lt_of_le zk1 BD.size
  replace r0v := r0v.below BD
  replace r0m := r0m.below BD
  replace r1v := r1v.below BD
  replace r1m := r1m.below BD
  clear BD
  refine Pq.take (i := 0) (d := some 20) (v := .agg #[.slice a0v V0.length c0v, .slice a0m M0.length c0m]) rfl (by kernel_rfl) (by kernel_rfl) (by kernel_rfl) (by kernel_rfl) (fun _ _ _ h => h) (Or.inl ⟨by rfl, by intro w hSw; obtain ⟨q0, q1⟩ := hSw; obtain ⟨t0, t1⟩ := Pm.two q0; go_simp⟩) hHeld ?_
  simp only [Act.put, List.setIfInBounds_toArray, List.set_cons_zero, List.set_cons_succ]
  refine Pq.take (i := 2) (d := some 22) (v := .agg #[.slice a1v V1.length c1v, .slice a1m M1.length c1m]) rfl (by kernel_rfl) (by kernel_rfl) (by kernel_rfl) (by kernel_rfl) (fun _ _ _ h => h) (Or.inl ⟨by rfl, by intro w hSw; obtain ⟨q0, q1⟩ := hSw; obtain ⟨t0, t1⟩ := Pm.two q1; go_simp⟩) hHeld ?_
  simp only [Act.put, List.setIfInBounds_toArray, List.set_cons_zero, List.set_cons_succ]
  refine wpAnyH_ready (rs := [1]) (by kernel_rfl) (by simp) (Rg.call1 rfl (by kernel_rfl) 29 (.tmp 20) 40 (by kernel_rfl) 21 (by kernel_rfl) (.agg #[.slice a0v V0.length c0v, .slice a0m M0.length c0m]) (by kernel_rfl) (fun _ => rfl) (Lm.toMatch_any _ _ _ _ _ _ _ _ _ _ _ r0v r0m) ?_ AllReadyH.nil)
  rintro e w3 ⟨gav, gam, rfl, hb, galv, galm, gane, ha0v, ha0m⟩
  refine ⟨_, rfl, ⟨(hb.block _ zk0).trans k0, (hb.block _ zk1).trans k1⟩, fun hHeld => ?_⟩
  simp only [Act.put, List.setIfInBounds_toArray, List.set_cons_zero, List.set_cons_succ]
  have sz3 := hb.size
  replace B := Rw.next B hb
  replace k0 := (hb.block _ zk0).trans k0
  replace zk0 := Nat.lt_of_lt_of_le zk0 hb.size
  replace k1 := (hb.block _ zk1).trans k1
  replace zk1 := Nat.lt_of_lt_of_le zk1 hb.size
  replace r0v := r0v.below hb
  replace r0m := r0m.below hb
  replace r1v := r1v.below hb
  replace r1m := r1m.below hb
  clear hb
  refine wpAnyH_ready (rs := [3]) (by kernel_rfl) (by simp) (Rg.call1 rfl (by kernel_rfl) 29 (.tmp 22) 40 (by kernel_rfl) 23 (by kernel_rfl) (.agg #[.slice a1v V1.length c1v, .slice a1m M1.length c1m]) (by kernel_rfl) (fun _ => rfl) (Lm.toMatch_any _ _ _ _ _ _ _ _ _ _ _ r1v r1m) ?_ AllReadyH.nil)
  rintro e w4 ⟨gbv, gbm, rfl, hb, gblv, gblm, gbne, ha1v, ha1m⟩
  refine ⟨_, rfl, ⟨(hb.block _ zk0).trans k0, (hb.block _ zk1).trans k1⟩, fun hHeld => ?_⟩
  simp only [Act.put, List.setIfInBounds_toArray, List.set_cons_zero, List.set_cons_succ]
  have sz4 := hb.size
  replace B := Rw.next B hb
  replace k0 := (hb.block _ zk0).trans k0
  replace zk0 := Nat.lt_of_lt_of_le zk0 hb.size
  replace k1 := (hb.block _ zk1).trans k1
  replace zk1 := Nat.lt_of_lt_of_le zk1 hb.size
  replace r0v := r0v.below hb
  replace r0m := r0m.below hb
  replace r1v := r1v.below hb
  replace r1m := r1m.below hb
  replace ha0v := ha0v.below hb
  replace ha0m := ha0m.below hb
  clear hb
  refine wpAnyH_ready (rs := [4]) (by kernel_rfl) (by simp) (Rg.call2 rfl (by kernel_rfl) 20 (.tmp 21) (.tmp 23) 25 25 (by kernel_rfl) 24 (by kernel_rfl) (.agg #[.slice (some ⟨gav, 0, none⟩) V0.length V0.length, .slice (some ⟨gam, 0, none⟩) M0.length M0.length]) (.agg #[.slice (some ⟨gbv, 0, none⟩) V1.length V1.length, .slice (some ⟨gbm, 0, none⟩) M1.length M1.length]) (by kernel_rfl) (by kernel_rfl) (fun _ => rfl) (HS.out _ _ _ _ _ _ _ _ _ _ _ _ _ _ _ _ _ ha0v.rd ha0m.rd ha1v.rd ha1m.rd) ?_ AllReadyH.nil)
  rintro e w5 ⟨rfl, hb⟩
  refine ⟨_, rfl, ⟨(hb.block _ zk0).trans k0, (hb.block _ zk1).trans k1⟩, fun hHeld => ?_⟩
  simp only [Act.put, List.setIfInBounds_toArray, List.set_cons_zero, List.set_cons_succ]
  have sz5 := hb.size
  replace B := Rw.next B hb
  replace k0 := (hb.block _ zk0).trans k0
  replace zk0 := Nat.lt_of_lt_of_le zk0 hb.size
  replace k1 := (hb.block _ zk1).trans k1
  replace zk1 := Nat.lt_of_lt_of_le zk1 hb.size
  replace r0v := r0v.below hb
  replace r0m := r0m.below hb
  replace r1v := r1v.below hb
  replace r1m := r1m.below hb
  replace ha0v := ha0v.below hb
  replace ha0m := ha0m.below hb
  replace ha1v := ha1v.below hb
  replace ha1m := ha1m.below hb
  clear hb
  clear ha0v ha0m ha1v ha1m
  refine Pq.take (i := 5) (d := some 6) (v := .bool R) rfl (by kernel_rfl) (by kernel_rfl) (by kernel_rfl) (by kernel_rfl) (fun _ _ _ h => h) (Or.inl ⟨by rfl, by intro w hSw; go_simp⟩) hHeld ?_
  simp only [Act.put, List.setIfInBounds_toArray, List.set_cons_zero, List.set_cons_succ]
  refine wpAnyH_done (by kernel_rfl) ?_ _
  obtain ⟨c0v, c0m⟩ := Pm.two k0
  obtain ⟨c1v, c1m⟩ := Pm.two k1
  have tk3 : True := trivial
  go_wp2_with (go_at_call 29; clear tk3; refine (Lm.toMatch_any _ _ _ _ _ _ _ _ _ _ _ r0v r0m).mono ?_; rintro e w6 ⟨gx0v, gx0m, rfl, hb, gx0lv, gx0lm, gx0ne, hx0v, hx0m⟩; have sz6 := hb.size; clear c0v c0m c1v c1m; replace B := Rw.next B hb; replace k0 := (hb.block _ zk0).trans k0; replace zk0 := Nat.lt_of_lt_of_le zk0 hb.size; replace k1 := (hb.block _ zk1).trans k1; replace zk1 := Nat.lt_of_lt_of_le zk1 hb.size; replace r0v := r0v.below hb; replace r0m := r0m.below hb; replace r1v := r1v.below hb; replace r1m := r1m.below hb; clear hb; have ltx0v := hx0v.row.lt; have ltx0m := hx0m.row.lt; have BX := Pl.below_alloc1 w6 (.cells #[.slice (some ⟨gx0v, 0, none⟩) V0.length V0.length, .slice (some ⟨gx0m, 0, none⟩) M0.length M0.length] 25); replace B := Rw.next B BX; replace k0 := (BX.block _ zk0).trans k0; replace zk0 := Nat.lt_of_lt_of_le zk0 BX.size; replace k1 := (BX.block _ zk1).trans k1; replace zk1 := Nat.lt_of_lt_of_le zk1 BX.size; replace r0v := r0v.below BX; replace r0m := r0m.below BX; replace r1v := r1v.below BX; replace r1m := r1m.below BX; replace hx0v := hx0v.below BX; replace hx0m := hx0m.below BX; have kx0 : (w6.alloc (.cells #[.slice (some ⟨gx0v, 0, none⟩) V0.length V0.length, .slice (some ⟨gx0m, 0, none⟩) M0.length M0.length] 25)).heap[w6.heap.size]? = some (.cells #[.slice (some ⟨gx0v, 0, none⟩) V0.length V0.length, .slice (some ⟨gx0m, 0, none⟩) M0.length M0.length] 25 (0, 0)) := Pl.at_new rfl; have zkx0 : w6.heap.size < (w6.alloc (.cells #[.slice (some ⟨gx0v, 0, none⟩) V0.length V0.length, .slice (some ⟨gx0m, 0, none⟩) M0.length M0.length] 25)).heap.size := (by simp); clear BX; obtain ⟨c0v, c0m⟩ := Pm.two k0; obtain ⟨c1v, c1m⟩ := Pm.two k1; obtain ⟨x0v, x0m⟩ := Pm.two kx0)
  have tk4 : True := trivial
  go_wp2_with (go_at_call 29; clear tk4; refine (Lm.toMatch_any _ _ _ _ _ _ _ _ _ _ _ r1v r1m).mono ?_; rintro e w7 ⟨gx1v, gx1m, rfl, hb, gx1lv, gx1lm, gx1ne, hx1v, hx1m⟩; have sz7 := hb.size; clear c0v c0m c1v c1m x0v x0m; replace B := Rw.next B hb; replace k0 := (hb.block _ zk0).trans k0; replace zk0 := Nat.lt_of_lt_of_le zk0 hb.size; replace k1 := (hb.block _ zk1).trans k1; replace zk1 := Nat.lt_of_lt_of_le zk1 hb.size; replace r0v := r0v.below hb; replace r0m := r0m.below hb; replace r1v := r1v.below hb; replace r1m := r1m.below hb; replace hx0v := hx0v.below hb; replace hx0m := hx0m.below hb; replace kx0 := (hb.block _ zkx0).trans kx0; replace zkx0 := Nat.lt_of_lt_of_le zkx0 hb.size; clear hb; have ltx1v := hx1v.row.lt; have ltx1m := hx1m.row.lt; have BX := Pl.below_alloc1 w7 (.cells #[.slice (some ⟨gx1v, 0, none⟩) V1.length V1.length, .slice (some ⟨gx1m, 0, none⟩) M1.length M1.length] 25); replace B := Rw.next B BX; replace k0 := (BX.block _ zk0).trans k0; replace zk0 := Nat.lt_of_lt_of_le zk0 BX.size; replace k1 := (BX.block _ zk1).trans k1; replace zk1 := Nat.lt_of_lt_of_le zk1 BX.size; replace r0v := r0v.below BX; replace r0m := r0m.below BX; replace r1v := r1v.below BX; replace r1m := r1m.below BX; replace hx0v := hx0v.below BX; replace hx0m := hx0m.below BX; replace kx0 := (BX.block _ zkx0).trans kx0; replace zkx0 := Nat.lt_of_lt_of_le zkx0 BX.size; replace hx1v := hx1v.below BX; replace hx1m := hx1m.below BX; have kx1 : (w7.alloc (.cells #[.slice (some ⟨gx1v, 0, none⟩) V1.length V1.length, .slice (some ⟨gx1m, 0, none⟩) M1.length M1.length] 25)).heap[w7.heap.size]? = some (.cells #[.slice (some ⟨gx1v, 0, none⟩) V1.length V1.length, .slice (some ⟨gx1m, 0, none⟩) M1.length M1.length] 25 (0, 0)) := Pl.at_new rfl; have zkx1 : w7.heap.size < (w7.alloc (.cells #[.slice (some ⟨gx1v, 0, none⟩) V1.length V1.length, .slice (some ⟨gx1m, 0, none⟩) M1.length M1.length] 25)).heap.size := (by simp); clear BX; obtain ⟨c0v, c0m⟩ := Pm.two k0; obtain ⟨c1v, c1m⟩ := Pm.two k1; obtain ⟨x0v, x0m⟩ := Pm.two kx0; obtain ⟨x1v, x1m⟩ := Pm.two kx1)
  have tk5 : True := trivial
  go_wp2_with (go_at_call 42; clear tk5; refine (HI.out _ _ _ _ _ _ _ _ _ _ _ _ _ _ _ _ _ hx0v.rd hx0m.rd hx1v.rd hx1m.rd).mono ?_; rintro e w8 ⟨rfl, hb⟩; have sz8 := hb.size; clear c0v c0m c1v c1m x0v x0m x1v x1m; replace B := Rw.next B hb; replace k0 := (hb.block _ zk0).trans k0; replace zk0 := Nat.lt_of_lt_of_le zk0 hb.size; replace k1 := (hb.block _ zk1).trans k1; replace zk1 := Nat.lt_of_lt_of_le zk1 hb.size; replace r0v := r0v.below hb; replace r0m := r0m.below hb; replace r1v := r1v.below hb; replace r1m := r1m.below hb; replace hx0v := hx0v.below hb; replace hx0m := hx0m.below hb; replace kx0 := (hb.block _ zkx0).trans kx0; replace zkx0 := Nat.lt_of_lt_of_le zkx0 hb.size; replace hx1v := hx1v.below hb; replace hx1m := hx1m.below hb; replace kx1 := (hb.block _ zkx1).trans kx1; replace zkx1 := Nat.lt_of_lt_of_le zkx1 hb.size; clear hb; obtain ⟨c0v, c0m⟩ := Pm.two k0; obtain ⟨c1v, c1m⟩ := Pm.two k1; obtain ⟨x0v, x0m⟩ := Pm.two kx0; obtain ⟨x1v, x1m⟩ := Pm.two kx1)
  go_wp2_with fail
  clear c0v c0m c1v c1m x0v x0m x1v x1m
  refine wp_region_held_drew (S := (fun w' => w'.heap[w6.heap.size]? = some (.cells #[.slice (some ⟨gx0v, 0, none⟩) V0.length V0.length, .slice (some ⟨gx0m, 0, none⟩) M0.length M0.length] 25 (0, 0)) ∧ w'.heap[w.heap.size]? = some (.cells #[.slice a0v V0.length c0v, .slice a0m M0.length c0m] 40 (0, 0)))) (by kernel_rfl) ⟨kx0, k0⟩ (fun hHeld => ?_)
  have BD : Below w8.heap.size w8 w8.drew := (Below.refl _ _).drew
  replace B := Rw.next B BD
  replace k0 := (BD.block _ zk0).trans k0
  replace zk0 := Nat.lt_of_lt_of_le zk0 BD.size
  replace k1 := (BD.block _ zk1).trans k1
  replace zk1 := Nat.lt_of_lt_of_le zk1 BD.size
  replace r0v := r0v.below BD
  replace r0m := r0m.below BD
  replace r1v := r1v.below BD
  replace r1m := r1m.below BD
  replace hx0v := hx0v.below BD
  replace hx0m := hx0m.below BD
  replace kx0 := (BD.block _ zkx0).trans kx0
  replace zkx0 := Nat.lt_of_lt_of_le zkx0 BD.size
  replace hx1v := hx1v.below BD
  replace hx1m := hx1m.below BD
  replace kx1 := (BD.block _ zkx1).trans kx1
  replace zkx1 := Nat.lt_of_lt_of_le zkx1 BD.size
  clear BD
  refine Pq.take (i := 0) (d := some 35) (v := .agg #[.slice (some ⟨gx0v, 0, none⟩) V0.length V0.length, .slice (some ⟨gx0m, 0, none⟩) M0.length M0.length]) rfl (by kernel_rfl) (by kernel_rfl) (by kernel_rfl) (by kernel_rfl) (fun _ _ _ h => h) (Or.inl ⟨by rfl, by intro w hSw; obtain ⟨q0, q1⟩ := hSw; obtain ⟨t0, t1⟩ := Pm.two q0; go_simp⟩) hHeld ?_
  simp only [Act.put, List.setIfInBounds_toArray, List.set_cons_zero, List.set_cons_succ]
  refine Pq.take (i := 1) (d := some 36) (v := .agg #[.slice a0v V0.length c0v, .slice a0m M0.length c0m]) rfl (by kernel_rfl) (by kernel_rfl) (by kernel_rfl) (by kernel_rfl) (fun _ _ _ h => h) (Or.inl ⟨by rfl, by intro w hSw; obtain ⟨q0, q1⟩ := hSw; obtain ⟨t0, t1⟩ := Pm.two q1; go_simp⟩) hHeld ?_
  simp only [Act.put, List.setIfInBounds_toArray, List.set_cons_zero, List.set_cons_succ]
  refine wpAnyH_ready (rs := [2]) (by kernel_rfl) (by simp) (Rg.call1 rfl (by kernel_rfl) 29 (.tmp 36) 40 (by kernel_rfl) 37 (by kernel_rfl) (.agg #[.slice a0v V0.length c0v, .slice a0m M0.length c0m]) (by kernel_rfl) (fun _ => rfl) (Lm.toMatch_any _ _ _ _ _ _ _ _ _ _ _ r0v r0m) ?_ AllReadyH.nil)
  rintro e w9 ⟨gyv, gym, rfl, hb, gylv, gylm, gyne, hyv, hym⟩
  refine ⟨_, rfl, ⟨(hb.block _ zkx0).trans kx0, (hb.block _ zk0).trans k0⟩, fun hHeld => ?_⟩
  simp only [Act.put, List.setIfInBounds_toArray, List.set_cons_zero, List.set_cons_succ]
  have sz9 := hb.size
  replace B := Rw.next B hb
  replace k0 := (hb.block _ zk0).trans k0
  replace zk0 := Nat.lt_of_lt_of_le zk0 hb.size
  replace k1 := (hb.block _ zk1).trans k1
  replace zk1 := Nat.lt_of_lt_of_le zk1 hb.size
  replace r0v := r0v.below hb
  replace r0m := r0m.below hb
  replace r1v := r1v.below hb
  replace r1m := r1m.below hb
  replace hx0v := hx0v.below hb
  replace hx0m := hx0m.below hb
  replace kx0 := (hb.block _ zkx0).trans kx0
  replace zkx0 := Nat.lt_of_lt_of_le zkx0 hb.size
  replace hx1v := hx1v.below hb
  replace hx1m := hx1m.below hb
  replace kx1 := (hb.block _ zkx1).trans kx1
  replace zkx1 := Nat.lt_of_lt_of_le zkx1 hb.size
  clear hb
  refine wpAnyH_ready (rs := [3]) (by kernel_rfl) (by simp) (Rg.call2 rfl (by kernel_rfl) 31 (.tmp 35) (.tmp 37) 25 25 (by kernel_rfl) 38 (by kernel_rfl) (.agg #[.slice (some ⟨gx0v, 0, none⟩) V0.length V0.length, .slice (some ⟨gx0m, 0, none⟩) M0.length M0.length]) (.agg #[.slice (some ⟨gyv, 0, none⟩) V0.length V0.length, .slice (some ⟨gym, 0, none⟩) M0.length M0.length]) (by kernel_rfl) (by kernel_rfl) (fun _ => rfl) (Lm.eqMatch_same _ _ _ _ _ _ _ _ _ _ _ _ _ _ _ _ V0 M0 _ hx0v.rd hx0m.rd hyv.rd hym.rd) ?_ AllReadyH.nil)
  rintro e w10 ⟨rfl, hb⟩
  refine ⟨_, rfl, ⟨(hb.block _ zkx0).trans kx0, (hb.block _ zk0).trans k0⟩, fun hHeld => ?_⟩
  simp only [Act.put, List.setIfInBounds_toArray, List.set_cons_zero, List.set_cons_succ]
  have sz10 := hb.size
  replace B := Rw.next B hb
  replace k0 := (hb.block _ zk0).trans k0
  replace zk0 := Nat.lt_of_lt_of_le zk0 hb.size
  replace k1 := (hb.block _ zk1).trans k1
  replace zk1 := Nat.lt_of_lt_of_le zk1 hb.size
  replace r0v := r0v.below hb
  replace r0m := r0m.below hb
  replace r1v := r1v.below hb
  replace r1m := r1m.below hb
  replace hx0v := hx0v.below hb
  replace hx0m := hx0m.below hb
  replace kx0 := (hb.block _ zkx0).trans kx0
  replace zkx0 := Nat.lt_of_lt_of_le zkx0 hb.size
  replace hx1v := hx1v.below hb
  replace hx1m := hx1m.below hb
  replace kx1 := (hb.block _ zkx1).trans kx1
  replace zkx1 := Nat.lt_of_lt_of_le zkx1 hb.size
  replace hyv := hyv.below hb
  replace hym := hym.below hb
  clear hb
  clear hyv hym
  refine Pq.take (i := 4) (d := some 39) (v := .bool false) rfl (by kernel_rfl) (by kernel_rfl) (by kernel_rfl) (by kernel_rfl) (fun _ _ _ h => h) (Or.inl ⟨by rfl, by intro w hSw; go_simp⟩) hHeld ?_
  simp only [Act.put, List.setIfInBounds_toArray, List.set_cons_zero, List.set_cons_succ]
  refine wpAnyH_done (by kernel_rfl) ?_ _
  obtain ⟨c0v, c0m⟩ := Pm.two k0
  obtain ⟨c1v, c1m⟩ := Pm.two k1
  obtain ⟨x0v, x0m⟩ := Pm.two kx0
  obtain ⟨x1v, x1m⟩ := Pm.two kx1
  go_wp2_with fail
  clear c0v c0m c1v c1m x0v x0m x1v x1m
  refine wp_region_held_drew (S := (fun w' => w'.heap[w7.heap.size]? = some (.cells #[.slice (some ⟨gx1v, 0, none⟩) V1.length V1.length, .slice (some ⟨gx1m, 0, none⟩) M1.length M1.length] 25 (0, 0)) ∧ w'.heap[w.heap.size + 1]? = some (.cells #[.slice a1v V1.length c1v, .slice a1m M1.length c1m] 40 (0, 0)))) (by kernel_rfl) ⟨kx1, k1⟩ (fun hHeld => ?_)
  have BD : Below w10.heap.size w10 w10.drew := (Below.refl _ _).drew
  replace B := Rw.next B BD
  replace k0 := (BD.block _ zk0).trans k0
  replace zk0 := Nat.lt_of_lt_of_le zk0 BD.size
  replace k1 := (BD.block _ zk1).trans k1
  replace zk1 := Nat.lt_of_lt_of_le zk1 BD.size
  replace r0v := r0v.below BD
  replace r0m := r0m.below BD
  replace r1v := r1v.below BD
  replace r1m := r1m.below BD
  replace hx0v := hx0v.below BD
  replace hx0m := hx0m.below BD
  replace kx0 := (BD.block _ zkx0).trans kx0
  replace zkx0 := Nat.lt_of_lt_of_le zkx0 BD.size
  replace hx1v := hx1v.below BD
  replace hx1m := hx1m.below BD
  replace kx1 := (BD.block _ zkx1).trans kx1
  replace zkx1 := Nat.lt_of_lt_of_le zkx1 BD.size
  clear BD
  refine Pq.take (i := 0) (d := some 40) (v := .agg #[.slice (some ⟨gx1v, 0, none⟩) V1.length V1.length, .slice (some ⟨gx1m, 0, none⟩) M1.length M1.length]) rfl (by kernel_rfl) (by kernel_rfl) (by kernel_rfl) (by kernel_rfl) (fun _ _ _ h => h) (Or.inl ⟨by rfl, by intro w hSw; obtain ⟨q0, q1⟩ := hSw; obtain ⟨t0, t1⟩ := Pm.two q0; go_simp⟩) hHeld ?_
  simp only [Act.put, List.setIfInBounds_toArray, List.set_cons_zero, List.set_cons_succ]
  refine Pq.take (i := 1) (d := some 41) (v := .agg #[.slice a1v V1.length c1v, .slice a1m M1.length c1m]) rfl (by kernel_rfl) (by kernel_rfl) (by kernel_rfl) (by kernel_rfl) (fun _ _ _ h => h) (Or.inl ⟨by rfl, by intro w hSw; obtain ⟨q0, q1⟩ := hSw; obtain ⟨t0, t1⟩ := Pm.two q1; go_simp⟩) hHeld ?_
  simp only [Act.put, List.setIfInBounds_toArray, List.set_cons_zero, List.set_cons_succ]
  refine wpAnyH_ready (rs := [2]) (by kernel_rfl) (by simp) (Rg.call1 rfl (by kernel_rfl) 29 (.tmp 41) 40 (by kernel_rfl) 42 (by kernel_rfl) (.agg #[.slice a1v V1.length c1v, .slice a1m M1.length c1m]) (by kernel_rfl) (fun _ => rfl) (Lm.toMatch_any _ _ _ _ _ _ _ _ _ _ _ r1v r1m) ?_ AllReadyH.nil)
  rintro e w11 ⟨gyv, gym, rfl, hb, gylv, gylm, gyne, hyv, hym⟩
  refine ⟨_, rfl, ⟨(hb.block _ zkx1).trans kx1, (hb.block _ zk1).trans k1⟩, fun hHeld => ?_⟩
  simp only [Act.put, List.setIfInBounds_toArray, List.set_cons_zero, List.set_cons_succ]
  have sz11 := hb.size
  replace B := Rw.next B hb
  replace k0 := (hb.block _ zk0).trans k0
  replace zk0 := Nat.lt_of_lt_of_le zk0 hb.size
  replace k1 := (hb.block _ zk1).trans k1
  replace zk1 := Nat.lt_of_lt_of_le zk1 hb.size
  replace r0v := r0v.below hb
  replace r0m := r0m.below hb
  replace r1v := r1v.below hb
  replace r1m := r1m.below hb
  replace hx0v := hx0v.below hb
  replace hx0m := hx0m.below hb
  replace kx0 := (hb.block _ zkx0).trans kx0
  replace zkx0 := Nat.lt_of_lt_of_le zkx0 hb.size
  replace hx1v := hx1v.below hb
  replace hx1m := hx1m.below hb
  replace kx1 := (hb.block _ zkx1).trans kx1
  replace zkx1 := Nat.lt_of_lt_of_le zkx1 hb.size
  clear hb
  refine wpAnyH_ready (rs := [3]) (by kernel_rfl) (by simp) (Rg.call2 rfl (by kernel_rfl) 31 (.tmp 40) (.tmp 42) 25 25 (by kernel_rfl) 43 (by kernel_rfl) (.agg #[.slice (some ⟨gx1v, 0, none⟩) V1.length V1.length, .slice (some ⟨gx1m, 0, none⟩) M1.length M1.length]) (.agg #[.slice (some ⟨gyv, 0, none⟩) V1.length V1.length, .slice (some ⟨gym, 0, none⟩) M1.length M1.length]) (by kernel_rfl) (by kernel_rfl) (fun _ => rfl) (Lm.eqMatch_same _ _ _ _ _ _ _ _ _ _ _ _ _ _ _ _ V1 M1 _ hx1v.rd hx1m.rd hyv.rd hym.rd) ?_ AllReadyH.nil)
  rintro e w12 ⟨rfl, hb⟩
  refine ⟨_, rfl, ⟨(hb.block _ zkx1).trans kx1, (hb.block _ zk1).trans k1⟩, fun hHeld => ?_⟩
  simp only [Act.put, List.setIfInBounds_toArray, List.set_cons_zero, List.set_cons_succ]
  have sz12 := hb.size
  replace B := Rw.next B hb
  replace k0 := (hb.block _ zk0).trans k0
  replace zk0 := Nat.lt_of_lt_of_le zk0 hb.size
  replace k1 := (hb.block _ zk1).trans k1
  replace zk1 := Nat.lt_of_lt_of_le zk1 hb.size
  replace r0v := r0v.below hb
  replace r0m := r0m.below hb
  replace r1v := r1v.below hb
  replace r1m := r1m.below hb
  replace hx0v := hx0v.below hb
  replace hx0m := hx0m.below hb
  replace kx0 := (hb.block _ zkx0).trans kx0
  replace zkx0 := Nat.lt_of_lt_of_le zkx0 hb.size
  replace hx1v := hx1v.below hb
  replace hx1m := hx1m.below hb
  replace kx1 := (hb.block _ zkx1).trans kx1
  replace zkx1 := Nat.lt_of_lt_of_le zkx1 hb.size
  replace hyv := hyv.below hb
  replace hym := hym.below hb
  clear hb
  clear hyv hym
  refine Pq.take (i := 4) (d := some 44) (v := .bool false) rfl (by kernel_rfl) (by kernel_rfl) (by kernel_rfl) (by kernel_rfl) (fun _ _ _ h => h) (Or.inl ⟨by rfl, by intro w hSw; go_simp⟩) hHeld ?_
  simp only [Act.put, List.setIfInBounds_toArray, List.set_cons_zero, List.set_cons_succ]
  refine wpAnyH_done (by kernel_rfl) ?_ _
  obtain ⟨c0v, c0m⟩ := Pm.two k0
  obtain ⟨c1v, c1m⟩ := Pm.two k1
  obtain ⟨x0v, x0m⟩ := Pm.two kx0
  obtain ⟨x1v, x1m⟩ := Pm.two kx1
  go_wp2
  go_ret
  exact ⟨rfl, B⟩

set_option maxRecDepth 100000 in
theorem lifted (os : Os) (started : os.Started) (H : Type) (enc : TypeId × Value → H) :
    ReturnsInHanded {} Try.checked os 11 .any (Rows.fnExactMeetsSpec.pre6 enc Try.prog Try.f11 Rows.fnExactMeetsRow.domain false) (Rows.fnExactMeetsSpec.post enc Try.prog Try.f11 false true false false) := by
  refine returnsInHanded_of_change (C := Try.checked) own started (by kernel_rfl) Try.func11
    (ChangeSpec.witness6 (enc := enc) (C := Try.checked) false ⟨#[], #[.agg #[.slice none 0 0, .slice none 0 0], .agg #[.slice none 0 0, .slice none 0 0]], []⟩ 8 (by kernel_rfl) (by kernel_rfl) (by kernel_rfl) (by kernel_rfl)) ?_
  intro W base args ds gs before hval0 hW hcnd _
  have hval : ∀ (j : Nat) t v, Try.f11.params[j]? = some t → args[j]? = some v → Value.okWide Try.prog W .any base t v := hval0
  have hW' := hW
  obtain ⟨p, q, hA0, hV, rfl, hfz, hnd⟩ := hW
  have hA : DataW.TrodAll enc Try.prog W 0 (fun _ => true) true Try.f11.params.toList args.toList ds p := hA0
  rw [Try.params11] at hA hval
  obtain ⟨v0, vs0, d0, ds0, p0, q0, hargs, rfl, rfl, h0, r0⟩ := trodAll_cons hA
  obtain ⟨v1, vs1, d1, ds1, p1, q1, rfl, rfl, rfl, h1, r1⟩ := trodAll_cons r0
  obtain ⟨rfl, rfl, rfl⟩ := trodAll_nil r1
  obtain rfl : args = #[v0, v1] := by cases args; simp_all
  obtain ⟨rfl, rfl⟩ := trodVars_none hV
  have k0 := h0
  have lt0 : ∀ x ∈ p0, x.block < W.heap.size := by obtain ⟨m, hm⟩ := k0; exact DataW.trod_lt m _ _ _ hm
  have k1 := h1
  have lt1 : ∀ x ∈ p1, x.block < W.heap.size := by obtain ⟨m, hm⟩ := k1; exact DataW.trod_lt m _ _ _ hm
  obtain ⟨a0v, n0v, c0v, z0v, a0m, n0m, c0m, z0m, rfl, w0v, w0m⟩ := Lm.open_match (hval 0 40 v0 rfl rfl) h0
  obtain ⟨a1v, n1v, c1v, z1v, a1m, n1m, c1m, z1m, rfl, w1v, w1m⟩ := Lm.open_match (hval 1 40 v1 rfl rfl) h1
  clear hA0 hval0
  refine (walk a0v n0v c0v z0v a0m n0m c0m z0m a1v n1v c1v z1v a1m n1m c1m z1m W w0v w0m w1v w1m).mono fun e W' ⟨he, bel⟩ => ?_
  subst he
  exact ⟨_, rfl, _, _, _, [], _, [], hW', trodAll_mk1 (shut_bool Try.underlying4 _), (trodAll_cons_mk (Below.trod laidOut (by kernel_rfl) (of_decide_eq_true (by kernel_rfl)) k0 bel lt0) (trodAll_cons_mk (Below.trod laidOut (by kernel_rfl) (of_decide_eq_true (by kernel_rfl)) k1 bel lt1) trodAll_mk0)), rfl, bel.frame _, fun h => by cases h⟩

theorem over : Rows.fnExactMeetsRow.holds Try.pinned (OpenSpec.ofChange Rows.fnExactMeetsSpec) :=
  OpenClaim.holds_of_wide 11 Try.f11 rfl rfl rfl rfl rfl rfl rfl ⟨rfl, rfl, rfl, rfl, rfl⟩ rfl rfl rfl rfl rfl (by kernel_rfl) Try.func11 (by kernel_rfl)
    (of_decide_eq_true (by kernel_rfl)) (by unfold Func.isWrapper; first | (rw [if_pos (by decide +kernel)]; kernel_rfl) | (rw [if_neg (by decide +kernel)]; exact ⟨rfl, rfl⟩))
    (fun os started H enc _ => lifted os started H enc)

theorem proved : Rows.FnExactMeetsSaid := over
end Go.Proofs.Ytbplpfcplpoeiaa.fnExactMeets

namespace Go.Proofs.Ytbplpfcplpoeiaa
theorem FnExactMeets_holds : Rows.FnExactMeetsSaid := fnExactMeets.proved
end Go.Proofs.Ytbplpfcplpoeiaa
